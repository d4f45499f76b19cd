/- A call of the program's own, as one step of a region that draws its order. -/
import Derived.Test.YtkkcakblphebjaaDoorKit
import Derived.Deep.RegionLaw
namespace Go.Proofs.YtkkcakblphebjaaDoor
set_option linter.unusedVariables false
set_option linter.unusedSimpArgs false
open Go.RowKit Go.Lib
theorem call_step {ops : Array Oper} {E : Prop} {o : Oper} {k : Nat} {f : Operand} {cs : Array Value} {xs : Array Operand} {ts : Array TypeId} {a : Act} {w : World} {K : Act → World → Prop} {Q : Exit → Act → World → Prop} {R : Ending → World → Prop} (vs : Array Value) (hgd : o.guard = none)
    (ho : o.op = .call { callee := .value f, args := xs, argTypes := ts }) (hf : a.eval f = .func (.func k) #[] cs) (hv : xs.toList.map a.eval = vs.toList)
    (hen : ∀ args w, (callFunc k args).run Tryd.prog w = .ok (.enter k args) w) (hc : Calls Tryd.prog k (vs ++ cs) w R) (h : ∀ e w', R e w' → ∃ v, e = .returned v ∧ K (a.put o.dst v) w') :
    if Region.wanted o (yielded ops a.tmps) = true then Oper.wp Tryd.prog o a w K Q else E := by
  have hw : Region.wanted o (yielded ops a.tmps) = true := by simp [Region.wanted, hgd]
  rw [if_pos hw]
  have hv2 : xs.map a.eval = vs := by
    apply Array.toList_inj.1
    rw [Array.toList_map]
    exact hv
  subst hv2
  unfold Oper.wp
  simp [execOp, ho, resolve, invoke, hf, Deferred.ofValue]
  have h1 := hen (Array.map a.eval xs ++ cs) w
  rw [h1, Oper.upon_enter]
  refine hc.mono fun e w' hR => ?_
  obtain ⟨v, rfl, hk⟩ := h e w' hR
  exact hk
theorem enters_at {k : FuncId} {fn : Func} {c : Code} (hf : Tryd.prog.funcs[k]? = some fn) (hname : (fn.name == "runtime.NumGoroutine") = false) (hb : fn.body = some c) (args : Array Value) (w : World) : (callFunc k args).run Tryd.prog w = .ok (.enter k args) w := by
  have h1 : fn.name ≠ "runtime.NumGoroutine" := by simpa using hname
  simp [callFunc, hf, h1, hb, mark]
theorem call_step0 {ops : Array Oper} {E : Prop} {o : Oper} {k : Nat} {f : Operand} {xs : Array Operand} {ts : Array TypeId} {a : Act} {w : World} {K : Act → World → Prop} {Q : Exit → Act → World → Prop} {R : Ending → World → Prop} (vs : Array Value) (hgd : o.guard = none)
    (ho : o.op = .call { callee := .value f, args := xs, argTypes := ts }) (hf : a.eval f = .func (.func k) #[] #[]) (hv : xs.toList.map a.eval = vs.toList)
    (hen : ∀ args w, (callFunc k args).run Tryd.prog w = .ok (.enter k args) w) (hc : Calls Tryd.prog k vs w R) (h : ∀ e w', R e w' → ∃ v, e = .returned v ∧ K (a.put o.dst v) w') :
    if Region.wanted o (yielded ops a.tmps) = true then Oper.wp Tryd.prog o a w K Q else E :=
  call_step vs hgd ho hf hv hen (by rw [Array.append_empty]; exact hc) h
end Go.Proofs.YtkkcakblphebjaaDoor
