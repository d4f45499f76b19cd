/- Grown slices of ints, by contracts. -/
import Derived.Test.YtkkcakblphebjaaVB
import Derived.WalkSpells
import Derived.Deep.RegionHeld3
import Derived.Deep.AppendLies
namespace Go.Proofs.Ytkkcakblphebjaa
set_option linter.unusedVariables false
set_option linter.unusedSimpArgs false
open Go.RowKit Go.Lib
/-- numbers as cells -/
def ivs (L : List Nat) : List Value := L.map fun x : Nat => Value.int .i64 (x : Int)
theorem ivs_length (L : List Nat) : (ivs L).length = L.length := by simp [ivs]
theorem ivs_append (L M : List Nat) : ivs (L ++ M) = ivs L ++ ivs M := by simp [ivs]
theorem ivs_one (L : List Nat) : ∀ u ∈ ivs L, u.oneCell' = true := by
  intro u hu; obtain ⟨x, _, rfl⟩ := List.mem_map.1 hu; rfl
theorem infoIntP : (Try.prog.info? 3).map (fun i => (i.zero, i.size, i.bytes)) = some (some (.int .i64 0), 1, 8) := by kernel_rfl
theorem int_append {ops : Array Oper} {rest : List Oper} {o : Oper} {a : Act} {Q : Exit → Act → World → Prop} (hgd : o.guard = none) (s x : Operand)
    (ho : o.op = .call { callee := .builtin .append, args := #[s, x], argTypes := #[22, 22] })
    {w wr : World} {L : List Nat} {v : Value} (hs : a.eval s = v) (hb : VB w wr v (ivs L)) {c : Int} {d : Nat}
    (hx : a.eval x = .slice (some ⟨wr.heap.size, 0, none⟩) 1 1) (h0 : c = (d : Int)) (hlen : L.length + 1 ≤ 1000000)
    (h : ∀ v' w', VB w w' v' (ivs (L ++ [d])) → wpList Try.prog ops Q rest (a.put o.dst v') w') : wpList Try.prog ops Q (o :: rest) a (wr.alloc (.cells #[.int .i64 c] 3)) := by
  subst h0
  obtain ⟨i0, hi, hz0, hz1, hz2⟩ := info_parts infoIntP
  refine vb_append hgd s x Try.underlying22 hi hz0 hz1 rfl (by rw [hz2]; decide) ho hs (hb.alloc _) hx (src_one Try.underlying22 wr (.int .i64 (d : Int)) 3 rfl) (Nat.zero_lt_one) (by rw [ivs_length]; show L.length + 1 ≤ _; omega) fun v' w' h1 _ _ _ => h v' w' ?_
  rw [ivs_append]; exact h1
theorem ivs_get (L : List Nat) (i : Nat) (h : i < L.length) : (ivs L)[i]? = some (.int .i64 ((L[i]'h : Nat) : Int)) := by
  unfold ivs
  rw [List.getElem?_map, List.getElem?_eq_getElem h]; rfl
end Go.Proofs.Ytkkcakblphebjaa
