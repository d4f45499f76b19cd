/- append, with where the new slice lies: a slice that stands apart from a block stands apart from it behind an append. For a region that draws. -/
import Derived.Test.YtabeehljpdehcaaDoorVR
import Derived.Deep.RegionHeld3
import Derived.Deep.AppendLies
namespace Go.Proofs.YtabeehljpdehcaaDoor
set_option linter.unusedVariables false
set_option linter.unusedSimpArgs false
open Go.RowKit Go.Lib
/-- append, whatever comes behind -/
theorem vb_step2 {P : Program} {o : Oper} {a : Act} {K : Act → World → Prop} {Q : Exit → Act → World → Prop} (s x : Operand) {tS tX tE : TypeId} (hu : P.underlying tS = some (.slice tE))
    {i0 : TypeInfo} (hi : P.info? tE = some i0) {z : Value} (hz : i0.zero = some z) (hz1 : i0.size = 1) (hzc : z.cells.size = 1) (hby : i0.bytes ≤ 64)
    (ho : o.op = .call { callee := .builtin .append, args := #[s, x], argTypes := #[tS, tX] })
    {w X : World} {vs ms : List Value} {v xv : Value} (hs : a.eval s = v) (hb : VB w X v vs) (hx : a.eval x = xv) (hS : Src P 1 tX xv ms.length ms X) (hne : 0 < ms.length) (hlen : vs.length + ms.length ≤ 1000000000)
    (h : ∀ v' w', VB w w' v' (vs ++ ms) → Below w.heap.size w w' → X.heap.size ≤ w'.heap.size → (∀ g, g < X.heap.size → (∀ m cap, v ≠ .slice (some ⟨g, 0, none⟩) m cap) → w'.heap[g]? = X.heap[g]? ∧ ∀ m cap, v' ≠ .slice (some ⟨g, 0, none⟩) m cap) → K (a.put o.dst v') w') : Oper.wp P o a X K Q := by
  rw [← hz1] at hS
  have grow : ∀ (base : Option Addr) (cap : Nat), v = .slice base vs.length cap → ¬ (vs.length + ms.length ≤ cap) → ((Builtin.firstCells i0.size vs.length (.slice base vs.length cap)).run P X.drew = .ok vs.toArray X.drew) → Oper.wp P o a X K Q := by
    intro base cap hv hroom hold
    have hr := run_append_grow_src (P := P) X tS tX o.type tE i0 z hu hi hz base vs.length cap vs hold xv ms.length ms hS (by omega) (by omega) (growslice_fits (by omega) (Nat.le_trans (Nat.mul_le_mul_left _ hby) (by omega)))
    have hge := grownCap_ge X (vs.length + ms.length) cap tE
    generalize grownCap X (vs.length + ms.length) cap tE = G at *
    have hB' : Below w.heap.size w (X.drew.alloc (.cells ((vs ++ ms).toArray ++ Builtin.zeroCells z.cells (G - (vs.length + ms.length))) tE)) := hb.1.drew.alloc (by have := hb.1.size; exact this) _
    subst hv
    unfold Oper.wp execOp
    simp only [ho, resolve, invoke, builtin, Sem.run_bind, Sem.run_pure, Result.andThen_ok, List.map_toArray, List.map_cons, List.map_nil, hs, hx, hr]
    refine h _ _ ⟨hB', .inr ⟨X.heap.size, G, _, tE, 0, 0, by rw [List.length_append], hb.1.size, heap_alloc_new X.drew _, by rw [List.length_append]; exact hge, ?_, .inr rfl, ?_⟩⟩ hB' ?_ ?_
    · simp only [Array.size_append, List.size_toArray, size_zeroCells, List.length_append, hzc]
      omega
    · simp only [Array.toList_append]
      show ((vs ++ ms) ++ _).take (vs ++ ms).length = _
      exact List.take_left
    · have e : (X.drew.alloc (.cells ((vs ++ ms).toArray ++ Builtin.zeroCells z.cells (G - (vs.length + ms.length))) tE)).heap.size = X.heap.size + 1 := by simp
      omega
    · intro g hg _
      refine ⟨Go.heap_alloc_old X.drew _ hg, fun m cap e => ?_⟩
      cases e
      omega
  rcases hb.2 with ⟨rfl, hL⟩ | ⟨g, cap, cs, T, f0, f1, hv, hg, hh, hl1, hl2, hl3, hl4⟩
  · subst hL
    exact grow none 0 rfl (by show ¬ (0 + ms.length ≤ 0); omega) (run_firstCells_none _ _ _ _ _)
  · by_cases hroom : vs.length + ms.length ≤ cap
    · have hr := run_append_room_src (P := P) X tS tX o.type tE i0 hu hi g 0 vs.length cap xv ms.length ms hS hroom
        (by intro j hj
            rw [cell_of_cells hh, hz1, Array.getElem?_eq_getElem (by omega)]; rfl)
        (by intro j hj
            simp only [World.frozen?, hh, hz1, Bool.and_eq_false_iff, decide_eq_false_iff_not]
            omega)
      rw [hz1, Nat.mul_one, Nat.zero_add] at hr
      have hB' : Below w.heap.size w (X.setCells g vs.length ms) := below_setMany hg ms X vs.length hb.1
      subst hv
      unfold Oper.wp execOp
      simp only [ho, resolve, invoke, builtin, Sem.run_bind, Sem.run_pure, Result.andThen_ok, List.map_toArray, List.map_cons, List.map_nil, hs, hx, hr]
      refine h _ _ ⟨hB', .inr ⟨g, cap, _, T, f0, f1, by rw [List.length_append], hg, block_setCells ms X cs vs.length hh, by rw [List.length_append]; exact hroom, by rw [putMany_size]; exact hl2, hl3, ?_⟩⟩ hB' ?_ ?_
      · rw [List.length_append, putMany_take ms cs vs.length (by omega), hl4]
      · rw [heapsize_setCells]; exact Nat.le_refl _
      · intro k hk hap
        refine ⟨setCells_other g ms X vs.length k (fun e => hap vs.length cap (by rw [e])), fun m c2 e => ?_⟩
        cases e
        exact hap vs.length cap rfl
    · refine grow (some ⟨g, 0, none⟩) cap hv hroom (run_firstCells_some X.drew i0.size vs.length ⟨g, 0, none⟩ vs.length cap vs (by rw [hz1, Nat.mul_one]) fun j u hu2 => ?_)
      rw [at_add]
      exact (cell_of_cells (W := X.drew) hh).trans (take_get hl4 hu2)
/-- the slice does not lie in the block g -/
def Apart (v : Value) (g : Nat) : Prop := ∀ m cap, v ≠ .slice (some ⟨g, 0, none⟩) m cap
theorem apart_nil (g : Nat) : Apart (.slice none 0 0) g := fun m cap e => by cases e
theorem VB.apart {w wr : World} {v : Value} {l : List Value} (h : VB w wr v l) {g : Nat} (hg : wr.heap.size ≤ g) : Apart v g := fun m cap e => by
  rcases h.2 with ⟨rfl, _⟩ | ⟨g2, cap2, cs, T, f0, f1, rfl, _, hh, _⟩
  · cases e
  · cases e
    have := block_lt hh
    omega
theorem byte_step {ops : Array Oper} {E : Prop} {o : Oper} {a : Act} {K : Act → World → Prop} {Q : Exit → Act → World → Prop} (hgd : o.guard = none) (s x : Operand)
    (ho : o.op = .call { callee := .builtin .append, args := #[s, x], argTypes := #[33, 33] })
    {w X : World} {l : List UInt8} {v : Value} (hs : a.eval s = v) (hb : VB w X v (Lib.byteCells l)) {b : Nat} {d : UInt8}
    (hx : a.eval x = .slice (some ⟨b, 0, none⟩) 1 1) (hc : X.cell? ⟨b, 0, none⟩ = some (.int .u8 (d.toNat : Int))) (hlen : l.length + 1 ≤ 1000000)
    (h : ∀ v' w', VB w w' v' (Lib.byteCells (l ++ [d])) → X.heap.size ≤ w'.heap.size → (∀ g, g < X.heap.size → Apart v g → w'.heap[g]? = X.heap[g]? ∧ Apart v' g) → K (a.put o.dst v') w') :
    if Region.wanted o (yielded ops a.tmps) = true then Oper.wp Tryd.prog o a X K Q else E := by
  have hw : Region.wanted o (yielded ops a.tmps) = true := by simp [Region.wanted, hgd]
  rw [if_pos hw]
  obtain ⟨i0, hi, hz0, hz1, hz2⟩ := info_parts infoByte
  have hS : Src Tryd.prog 1 33 (.slice (some ⟨b, 0, none⟩) 1 1) [Value.int .u8 (d.toNat : Int)].length [Value.int .u8 (d.toNat : Int)] X :=
    Src.ofSlice _ Tryd.underlying33 _ 1 1 _ rfl (fun j u2 hj => by
      match j, hj with
      | 0, hj => simp at hj; subst hj; exact hc
      | (j + 1), hj => simp at hj) (fun u2 hu2 => by simp at hu2; subst hu2; rfl)
  refine vb_step2 s x Tryd.underlying33 hi hz0 hz1 rfl (by rw [hz2]; decide) ho hs hb hx hS (Nat.zero_lt_one) (by rw [Lib.byteCells_length]; show l.length + 1 ≤ _; omega) fun v' w' h1 _ h3 h4 => h v' w' ?_ h3 h4
  rw [byteCells_append]; exact h1
end Go.Proofs.YtabeehljpdehcaaDoor
