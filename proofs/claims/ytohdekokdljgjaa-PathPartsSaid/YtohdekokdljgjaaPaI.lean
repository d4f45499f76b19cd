/- append of what a call has grown itself, as a run: for walks in a fence; a text more in a round. -/
import Derived.Test.YtohdekokdljgjaaShJ
import Derived.OwnWalkIn
namespace Go.Proofs.Ytohdekokdljgjaa
set_option linter.unusedVariables false
set_option linter.unusedSimpArgs false
open Go.RowKit Go.Lib
theorem vb_run {P : Program} (ty : TypeId) {tS tX tE : TypeId} (hu : P.underlying tS = some (.slice tE))
    {i0 : TypeInfo} (hi : P.info? tE = some i0) {z : Value} (hz : i0.zero = some z) (hz1 : i0.size = 1) (hzc : z.cells.size = 1) (hby : i0.bytes ≤ 64)
    {w X : World} {vs ms : List Value} {v xv : Value} (hb : VB w X v vs) (hS : Src P 1 tX xv ms.length ms X) (hne : 0 < ms.length) (hlen : vs.length + ms.length ≤ 1000000000)
    : ∃ v' w', (Builtin.append_ #[tS, tX] ty #[v, xv]).run P X = .ok v' w' ∧ VB w w' v' (vs ++ ms) ∧ X.heap.size ≤ w'.heap.size ∧ (∀ g, g < X.heap.size → (∀ m cap, v ≠ .slice (some ⟨g, 0, none⟩) m cap) → w'.heap[g]? = X.heap[g]? ∧ ∀ m cap, v' ≠ .slice (some ⟨g, 0, none⟩) m cap) := by
  rw [← hz1] at hS
  have grow : ∀ (base : Option Addr) (cap : Nat), v = .slice base vs.length cap → ¬ (vs.length + ms.length ≤ cap) → ((Builtin.firstCells i0.size vs.length (.slice base vs.length cap)).run P X.drew = .ok vs.toArray X.drew) → ∃ v' w', (Builtin.append_ #[tS, tX] ty #[v, xv]).run P X = .ok v' w' ∧ VB w w' v' (vs ++ ms) ∧ X.heap.size ≤ w'.heap.size ∧ (∀ g, g < X.heap.size → (∀ m cap, v ≠ .slice (some ⟨g, 0, none⟩) m cap) → w'.heap[g]? = X.heap[g]? ∧ ∀ m cap, v' ≠ .slice (some ⟨g, 0, none⟩) m cap) := by
    intro base cap hv hroom hold
    have hr := run_append_grow_src (P := P) X tS tX ty tE i0 z hu hi hz base vs.length cap vs hold xv ms.length ms hS (by omega) (by omega) (growslice_fits (by omega) (Nat.le_trans (Nat.mul_le_mul_left _ hby) (by omega)))
    have hge := grownCap_ge X (vs.length + ms.length) cap tE
    generalize grownCap X (vs.length + ms.length) cap tE = G at *
    have hB' : Below w.heap.size w (X.drew.alloc (.cells ((vs ++ ms).toArray ++ Builtin.zeroCells z.cells (G - (vs.length + ms.length))) tE)) := hb.1.drew.alloc (by have := hb.1.size; exact this) _
    subst hv
    refine ⟨_, _, hr, ⟨hB', .inr ⟨X.heap.size, G, _, tE, 0, 0, by rw [List.length_append], hb.1.size, heap_alloc_new X.drew _, by rw [List.length_append]; exact hge, ?_, .inr rfl, ?_⟩⟩, ?_, ?_⟩
    · simp only [Array.size_append, List.size_toArray, size_zeroCells, List.length_append, hzc]
      omega
    · simp only [Array.toList_append]
      show ((vs ++ ms) ++ _).take (vs ++ ms).length = _
      exact List.take_left
    · have e : (X.drew.alloc (.cells ((vs ++ ms).toArray ++ Builtin.zeroCells z.cells (G - (vs.length + ms.length))) tE)).heap.size = X.heap.size + 1 := by simp
      omega
    · intro g hg _
      refine ⟨Go.heap_alloc_old X.drew _ hg, fun m cap e => ?_⟩
      cases e
      omega
  rcases hb.2 with ⟨rfl, hL⟩ | ⟨g, cap, cs, T, f0, f1, hv, hg, hh, hl1, hl2, hl3, hl4⟩
  · subst hL
    exact grow none 0 rfl (by show ¬ (0 + ms.length ≤ 0); omega) (run_firstCells_none _ _ _ _ _)
  · by_cases hroom : vs.length + ms.length ≤ cap
    · have hr := run_append_room_src (P := P) X tS tX ty tE i0 hu hi g 0 vs.length cap xv ms.length ms hS hroom
        (by intro j hj
            rw [cell_of_cells hh, hz1, Array.getElem?_eq_getElem (by omega)]; rfl)
        (by intro j hj
            simp only [World.frozen?, hh, hz1, Bool.and_eq_false_iff, decide_eq_false_iff_not]
            omega)
      rw [hz1, Nat.mul_one, Nat.zero_add] at hr
      have hB' : Below w.heap.size w (X.setCells g vs.length ms) := below_setMany hg ms X vs.length hb.1
      subst hv
      refine ⟨_, _, hr, ⟨hB', .inr ⟨g, cap, _, T, f0, f1, by rw [List.length_append], hg, block_setCells ms X cs vs.length hh, by rw [List.length_append]; exact hroom, by rw [putMany_size]; exact hl2, hl3, ?_⟩⟩, ?_, ?_⟩
      · rw [List.length_append, putMany_take ms cs vs.length (by omega), hl4]
      · rw [heapsize_setCells]; exact Nat.le_refl _
      · intro k hk hap
        refine ⟨setCells_other g ms X vs.length k (fun e => hap vs.length cap (by rw [e])), fun m c2 e => ?_⟩
        cases e
        exact hap vs.length cap rfl
    · refine grow (some ⟨g, 0, none⟩) cap hv hroom (run_firstCells_some X.drew i0.size vs.length ⟨g, 0, none⟩ vs.length cap vs (by rw [hz1, Nat.mul_one]) fun j u hu2 => ?_)
      rw [at_add]
      exact (cell_of_cells (W := X.drew) hh).trans (take_get hl4 hu2)
theorem str_appendIn {F : Fence} {n : Nat} {ops : Array Oper} {rest : List Oper} {o : Oper} {a : Act} {Q : Exit → Act → World → Prop} (hgd : o.guard = none) (s x : Operand)
    (ho : o.op = .call { callee := .builtin .append, args := #[s, x], argTypes := #[57, 57] })
    {w wr : World} {L : List (List UInt8)} {d : List UInt8} {v : Value} (hs : a.eval s = v) (hb : VB w wr v (sts L))
    (hx : a.eval x = .slice (some ⟨wr.heap.size, 0, none⟩) 1 1) (hlen : L.length + 1 ≤ 1000000)
    (h : ∀ v' w', VB w w' v' (sts (L ++ [d])) → wr.heap.size ≤ w'.heap.size → (∀ g, g < wr.heap.size → Apart v g → w'.heap[g]? = wr.heap[g]? ∧ Apart v' g) → wpListIn F n Try.prog ops Q rest (a.put o.dst v') w') : wpListIn F n Try.prog ops Q (o :: rest) a (wr.alloc (.cells #[.string (str d)] 9)) := by
  obtain ⟨i0, hi, hz0, hz1, hz2⟩ := info_parts infoStr
  refine wpListIn_plain hgd fun K hK' => ?_
  obtain ⟨v', w', hrun, r1, r2, r3⟩ := vb_run (P := Try.prog) o.type Try.underlying57 hi hz0 hz1 rfl (by rw [hz2]; decide) (hb.alloc (.cells #[.string (str d)] 9)) (src_one Try.underlying57 wr (.string (str d)) 9 rfl) (Nat.zero_lt_one) (by rw [sts_length]; show L.length + 1 ≤ _; omega)
  have hkeep : ∀ g, g < wr.heap.size → Apart v g → w'.heap[g]? = wr.heap[g]? ∧ Apart v' g := fun g hg ha => by
    obtain ⟨k1, k2⟩ := r3 g (by simp; omega) ha
    exact ⟨k1.trans (Below.heap_alloc wr _ g hg), k2⟩
  have hsz : wr.heap.size ≤ w'.heap.size := Nat.le_trans (by simp) r2
  unfold Oper.wpIn
  refine ⟨?_, ?_⟩
  · simp [Oper.about, ho, resolve, Target.leads, Sem.run_pure]
  · rw [Oper.semAt_plain F _ _ (by rw [ho]; intro c hc'; cases hc')]
    simp only [execOp, ho, resolve, invoke, builtin, Sem.run_bind, Sem.run_pure, Result.andThen_ok, List.map_toArray, List.map_cons, List.map_nil, hs, hx, hrun]
    exact hK' _ _ (h v' w' (by rw [sts_snoc]; exact r1) hsz hkeep)
end Go.Proofs.Ytohdekokdljgjaa
