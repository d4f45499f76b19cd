/- A deed, by a contract. -/
import Derived.Test.YtpndjdiknlmddaaPaceM
namespace Go.Proofs.Ytpndjdiknlmddaa
set_option linter.unusedVariables false
open Go.RowKit Go.Lib

theorem does_end {R : Ending → World → Prop} {a : Act} {X : World} {g : Nat} {c0 c1 c2 c3 c4 c5 : Value} (h4 : a.tmps.getD 4 undef = .pointer (some ⟨g, 0, none⟩)) (hd : a.defers = [])
    (hX : X.heap[g]? = some (.cells #[c0, c1, c2, c3, c4, c5] 24 (0, 0))) (hR : R (.returned (.agg #[c0, c1, c2, c3, c4, c5])) X) : bodyPost Try.prog Try.f8 R .ret a X := by
  obtain ⟨y0, y1, y2, y3, y4, y5⟩ := six_at hX
  have h4' : a.tmps[4]?.getD undef = .pointer (some ⟨g, 0, none⟩) := by rw [← h4]; simp
  exact bodyPost_ret (v := .agg #[c0, c1, c2, c3, c4, c5]) (by simp [results, Try.results8, h4', go_sem, y0, y1, y2, y3, y4, y5]) hd hR

def PS.val (p : PS) : Value := .agg #[.int .i64 p.t, .int .i64 p.v, .bool p.c, .int .i64 p.d, .int .i64 p.m, .int .i64 p.o]
set_option maxRecDepth 100000 in
set_option maxHeartbeats 4000000 in
theorem does_any (t v : Int) (c : Bool) (d m o k n : Int) (w : World) (h : PS.Ok ⟨t, v, c, d, m, o⟩) :
    Calls Try.prog 8 #[.agg #[.int .i64 t, .int .i64 v, .bool c, .int .i64 d, .int .i64 m, .int .i64 o], .agg #[.int .i64 k, .int .i64 n]] w fun e w' => e = .returned ((PS.step ⟨t, v, c, d, m, o⟩ k n).val) ∧ Below w.heap.size w w' := by
  have t0 : 0 ≤ t := h.t0
  have t1 : t ≤ 512 := h.t1
  have v0 : 0 ≤ v := h.v0
  have v1 : v ≤ 260 := h.v1
  have d0 : 0 ≤ d := h.d0
  have d1 : d ≤ 6 := h.d1
  have m0 : 0 ≤ m := h.m0
  have m1 : m ≤ 1008 := h.m1
  have o0 : o = 0 ∨ 32 ≤ o := h.o0
  have o1 : o ≤ 512 := h.o1
  clear h
  by_cases hk : 0 ≤ k ∧ k ≤ 3
  · have hs : PS.step ⟨t, v, c, d, m, o⟩ k n = PS.came ⟨t, v, c, d, m, o⟩ n := by unfold PS.step; rw [if_pos hk]
    have HS := Kept.mk hs; clear hs
    have hc : k = 0 ∨ k = 1 ∨ k = 2 ∨ k = 3 := by omega
    clear hk
    rcases hc with rfl | rfl | rfl | rfl
    · go_enter Try.func8, Try.ntmps8
      go_wp2_with fail
      refine (came_any t v c d m o n _ t0 t1 v0 v1 m0 m1 o0 o1).mono ?_
      rintro e w1 ⟨rfl, hb1⟩
      have hB : w1.heap[w.heap.size + 2]? = some (.cells #[.int .i64 0, .int .i64 0, .bool false, .int .i64 0, .int .i64 0, .int .i64 0] 24 (0, 0)) := by
        rw [hb1.block _ (by simp)]
        exact heap_new _ _ _ (by simp)
      obtain ⟨b0, b1, b2, b3, b4, b5⟩ := six_at hB
      have bf : ∀ j : Nat, w1.frozen? ⟨w.heap.size + 2, j, none⟩ = false := fun j => Joins.unfrozen_of_block hB j
      have HB := Kept.mk hB
      have hbel : Below w.heap.size w w1 := by
        refine Below.trans ?_ (hb1.mono (by simp; omega))
        (repeat (first | (with_reducible exact Below.refl _ _) | ((with_reducible refine Below.setCell ?_ ?_ _); rotate_left; focus (first | omega | (simp; done) | (simp; omega))) | ((with_reducible refine Below.alloc ?_ ?_ _); rotate_left; focus (first | omega | (simp; done) | (simp; omega))) | (with_reducible refine Below.drew ?_)))
      have HBel := Kept.mk hbel
      clear hB hb1 hbel
      go_wp2_with fail
      refine does_end rfl rfl (six_cells w1 (w.heap.size + 2) _ _ _ _ _ _ _ _ _ _ _ _ _ HB.out) ⟨?_, ?_⟩
      · rw [HS.out]; rfl
      · refine Below.trans HBel.out ?_
        (repeat (first | (with_reducible exact Below.refl _ _) | ((with_reducible refine Below.setCell ?_ ?_ _); rotate_left; focus (first | omega | (simp; done) | (simp; omega))) | ((with_reducible refine Below.alloc ?_ ?_ _); rotate_left; focus (first | omega | (simp; done) | (simp; omega))) | (with_reducible refine Below.drew ?_)))
    · go_enter Try.func8, Try.ntmps8
      go_wp2_with fail
      refine (came_any t v c d m o n _ t0 t1 v0 v1 m0 m1 o0 o1).mono ?_
      rintro e w1 ⟨rfl, hb1⟩
      have hB : w1.heap[w.heap.size + 2]? = some (.cells #[.int .i64 0, .int .i64 0, .bool false, .int .i64 0, .int .i64 0, .int .i64 0] 24 (0, 0)) := by
        rw [hb1.block _ (by simp)]
        exact heap_new _ _ _ (by simp)
      obtain ⟨b0, b1, b2, b3, b4, b5⟩ := six_at hB
      have bf : ∀ j : Nat, w1.frozen? ⟨w.heap.size + 2, j, none⟩ = false := fun j => Joins.unfrozen_of_block hB j
      have HB := Kept.mk hB
      have hbel : Below w.heap.size w w1 := by
        refine Below.trans ?_ (hb1.mono (by simp; omega))
        (repeat (first | (with_reducible exact Below.refl _ _) | ((with_reducible refine Below.setCell ?_ ?_ _); rotate_left; focus (first | omega | (simp; done) | (simp; omega))) | ((with_reducible refine Below.alloc ?_ ?_ _); rotate_left; focus (first | omega | (simp; done) | (simp; omega))) | (with_reducible refine Below.drew ?_)))
      have HBel := Kept.mk hbel
      clear hB hb1 hbel
      go_wp2_with fail
      refine does_end rfl rfl (six_cells w1 (w.heap.size + 2) _ _ _ _ _ _ _ _ _ _ _ _ _ HB.out) ⟨?_, ?_⟩
      · rw [HS.out]; rfl
      · refine Below.trans HBel.out ?_
        (repeat (first | (with_reducible exact Below.refl _ _) | ((with_reducible refine Below.setCell ?_ ?_ _); rotate_left; focus (first | omega | (simp; done) | (simp; omega))) | ((with_reducible refine Below.alloc ?_ ?_ _); rotate_left; focus (first | omega | (simp; done) | (simp; omega))) | (with_reducible refine Below.drew ?_)))
    · go_enter Try.func8, Try.ntmps8
      go_wp2_with fail
      refine (came_any t v c d m o n _ t0 t1 v0 v1 m0 m1 o0 o1).mono ?_
      rintro e w1 ⟨rfl, hb1⟩
      have hB : w1.heap[w.heap.size + 2]? = some (.cells #[.int .i64 0, .int .i64 0, .bool false, .int .i64 0, .int .i64 0, .int .i64 0] 24 (0, 0)) := by
        rw [hb1.block _ (by simp)]
        exact heap_new _ _ _ (by simp)
      obtain ⟨b0, b1, b2, b3, b4, b5⟩ := six_at hB
      have bf : ∀ j : Nat, w1.frozen? ⟨w.heap.size + 2, j, none⟩ = false := fun j => Joins.unfrozen_of_block hB j
      have HB := Kept.mk hB
      have hbel : Below w.heap.size w w1 := by
        refine Below.trans ?_ (hb1.mono (by simp; omega))
        (repeat (first | (with_reducible exact Below.refl _ _) | ((with_reducible refine Below.setCell ?_ ?_ _); rotate_left; focus (first | omega | (simp; done) | (simp; omega))) | ((with_reducible refine Below.alloc ?_ ?_ _); rotate_left; focus (first | omega | (simp; done) | (simp; omega))) | (with_reducible refine Below.drew ?_)))
      have HBel := Kept.mk hbel
      clear hB hb1 hbel
      go_wp2_with fail
      refine does_end rfl rfl (six_cells w1 (w.heap.size + 2) _ _ _ _ _ _ _ _ _ _ _ _ _ HB.out) ⟨?_, ?_⟩
      · rw [HS.out]; rfl
      · refine Below.trans HBel.out ?_
        (repeat (first | (with_reducible exact Below.refl _ _) | ((with_reducible refine Below.setCell ?_ ?_ _); rotate_left; focus (first | omega | (simp; done) | (simp; omega))) | ((with_reducible refine Below.alloc ?_ ?_ _); rotate_left; focus (first | omega | (simp; done) | (simp; omega))) | (with_reducible refine Below.drew ?_)))
    · go_enter Try.func8, Try.ntmps8
      go_wp2_with fail
      refine (came_any t v c d m o n _ t0 t1 v0 v1 m0 m1 o0 o1).mono ?_
      rintro e w1 ⟨rfl, hb1⟩
      have hB : w1.heap[w.heap.size + 2]? = some (.cells #[.int .i64 0, .int .i64 0, .bool false, .int .i64 0, .int .i64 0, .int .i64 0] 24 (0, 0)) := by
        rw [hb1.block _ (by simp)]
        exact heap_new _ _ _ (by simp)
      obtain ⟨b0, b1, b2, b3, b4, b5⟩ := six_at hB
      have bf : ∀ j : Nat, w1.frozen? ⟨w.heap.size + 2, j, none⟩ = false := fun j => Joins.unfrozen_of_block hB j
      have HB := Kept.mk hB
      have hbel : Below w.heap.size w w1 := by
        refine Below.trans ?_ (hb1.mono (by simp; omega))
        (repeat (first | (with_reducible exact Below.refl _ _) | ((with_reducible refine Below.setCell ?_ ?_ _); rotate_left; focus (first | omega | (simp; done) | (simp; omega))) | ((with_reducible refine Below.alloc ?_ ?_ _); rotate_left; focus (first | omega | (simp; done) | (simp; omega))) | (with_reducible refine Below.drew ?_)))
      have HBel := Kept.mk hbel
      clear hB hb1 hbel
      go_wp2_with fail
      refine does_end rfl rfl (six_cells w1 (w.heap.size + 2) _ _ _ _ _ _ _ _ _ _ _ _ _ HB.out) ⟨?_, ?_⟩
      · rw [HS.out]; rfl
      · refine Below.trans HBel.out ?_
        (repeat (first | (with_reducible exact Below.refl _ _) | ((with_reducible refine Below.setCell ?_ ?_ _); rotate_left; focus (first | omega | (simp; done) | (simp; omega))) | ((with_reducible refine Below.alloc ?_ ?_ _); rotate_left; focus (first | omega | (simp; done) | (simp; omega))) | (with_reducible refine Below.drew ?_)))
  by_cases h4 : k = 4
  · have hs : PS.step ⟨t, v, c, d, m, o⟩ k n = PS.lost ⟨t, v, c, d, m, o⟩ := by unfold PS.step; rw [if_neg hk, if_pos h4]
    subst h4
    have HS := Kept.mk hs; clear hs hk
    go_enter Try.func8, Try.ntmps8
    go_wp2_with fail
    refine (lost_any t v c d m o _ m0 m1 d0 d1).mono ?_
    rintro e w1 ⟨rfl, hb1⟩
    have hB : w1.heap[w.heap.size + 2]? = some (.cells #[.int .i64 0, .int .i64 0, .bool false, .int .i64 0, .int .i64 0, .int .i64 0] 24 (0, 0)) := by
      rw [hb1.block _ (by simp)]
      exact heap_new _ _ _ (by simp)
    obtain ⟨b0, b1, b2, b3, b4, b5⟩ := six_at hB
    have bf : ∀ j : Nat, w1.frozen? ⟨w.heap.size + 2, j, none⟩ = false := fun j => Joins.unfrozen_of_block hB j
    have HB := Kept.mk hB
    have hbel : Below w.heap.size w w1 := by
      refine Below.trans ?_ (hb1.mono (by simp; omega))
      (repeat (first | (with_reducible exact Below.refl _ _) | ((with_reducible refine Below.setCell ?_ ?_ _); rotate_left; focus (first | omega | (simp; done) | (simp; omega))) | ((with_reducible refine Below.alloc ?_ ?_ _); rotate_left; focus (first | omega | (simp; done) | (simp; omega))) | (with_reducible refine Below.drew ?_)))
    have HBel := Kept.mk hbel
    clear hB hb1 hbel
    go_wp2_with fail
    refine does_end rfl rfl (six_cells w1 (w.heap.size + 2) _ _ _ _ _ _ _ _ _ _ _ _ _ HB.out) ⟨?_, ?_⟩
    · rw [HS.out]; rfl
    · refine Below.trans HBel.out ?_
      (repeat (first | (with_reducible exact Below.refl _ _) | ((with_reducible refine Below.setCell ?_ ?_ _); rotate_left; focus (first | omega | (simp; done) | (simp; omega))) | ((with_reducible refine Below.alloc ?_ ?_ _); rotate_left; focus (first | omega | (simp; done) | (simp; omega))) | (with_reducible refine Below.drew ?_)))
  · have hs : PS.step ⟨t, v, c, d, m, o⟩ k n = PS.gap ⟨t, v, c, d, m, o⟩ := by unfold PS.step; rw [if_neg hk, if_neg h4]
    have HS := Kept.mk hs; clear hs
    have k0 : (k == 0) = false := by rw [beq_eq_false_iff_ne]; omega
    have k1 : (k == 1) = false := by rw [beq_eq_false_iff_ne]; omega
    have k2 : (k == 2) = false := by rw [beq_eq_false_iff_ne]; omega
    have k3 : (k == 3) = false := by rw [beq_eq_false_iff_ne]; omega
    have k4 : (k == 4) = false := by rw [beq_eq_false_iff_ne]; omega
    clear hk h4
    go_enter Try.func8, Try.ntmps8
    go_wp2_with fail
    refine (gap_any t v c d m o _ m0 m1).mono ?_
    rintro e w1 ⟨rfl, hb1⟩
    have hB : w1.heap[w.heap.size + 2]? = some (.cells #[.int .i64 0, .int .i64 0, .bool false, .int .i64 0, .int .i64 0, .int .i64 0] 24 (0, 0)) := by
      rw [hb1.block _ (by simp)]
      exact heap_new _ _ _ (by simp)
    obtain ⟨b0, b1, b2, b3, b4, b5⟩ := six_at hB
    have bf : ∀ j : Nat, w1.frozen? ⟨w.heap.size + 2, j, none⟩ = false := fun j => Joins.unfrozen_of_block hB j
    have HB := Kept.mk hB
    have hbel : Below w.heap.size w w1 := by
      refine Below.trans ?_ (hb1.mono (by simp; omega))
      (repeat (first | (with_reducible exact Below.refl _ _) | ((with_reducible refine Below.setCell ?_ ?_ _); rotate_left; focus (first | omega | (simp; done) | (simp; omega))) | ((with_reducible refine Below.alloc ?_ ?_ _); rotate_left; focus (first | omega | (simp; done) | (simp; omega))) | (with_reducible refine Below.drew ?_)))
    have HBel := Kept.mk hbel
    clear hB hb1 hbel
    go_wp2_with fail
    refine does_end rfl rfl (six_cells w1 (w.heap.size + 2) _ _ _ _ _ _ _ _ _ _ _ _ _ HB.out) ⟨?_, ?_⟩
    · rw [HS.out]; rfl
    · refine Below.trans HBel.out ?_
      (repeat (first | (with_reducible exact Below.refl _ _) | ((with_reducible refine Below.setCell ?_ ?_ _); rotate_left; focus (first | omega | (simp; done) | (simp; omega))) | ((with_reducible refine Below.alloc ?_ ?_ _); rotate_left; focus (first | omega | (simp; done) | (simp; omega))) | (with_reducible refine Below.drew ?_)))
end Go.Proofs.Ytpndjdiknlmddaa
