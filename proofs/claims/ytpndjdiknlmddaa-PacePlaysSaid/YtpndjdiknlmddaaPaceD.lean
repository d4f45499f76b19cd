/- The chapter's example. -/
import Derived.Test.YtpndjdiknlmddaaPaceC
namespace Go.Proofs.Ytpndjdiknlmddaa
set_option linter.unusedVariables false
open Go.RowKit Go.Lib

theorem ex_a : cameT 0 false (clampX 4) = 32 ∧ cameV 0 0 false (clampX 4) = 8 ∧ cameM 0 0 = 16 := by decide
theorem ex_b : cameT 32 true (clampX 4) = 32 ∧ cameV 32 8 true (clampX 4) = 6 ∧ cameM 16 0 = 32 := by decide
theorem ex_w : waitV 32 8 true 0 = 12 ∧ waitV 32 6 true 0 = 10 ∧ waitV 32 6 true 1 = 20 := by decide
theorem block_kept {W w1 : World} {g : Nat} {o : Obj} (h : W.heap[g]? = some o) (hb : Below W.heap.size W w1) : w1.heap[g]? = some o := by
  have hl : g < W.heap.size := (Array.getElem?_eq_some_iff.1 h).1
  rw [hb.block g hl, h]
theorem block_lt {W : World} {g : Nat} {o : Obj} (h : W.heap[g]? = some o) : g < W.heap.size := (Array.getElem?_eq_some_iff.1 h).1
theorem block_old {W : World} {g : Nat} {o : Obj} (h : W.heap[g]? = some o) (ob : Obj) : (W.alloc ob).heap[g]? = some o := by
  rw [Below.heap_alloc W ob g (block_lt h), h]

theorem wait_b (t v : Int) (c : Bool) (d m o : Int) (w : World) (h0 : 0 ≤ t) (h1 : t ≤ 512) (h2 : 0 ≤ v) (h3 : v ≤ 300) (hd0 : 0 ≤ d) (hd : d ≤ 6) :
    Calls Try.prog 12 #[.agg #[.int .i64 t, .int .i64 v, .bool c, .int .i64 d, .int .i64 m, .int .i64 o]] w fun e w' => e = .returned (.int .i64 (waitV t v c d)) ∧ Below w.heap.size w w' :=
  (wait_any t v c d m o w h0 h1 h2 h3 hd0 hd).mono fun e w' h => by
    obtain ⟨h1, o1, rfl⟩ := h
    exact ⟨h1, (Below.refl _ _).alloc (Nat.le_refl _) _⟩

set_option maxRecDepth 100000 in
set_option maxHeartbeats 2000000 in
theorem awake_any (w : World) :
    Calls Try.prog 15 #[] w fun e w' => e = .returned (.bool true) ∧ Below w.heap.size w w' := by
  go_enter Try.func15, Try.ntmps15
  go_wp2_with fail
  refine (came_any 0 0 false 0 0 0 4 _ (by decide) (by decide) (by decide) (by decide) (by decide) (by decide) (Or.inl rfl) (by decide)).mono ?_
  rintro e w1 ⟨rfl, hb1⟩
  rw [ex_a.1, ex_a.2.1, ex_a.2.2]
  have hP := block_kept (heap_new w (.cells #[.int .i64 0, .int .i64 0, .bool false, .int .i64 0, .int .i64 0, .int .i64 0] 24) w.heap.size rfl) hb1
  have hz1 : w.heap.size + 1 ≤ w1.heap.size := by have := hb1.size; simp at this; omega
  have hbel1 : Below w.heap.size w w1 := by
    refine Below.trans ?_ (hb1.mono (by simp))
    (repeat (first | (with_reducible exact Below.refl _ _) | ((with_reducible refine Below.setCell ?_ ?_ _); rotate_left; focus (first | omega | (simp; done) | (simp; omega))) | ((with_reducible refine Below.alloc ?_ ?_ _); rotate_left; focus (first | omega | (simp; done) | (simp; omega))) | (with_reducible refine Below.drew ?_)))
  clear hb1
  have HB1 := Kept.mk hbel1; clear hbel1
  have HP := Kept.mk hP; clear hP
  go_wp2_with fail
  refine (came_any 32 8 true 0 16 0 4 _ (by decide) (by decide) (by decide) (by decide) (by decide) (by decide) (Or.inl rfl) (by decide)).mono ?_
  rintro e w2 ⟨rfl, hb2⟩
  rw [ex_b.1, ex_b.2.1, ex_b.2.2]
  have hA := block_kept (heap_new w1 (.cells #[.int .i64 32, .int .i64 8, .bool true, .int .i64 0, .int .i64 16, .int .i64 0] 24) w1.heap.size rfl) hb2
  have hP := block_kept (block_old HP.out _) hb2
  have hz2 : w1.heap.size + 1 ≤ w2.heap.size := by have := hb2.size; simp at this; omega
  have hbel2 : Below w.heap.size w w2 := by
    refine Below.trans HB1.out ?_
    refine Below.trans ?_ (hb2.mono (by simp; omega))
    (repeat (first | (with_reducible exact Below.refl _ _) | ((with_reducible refine Below.setCell ?_ ?_ _); rotate_left; focus (first | omega | (simp; done) | (simp; omega))) | ((with_reducible refine Below.alloc ?_ ?_ _); rotate_left; focus (first | omega | (simp; done) | (simp; omega))) | (with_reducible refine Below.drew ?_)))
  clear hb2
  have HB2 := Kept.mk hbel2; clear hbel2 HB1 HP
  have HA := Kept.mk hA; clear hA
  have HP := Kept.mk hP; clear hP
  go_upto_region 4 with fail
  have hB := heap_new w2 (.cells #[.int .i64 32, .int .i64 6, .bool true, .int .i64 0, .int .i64 32, .int .i64 0] 24) w2.heap.size rfl
  have hA := block_old HA.out (.cells #[.int .i64 32, .int .i64 6, .bool true, .int .i64 0, .int .i64 32, .int .i64 0] 24)
  have hP := block_old HP.out (.cells #[.int .i64 32, .int .i64 6, .bool true, .int .i64 0, .int .i64 32, .int .i64 0] 24)
  have hbel : Below w.heap.size w (w2.alloc (.cells #[.int .i64 32, .int .i64 6, .bool true, .int .i64 0, .int .i64 32, .int .i64 0] 24)) := HB2.out.alloc (by omega) _
  clear HA HP HB2
  generalize w2.alloc (.cells #[.int .i64 32, .int .i64 6, .bool true, .int .i64 0, .int .i64 32, .int .i64 0] 24) = X at *
  obtain ⟨a0, a1, a2, a3, a4, a5⟩ := six_at hA
  obtain ⟨b0, b1, b2, b3, b4, b5⟩ := six_at hB
  obtain ⟨p0, p1, p2, p3, p4, p5⟩ := six_at hP
  have HA := Kept.mk hA; clear hA
  have HB := Kept.mk hB; clear hB
  have HP := Kept.mk hP; clear hP
  have HBel := Kept.mk hbel; clear hbel
  have hw := block_lt HP.out
  go_wp2_with fail
  refine (wait_b 32 8 true 0 16 0 _ (by decide) (by decide) (by decide) (by decide) (by decide) (by decide)).mono ?_
  rintro e Y ⟨rfl, hb⟩
  rw [ex_w.1]
  have hA := block_kept HA.out hb
  have hB := block_kept HB.out hb
  have hP := block_kept HP.out hb
  have hbel := HBel.out.trans (hb.mono (Nat.le_of_lt hw))
  clear hw HA HB HP HBel hb a0 a1 a2 a3 a4 a5 b0 b1 b2 b3 b4 b5 p0 p1 p2 p3 p4 p5
  obtain ⟨a0, a1, a2, a3, a4, a5⟩ := six_at hA
  obtain ⟨b0, b1, b2, b3, b4, b5⟩ := six_at hB
  obtain ⟨p0, p1, p2, p3, p4, p5⟩ := six_at hP
  have HA := Kept.mk hA; clear hA
  have HB := Kept.mk hB; clear hB
  have HP := Kept.mk hP; clear hP
  have HBel := Kept.mk hbel; clear hbel
  have hw := block_lt HP.out
  go_wp2_with fail
  refine (wait_b 32 6 true 0 32 0 _ (by decide) (by decide) (by decide) (by decide) (by decide) (by decide)).mono ?_
  rintro e Y ⟨rfl, hb⟩
  rw [ex_w.2.1]
  have hA := block_kept HA.out hb
  have hB := block_kept HB.out hb
  have hP := block_kept HP.out hb
  have hbel := HBel.out.trans (hb.mono (Nat.le_of_lt hw))
  clear hw HA HB HP HBel hb a0 a1 a2 a3 a4 a5 b0 b1 b2 b3 b4 b5 p0 p1 p2 p3 p4 p5
  obtain ⟨a0, a1, a2, a3, a4, a5⟩ := six_at hA
  obtain ⟨b0, b1, b2, b3, b4, b5⟩ := six_at hB
  obtain ⟨p0, p1, p2, p3, p4, p5⟩ := six_at hP
  have HA := Kept.mk hA; clear hA
  have HB := Kept.mk hB; clear hB
  have HP := Kept.mk hP; clear hP
  have HBel := Kept.mk hbel; clear hbel
  have hw := block_lt HP.out
  go_wp2_with fail
  refine (lost_any 32 6 true 0 32 0 _ (by decide) (by decide) (by decide) (by decide)).mono ?_
  rintro e Y ⟨rfl, hb⟩
  rw [show min ((0 : Int) + 1) 6 = 1 from by decide, show max (((16 : Int) + 32) / 2) 32 = 32 from by decide]
  have hA := block_kept HA.out hb
  have hB := block_kept HB.out hb
  have hP := block_kept HP.out hb
  have hbel := HBel.out.trans (hb.mono (Nat.le_of_lt hw))
  clear hw HA HB HP HBel hb a0 a1 a2 a3 a4 a5 b0 b1 b2 b3 b4 b5 p0 p1 p2 p3 p4 p5
  obtain ⟨a0, a1, a2, a3, a4, a5⟩ := six_at hA
  obtain ⟨b0, b1, b2, b3, b4, b5⟩ := six_at hB
  obtain ⟨p0, p1, p2, p3, p4, p5⟩ := six_at hP
  have HA := Kept.mk hA; clear hA
  have HB := Kept.mk hB; clear hB
  have HP := Kept.mk hP; clear hP
  have HBel := Kept.mk hbel; clear hbel
  have hw := block_lt HP.out
  go_wp2_with fail
  refine (wait_b 32 6 true 1 0 32 _ (by decide) (by decide) (by decide) (by decide) (by decide) (by decide)).mono ?_
  rintro e Y ⟨rfl, hb⟩
  rw [ex_w.2.2]
  have hA := block_kept HA.out hb
  have hB := block_kept HB.out hb
  have hP := block_kept HP.out hb
  have hbel := HBel.out.trans (hb.mono (Nat.le_of_lt hw))
  clear hw HA HB HP HBel hb a0 a1 a2 a3 a4 a5 b0 b1 b2 b3 b4 b5 p0 p1 p2 p3 p4 p5
  obtain ⟨a0, a1, a2, a3, a4, a5⟩ := six_at hA
  obtain ⟨b0, b1, b2, b3, b4, b5⟩ := six_at hB
  obtain ⟨p0, p1, p2, p3, p4, p5⟩ := six_at hP
  have HA := Kept.mk hA; clear hA
  have HB := Kept.mk hB; clear hB
  have HP := Kept.mk hP; clear hP
  have HBel := Kept.mk hbel; clear hbel
  have hw := block_lt HP.out
  go_wp2_with fail
  refine (paceRate_any 0 0 false 0 0 0 _ (by decide) (by decide)).mono ?_
  rintro e Y ⟨rfl, hb⟩
  have hA := block_kept HA.out hb
  have hB := block_kept HB.out hb
  have hP := block_kept HP.out hb
  have hbel := HBel.out.trans (hb.mono (Nat.le_of_lt hw))
  clear hw HA HB HP HBel hb a0 a1 a2 a3 a4 a5 b0 b1 b2 b3 b4 b5 p0 p1 p2 p3 p4 p5
  obtain ⟨a0, a1, a2, a3, a4, a5⟩ := six_at hA
  obtain ⟨b0, b1, b2, b3, b4, b5⟩ := six_at hB
  obtain ⟨p0, p1, p2, p3, p4, p5⟩ := six_at hP
  have HA := Kept.mk hA; clear hA
  have HB := Kept.mk hB; clear hB
  have HP := Kept.mk hP; clear hP
  have HBel := Kept.mk hbel; clear hbel
  have hw := block_lt HP.out
  go_wp2_with fail
  refine (paceRate_any 32 8 true 0 16 0 _ (by decide) (by decide)).mono ?_
  rintro e Y ⟨rfl, hb⟩
  have hA := block_kept HA.out hb
  have hB := block_kept HB.out hb
  have hP := block_kept HP.out hb
  have hbel := HBel.out.trans (hb.mono (Nat.le_of_lt hw))
  clear hw HA HB HP HBel hb a0 a1 a2 a3 a4 a5 b0 b1 b2 b3 b4 b5 p0 p1 p2 p3 p4 p5
  obtain ⟨a0, a1, a2, a3, a4, a5⟩ := six_at hA
  obtain ⟨b0, b1, b2, b3, b4, b5⟩ := six_at hB
  obtain ⟨p0, p1, p2, p3, p4, p5⟩ := six_at hP
  have HA := Kept.mk hA; clear hA
  have HB := Kept.mk hB; clear hB
  have HP := Kept.mk hP; clear hP
  have HBel := Kept.mk hbel; clear hbel
  have hw := block_lt HP.out
  go_wp2_with fail
  go_ret
  exact ⟨rfl, HBel.out⟩
end Go.Proofs.Ytpndjdiknlmddaa
