/- The law that what always takes as long is waited for as long, walked by the contracts. -/
import Derived.Test.YtpndjdiknlmddaaPaceD
import Derived.Deep.RegionWith
namespace Go.Proofs.Ytpndjdiknlmddaa
set_option linter.unusedVariables false
open Go.RowKit Go.Lib

/-- deeds in memory -/
def DeedsAt (w : World) (A : Option Addr) (l : List (Int × Int)) : Prop :=
  0 < l.length → ∃ ad : Addr, A = some ad ∧ ad.block < w.heap.size ∧ ∀ i k n, l[i]? = some (k, n) → w.cell? (ad.add (i * 2)) = some (.int .i64 k) ∧ w.cell? (ad.add (i * 2 + 1)) = some (.int .i64 n)
theorem DeedsAt.below {w w' : World} {A : Option Addr} {l : List (Int × Int)} (h : DeedsAt w A l) (hb : Below w.heap.size w w') : DeedsAt w' A l := by
  intro h0
  obtain ⟨ad, e, hl, hc⟩ := h h0
  refine ⟨ad, e, Nat.lt_of_lt_of_le hl hb.size, fun i k n hi => ?_⟩
  obtain ⟨c1, c2⟩ := hc i k n hi
  exact ⟨(hb.cell (p := ad.add (i * 2)) (by rw [add_block]; exact hl)).trans c1, (hb.cell (p := ad.add (i * 2 + 1)) (by rw [add_block]; exact hl)).trans c2⟩
theorem DeedsAt.get {w : World} {A : Option Addr} {l : List (Int × Int)} (h : DeedsAt w A l) {i : Nat} (hi : i < l.length) :
    ∃ ad : Addr, A = some ad ∧ ad.block < w.heap.size ∧ w.cell? (ad.add (i * 2)) = some (.int .i64 l[i].1) ∧ w.cell? (ad.add (i * 2 + 1)) = some (.int .i64 l[i].2) := by
  obtain ⟨ad, e, hl, hc⟩ := h (by omega)
  exact ⟨ad, e, hl, hc i l[i].1 l[i].2 (List.getElem?_eq_getElem hi)⟩

theorem add_next (ad : Addr) (n : Nat) : ad.add (n + 1) = ⟨(ad.add n).block, (ad.add n).off + 1, none⟩ := by
  unfold Addr.add
  by_cases h : n = 0 <;> simp [h, Nat.add_assoc]
theorem does_b (p : PS) (k n : Int) (w : World) (h : p.Ok) :
    Calls Try.prog 8 #[.agg #[.int .i64 p.t, .int .i64 p.v, .bool p.c, .int .i64 p.d, .int .i64 p.m, .int .i64 p.o], .agg #[.int .i64 k, .int .i64 n]] w fun e w' => e = .returned (.agg #[.int .i64 (p.step k n).t, .int .i64 (p.step k n).v, .bool (p.step k n).c, .int .i64 (p.step k n).d, .int .i64 (p.step k n).m, .int .i64 (p.step k n).o]) ∧ Below w.heap.size w w' :=
  does_any p.t p.v p.c p.d p.m p.o k n w h
theorem came_b (p : PS) (n : Int) (w : World) (h : p.Ok) :
    Calls Try.prog 16 #[.agg #[.int .i64 p.t, .int .i64 p.v, .bool p.c, .int .i64 p.d, .int .i64 p.m, .int .i64 p.o], .int .i64 n] w fun e w' => e = .returned (.agg #[.int .i64 (p.came n).t, .int .i64 (p.came n).v, .bool (p.came n).c, .int .i64 (p.came n).d, .int .i64 (p.came n).m, .int .i64 (p.came n).o]) ∧ Below w.heap.size w w' :=
  came_any p.t p.v p.c p.d p.m p.o n w h.t0 h.t1 h.v0 h.v1 h.m0 h.m1 h.o0 h.o1
theorem waitp_b (p : PS) (w : World) (h : p.Ok) :
    Calls Try.prog 12 #[.agg #[.int .i64 p.t, .int .i64 p.v, .bool p.c, .int .i64 p.d, .int .i64 p.m, .int .i64 p.o]] w fun e w' => e = .returned (.int .i64 p.wait) ∧ Below w.heap.size w w' :=
  wait_b p.t p.v p.c p.d p.m p.o w h.t0 h.t1 h.v0 (by have := h.v1; omega) h.d0 h.d1
theorem and_63 (n : Int) : bits .and .i64 n 63 = n % 64 := and_mask n 6 (by omega) 63 rfl

/-- a pace in a variable of the call's own -/
def Var (w wr : World) (g : Nat) (p : PS) : Prop := wr.heap[g]? = some (.cells #[.int .i64 p.t, .int .i64 p.v, .bool p.c, .int .i64 p.d, .int .i64 p.m, .int .i64 p.o] 24 (0, 0)) ∧ Below w.heap.size w wr

set_option maxRecDepth 100000 in
set_option maxHeartbeats 4000000 in
theorem paceSteady_walk (A : Option Addr) (c : Nat) (l : List (Int × Int)) (x more : Int) (w : World) (hl : l.length ≤ 9223372036854775807) (hr : DeedsAt w A l) :
    Calls Try.prog 5 #[.slice A l.length c, .int .i64 x, .int .i64 more] w fun e w' => e = .returned (.bool true) ∧ Below w.heap.size w w' := by
  have hx := and_63 x
  have hm := and_63 more
  have hx0 : 0 ≤ x % 64 := by omega
  have hx1 : x % 64 ≤ 63 := by omega
  have hm0 : 0 ≤ more % 64 := by omega
  have hm1 : more % 64 ≤ 63 := by omega
  generalize x % 64 = y at *
  generalize more % 64 = z at *
  go_enter Try.func5, Try.ntmps5
  go_wp2_with fail
  go_loopw [8] (fun i wr => ∃ (k : Nat) (p : PS), k ≤ l.length ∧ k ≤ 100 ∧ i = .int .i64 k ∧ p.Ok ∧ Var w wr w.heap.size p) (fun i _ => 100 - (intOf i).toNat)
  case atStart => exact ⟨0, PS.zero, by omega, by omega, rfl, PS.zero_ok, heap_new _ _ _ rfl, (Below.refl _ _).alloc (Nat.le_refl _) _⟩
  case round =>
    obtain ⟨k, p, hk, hk2, rfl, hp, hg, hb⟩ := hrel
    obtain ⟨c0, c1, c2, c3, c4, c5⟩ := six_at hg
    have hgl := block_lt hg
    have HG := Kept.mk hg; clear hg
    have hb0 : w.heap.size ≤ wr.heap.size := hb.size
    have HBel := Kept.mk hb
    by_cases hgo : k < l.length ∧ k < 100
    · obtain ⟨hlt, hlt2⟩ := hgo
      obtain ⟨ad, rfl, had, d1, d2⟩ := (hr.below hb).get hlt
      have HP := Kept.mk hp
      generalize l[k] = q at *
      obtain ⟨qk, qn⟩ := q
      dsimp only at d1 d2
      rw [add_next] at d2
      clear hb
      go_wp2_with fail
      go_region_with (go_at_call 8; refine (does_b p _ _ _ HP.out).mono ?_; rintro e w1 ⟨rfl, hb1⟩; have hB := block_kept (W := World.drew _) HG.out hb1; obtain ⟨e0, e1, e2, e3, e4, e5⟩ := six_at hB; have ef := fun j => Joins.unfrozen_of_block hB j; have HB := Kept.mk hB; have HB1 := Kept.mk hb1; clear hB hb1)
      all_goals
        go_wp2_with fail
        refine ⟨⟨k + 1, p.step qk qn, by omega, by omega, by go_num, PS.step_ok HP.out _ _, six_cells w1 w.heap.size _ _ _ _ _ _ _ _ _ _ _ _ _ HB.out, ?_⟩, by simp [intOf]; omega⟩
        have hbw := HBel.out.drew.trans (HB1.out.mono hb0)
        refine Below.trans hbw ?_
        (repeat (first | (with_reducible exact Below.refl _ _) | ((with_reducible refine Below.setCell ?_ ?_ _); rotate_left; focus (first | omega | (simp; done) | (simp; omega))) | (with_reducible refine Below.drew ?_)))
    · by_cases hlt : k < l.length
      · have hk3 : ¬ k < 100 := by omega
        clear hgo
        go_wp2_with fail
        obtain ⟨wo, hwo⟩ : ∃ wo : World, wo = wr := ⟨wr, rfl⟩
        go_loopw [9] (fun i wq => ∃ (j : Nat) (q : PS), (j : Int) ≤ 120 + z ∧ i = .int .i64 j ∧ Steady y j q ∧ Var w wq w.heap.size q) (fun i _ => 200 - (intOf i).toNat)
        case atStart => exact ⟨0, p, by omega, rfl, Steady.start hp hx0 hx1, HG.out, HBel.out⟩
        case round =>
          clear c0 c1 c2 c3 c4 c5
          obtain ⟨j, q, hj, rfl, hs, hg, hb⟩ := hrel
          obtain ⟨c0, c1, c2, c3, c4, c5⟩ := six_at hg
          have HG2 := Kept.mk hg; clear hg
          have HBel2 := Kept.mk hb
          have hb02 : w.heap.size + 1 ≤ wr.heap.size := block_lt HG2.out
          clear hb
          by_cases hlt : (j : Int) < 120 + z
          · go_wp2_with fail
            refine (came_b q y _ hs.ok).mono ?_
            rintro e w1 ⟨rfl, hb1⟩
            have hB := block_kept HG2.out hb1
            obtain ⟨e0, e1, e2, e3, e4, e5⟩ := six_at hB
            have ef := fun j => Joins.unfrozen_of_block hB j
            have HB := Kept.mk hB
            have HB1 := Kept.mk hb1
            clear hB hb1
            go_wp2_with fail
            refine ⟨⟨j + 1, q.came y, by omega, by go_num, Steady.next hs hx0 hx1, six_cells w1 w.heap.size _ _ _ _ _ _ _ _ _ _ _ _ _ HB.out, ?_⟩, by simp [intOf]; omega⟩
            have hbw := HBel2.out.trans (HB1.out.mono (by omega))
            refine Below.trans hbw ?_
            (repeat (first | (with_reducible exact Below.refl _ _) | ((with_reducible refine Below.setCell ?_ ?_ _); rotate_left; focus (first | omega | (simp; done) | (simp; omega))) | (with_reducible refine Below.drew ?_)))
          · have hj62 : 62 ≤ j := by omega
            obtain ⟨hw1, hw2⟩ := hs.wait hj62 hx0 hx1
            have hwr := PS.wait_range hs.ok
            obtain ⟨hr1, hr2⟩ := hwr
            by_cases hge : y ≤ q.wait
            · go_wp2_with fail
              refine (waitp_b q _ hs.ok).mono ?_
              rintro e w1 ⟨rfl, hb1⟩
              generalize q.wait = v at *
              go_wp2_with fail
              refine (awake_any _).mono ?_
              rintro e w2 ⟨rfl, hb2⟩
              go_wp2
              go_ret
              exact ⟨rfl, (HBel2.out.trans (hb1.mono (by omega))).trans (hb2.mono (by have := hb1.size; omega))⟩
            · have h64 : q.wait = 64 := by omega
              omega
      · clear hgo
        go_wp2_with fail
        obtain ⟨wo, hwo⟩ : ∃ wo : World, wo = wr := ⟨wr, rfl⟩
        go_loopw [9] (fun i wq => ∃ (j : Nat) (q : PS), (j : Int) ≤ 120 + z ∧ i = .int .i64 j ∧ Steady y j q ∧ Var w wq w.heap.size q) (fun i _ => 200 - (intOf i).toNat)
        case atStart => exact ⟨0, p, by omega, rfl, Steady.start hp hx0 hx1, HG.out, HBel.out⟩
        case round =>
          clear c0 c1 c2 c3 c4 c5
          obtain ⟨j, q, hj, rfl, hs, hg, hb⟩ := hrel
          obtain ⟨c0, c1, c2, c3, c4, c5⟩ := six_at hg
          have HG2 := Kept.mk hg; clear hg
          have HBel2 := Kept.mk hb
          have hb02 : w.heap.size + 1 ≤ wr.heap.size := block_lt HG2.out
          clear hb
          by_cases hlt : (j : Int) < 120 + z
          · go_wp2_with fail
            refine (came_b q y _ hs.ok).mono ?_
            rintro e w1 ⟨rfl, hb1⟩
            have hB := block_kept HG2.out hb1
            obtain ⟨e0, e1, e2, e3, e4, e5⟩ := six_at hB
            have ef := fun j => Joins.unfrozen_of_block hB j
            have HB := Kept.mk hB
            have HB1 := Kept.mk hb1
            clear hB hb1
            go_wp2_with fail
            refine ⟨⟨j + 1, q.came y, by omega, by go_num, Steady.next hs hx0 hx1, six_cells w1 w.heap.size _ _ _ _ _ _ _ _ _ _ _ _ _ HB.out, ?_⟩, by simp [intOf]; omega⟩
            have hbw := HBel2.out.trans (HB1.out.mono (by omega))
            refine Below.trans hbw ?_
            (repeat (first | (with_reducible exact Below.refl _ _) | ((with_reducible refine Below.setCell ?_ ?_ _); rotate_left; focus (first | omega | (simp; done) | (simp; omega))) | (with_reducible refine Below.drew ?_)))
          · have hj62 : 62 ≤ j := by omega
            obtain ⟨hw1, hw2⟩ := hs.wait hj62 hx0 hx1
            have hwr := PS.wait_range hs.ok
            obtain ⟨hr1, hr2⟩ := hwr
            by_cases hge : y ≤ q.wait
            · go_wp2_with fail
              refine (waitp_b q _ hs.ok).mono ?_
              rintro e w1 ⟨rfl, hb1⟩
              generalize q.wait = v at *
              go_wp2_with fail
              refine (awake_any _).mono ?_
              rintro e w2 ⟨rfl, hb2⟩
              go_wp2
              go_ret
              exact ⟨rfl, (HBel2.out.trans (hb1.mono (by omega))).trans (hb2.mono (by have := hb1.size; omega))⟩
            · have h64 : q.wait = 64 := by omega
              omega
end Go.Proofs.Ytpndjdiknlmddaa
