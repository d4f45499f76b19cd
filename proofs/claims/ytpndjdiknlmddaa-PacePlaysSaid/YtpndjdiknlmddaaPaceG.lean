/- The law that paces of one history are the same, walked by the contracts. -/
import Derived.Test.YtpndjdiknlmddaaPaceF
namespace Go.Proofs.Ytpndjdiknlmddaa
set_option linter.unusedVariables false
open Go.RowKit Go.Lib

theorem setCell_other_block (W : World) (g g2 j : Nat) (v : Value) (h : g ≠ g2) : (W.setCell ⟨g, j, none⟩ v).heap[g2]? = W.heap[g2]? :=
  Below.heap_setCell W ⟨g, j, none⟩ v g2 (fun e => h e.symm)
theorem six_other (W : World) (g g2 : Nat) (a0 a1 a2 a3 a4 a5 : Value) (h : g ≠ g2) :
    ((((((W.setCell ⟨g, 0, none⟩ a0).setCell ⟨g, 1, none⟩ a1).setCell ⟨g, 2, none⟩ a2).setCell ⟨g, 3, none⟩ a3).setCell ⟨g, 4, none⟩ a4).setCell ⟨g, 5, none⟩ a5).heap[g2]? = W.heap[g2]? := by
  rw [setCell_other_block _ _ _ _ _ h, setCell_other_block _ _ _ _ _ h, setCell_other_block _ _ _ _ _ h, setCell_other_block _ _ _ _ _ h, setCell_other_block _ _ _ _ _ h, setCell_other_block _ _ _ _ _ h]
theorem rate_b (p : PS) (w : World) (h : p.Ok) :
    Calls Try.prog 14 #[.agg #[.int .i64 p.t, .int .i64 p.v, .bool p.c, .int .i64 p.d, .int .i64 p.m, .int .i64 p.o]] w fun e w' => e = .returned (.int .i64 p.rate) ∧ Below w.heap.size w w' :=
  paceRate_any p.t p.v p.c p.d p.m p.o w h.m0 h.m1

set_option maxRecDepth 100000 in
set_option maxHeartbeats 4000000 in
theorem paceSame_walk (A : Option Addr) (c : Nat) (l : List (Int × Int)) (xk xn : Int) (w : World) (hl : l.length ≤ 9223372036854775807) (hr : DeedsAt w A l) :
    Calls Try.prog 6 #[.slice A l.length c, .agg #[.int .i64 xk, .int .i64 xn]] w fun e w' => e = .returned (.bool true) ∧ Below w.heap.size w w' := by
  go_enter Try.func6, Try.ntmps6
  go_wp2_with fail
  go_loopw [7] (fun i wr => ∃ (k : Nat) (p : PS), k ≤ l.length ∧ k ≤ 100 ∧ i = .int .i64 k ∧ p.Ok ∧ Var w wr (w.heap.size + 1) p ∧ Var w wr (w.heap.size + 1 + 1) p ∧ wr.heap[w.heap.size]? = some (.cells #[.int .i64 xk, .int .i64 xn] 29 (0, 0))) (fun i _ => 100 - (intOf i).toNat)
  case atStart =>
    refine ⟨0, PS.zero, by omega, by omega, rfl, PS.zero_ok, ⟨?_, ?_⟩, ⟨?_, ?_⟩, ?_⟩
    · exact block_old (heap_new _ _ _ (by simp)) _
    · (repeat (first | (with_reducible exact Below.refl _ _) | ((with_reducible refine Below.setCell ?_ ?_ _); rotate_left; focus (first | omega | (simp; done) | (simp; omega))) | ((with_reducible refine Below.alloc ?_ ?_ _); rotate_left; focus (first | omega | (simp; done) | (simp; omega))) | (with_reducible refine Below.drew ?_)))
    · exact heap_new _ _ _ (by simp)
    · (repeat (first | (with_reducible exact Below.refl _ _) | ((with_reducible refine Below.setCell ?_ ?_ _); rotate_left; focus (first | omega | (simp; done) | (simp; omega))) | ((with_reducible refine Below.alloc ?_ ?_ _); rotate_left; focus (first | omega | (simp; done) | (simp; omega))) | (with_reducible refine Below.drew ?_)))
    · exact block_old (block_old (heap_new _ _ _ rfl) _) _
  case round =>
    obtain ⟨k, p, hk, hk2, rfl, hp, ⟨hg, hb⟩, ⟨hg2, _⟩, hd⟩ := hrel
    obtain ⟨c0, c1, c2, c3, c4, c5⟩ := six_at hg
    obtain ⟨f0, f1, f2, f3, f4, f5⟩ := six_at hg2
    have hgl : w.heap.size + 3 ≤ wr.heap.size := block_lt hg2
    have HG1 := Kept.mk hg; clear hg
    have HG2 := Kept.mk hg2; clear hg2
    have HD := Kept.mk hd; clear hd
    have HBel := Kept.mk hb
    have hb0 : w.heap.size ≤ wr.heap.size := hb.size
    have HP := Kept.mk hp
    by_cases hgo : k < l.length ∧ k < 100
    · obtain ⟨hlt, hlt2⟩ := hgo
      obtain ⟨ad, rfl, had, d1, d2⟩ := (hr.below hb).get hlt
      have hadl : ad.block < w.heap.size := by
        obtain ⟨ad', e, hl', _⟩ := hr (by omega)
        obtain rfl : ad = ad' := by injection e
        exact hl'
      obtain ⟨qk, qn, hq⟩ : ∃ qk qn, l[k] = (qk, qn) := ⟨_, _, rfl⟩
      rw [hq] at d1 d2
      have HQ := Kept.mk hq; clear hq
      dsimp only at d1 d2
      rw [add_next] at d2
      clear hb
      go_upto_region 5 with fail
      go_cut [] (fun wx => Var w wx (w.heap.size + 1) (p.step qk qn) ∧ wx.heap[w.heap.size + 1 + 1]? = some (.cells #[.int .i64 p.t, .int .i64 p.v, .bool p.c, .int .i64 p.d, .int .i64 p.m, .int .i64 p.o] 24 (0, 0)) ∧ wx.heap[w.heap.size]? = some (.cells #[.int .i64 xk, .int .i64 xn] 29 (0, 0)))
      case first =>
        go_region_with (go_at_call 8; refine (does_b p _ _ _ HP.out).mono ?_; rintro e w1 ⟨rfl, hb1⟩; have hB := block_kept (W := World.drew _) HG1.out hb1; have HO := Kept.mk (block_kept (W := World.drew _) HG2.out hb1); have HD1 := Kept.mk (block_kept (W := World.drew _) HD.out hb1); obtain ⟨e0, e1, e2, e3, e4, e5⟩ := six_at hB; have ef := fun j => Joins.unfrozen_of_block hB j; have HB := Kept.mk hB; have HB1 := Kept.mk hb1; clear hB hb1)
        all_goals
          go_wp2_with fail
          first | go_meet | skip
          refine ⟨⟨six_cells w1 (w.heap.size + 1) _ _ _ _ _ _ _ _ _ _ _ _ _ HB.out, ?_⟩, (six_other w1 _ _ _ _ _ _ _ _ (by omega)).trans HO.out, (six_other w1 _ _ _ _ _ _ _ _ (by omega)).trans HD1.out⟩
          refine Below.trans (HBel.out.drew.trans (HB1.out.mono hb0)) ?_
          (repeat (first | (with_reducible exact Below.refl _ _) | ((with_reducible refine Below.setCell ?_ ?_ _); rotate_left; focus (first | omega | (simp; done) | (simp; omega))) | ((with_reducible refine Below.alloc ?_ ?_ _); rotate_left; focus (first | omega | (simp; done) | (simp; omega))) | (with_reducible refine Below.drew ?_)))
      case rest =>
        obtain ⟨⟨hg, hb⟩, hg2, hd⟩ := hcut
        clear c0 c1 c2 c3 c4 c5 f0 f1 f2 f3 f4 f5 HG1 HG2 HD HBel hb0 d1 d2 had
        obtain ⟨c0, c1, c2, c3, c4, c5⟩ := six_at hg
        obtain ⟨f0, f1, f2, f3, f4, f5⟩ := six_at hg2
        have hgl : w.heap.size + 3 ≤ wc.heap.size := block_lt hg2
        have HG1 := Kept.mk hg; clear hg
        have HG2 := Kept.mk hg2; clear hg2
        have HD := Kept.mk hd; clear hd
        have HBel := Kept.mk hb
        have hb0 : w.heap.size ≤ wc.heap.size := hb.size
        obtain ⟨ad', e, had, d1, d2⟩ := (hr.below hb).get hlt
        obtain rfl : ad = ad' := by injection e
        rw [HQ.out] at d1 d2
        dsimp only at d1 d2
        rw [add_next] at d2
        clear hb
        go_upto_region 6 with fail
        go_cut [] (fun wx => Var w wx (w.heap.size + 1) (p.step qk qn) ∧ wx.heap[w.heap.size + 1 + 1]? = some (.cells #[.int .i64 (p.step qk qn).t, .int .i64 (p.step qk qn).v, .bool (p.step qk qn).c, .int .i64 (p.step qk qn).d, .int .i64 (p.step qk qn).m, .int .i64 (p.step qk qn).o] 24 (0, 0)) ∧ wx.heap[w.heap.size]? = some (.cells #[.int .i64 xk, .int .i64 xn] 29 (0, 0)))
        case first =>
          go_region_with (go_at_call 8; refine (does_b p _ _ _ HP.out).mono ?_; rintro e w1 ⟨rfl, hb1⟩; have hB := block_kept (W := World.drew _) HG2.out hb1; have HO := Kept.mk (block_kept (W := World.drew _) HG1.out hb1); have HD1 := Kept.mk (block_kept (W := World.drew _) HD.out hb1); obtain ⟨e0, e1, e2, e3, e4, e5⟩ := six_at hB; have ef := fun j => Joins.unfrozen_of_block hB j; have HB := Kept.mk hB; have HB1 := Kept.mk hb1; clear hB hb1)
          all_goals
            go_wp2_with fail
            first | go_meet | skip
            refine ⟨⟨(six_other w1 _ _ _ _ _ _ _ _ (by omega)).trans HO.out, ?_⟩, six_cells w1 (w.heap.size + 1 + 1) _ _ _ _ _ _ _ _ _ _ _ _ _ HB.out, (six_other w1 _ _ _ _ _ _ _ _ (by omega)).trans HD1.out⟩
            refine Below.trans (HBel.out.drew.trans (HB1.out.mono hb0)) ?_
            (repeat (first | (with_reducible exact Below.refl _ _) | ((with_reducible refine Below.setCell ?_ ?_ _); rotate_left; focus (first | omega | (simp; done) | (simp; omega))) | ((with_reducible refine Below.alloc ?_ ?_ _); rotate_left; focus (first | omega | (simp; done) | (simp; omega))) | (with_reducible refine Below.drew ?_)))
        case rest =>
          obtain ⟨⟨hg, hb⟩, hg2, hd⟩ := hcut
          clear c0 c1 c2 c3 c4 c5 f0 f1 f2 f3 f4 f5 HG1 HG2 HD HBel hb0 d1 d2 had hgl
          obtain ⟨c0, c1, c2, c3, c4, c5⟩ := six_at hg
          obtain ⟨f0, f1, f2, f3, f4, f5⟩ := six_at hg2
          have hgl : w.heap.size + 3 ≤ wc.heap.size := block_lt hg2
          have HG1 := Kept.mk hg; clear hg
          have HG2 := Kept.mk hg2; clear hg2
          have HD := Kept.mk hd; clear hd
          have HBel := Kept.mk hb
          have hb0 : w.heap.size ≤ wc.heap.size := hb.size
          clear hb
          have hok := PS.step_ok HP.out qk qn
          generalize p.step qk qn = p' at *
          go_wp2_with fail
          exact ⟨⟨k + 1, p', by omega, by omega, by go_num, hok, ⟨HG1.out, HBel.out⟩, ⟨HG2.out, HBel.out⟩, HD.out⟩, by simp [intOf]; omega⟩
    · by_cases hlt : k < l.length
      · have hk3 : ¬ k < 100 := by omega
        clear hgo
        go_wp2_with fail
        clear hb hgl hb0
        go_region_with (first | (go_at_call 12; refine (waitp_b p _ HP.out).mono ?_; rintro e wa ⟨rfl, hba⟩; have hG1 := block_kept (by exact HG1.out) hba; have hG2 := block_kept (by exact HG2.out) hba; have hD := block_kept (by exact HD.out) hba; have hBe : Below w.heap.size w wa := Below.trans (by first | exact HBel.out | exact HBel.out.drew) (hba.mono (by first | exact Nat.le_of_lt (block_lt HD.out) | exact Nat.le_of_lt (block_lt (W := World.drew _) HD.out))); clear HG1 HG2 HD HBel hba c0 c1 c2 c3 c4 c5 f0 f1 f2 f3 f4 f5; obtain ⟨c0, c1, c2, c3, c4, c5⟩ := six_at hG1; obtain ⟨f0, f1, f2, f3, f4, f5⟩ := six_at hG2; have x0 := Joins.cell_of_block hD 0; have x1 := Joins.cell_of_block hD 1; have HG1 := Kept.mk hG1; have HG2 := Kept.mk hG2; have HD := Kept.mk hD; have HBel := Kept.mk hBe; clear hG1 hG2 hD hBe; clear x0 x1) | (go_at_call 14; refine (rate_b p _ HP.out).mono ?_; rintro e wa ⟨rfl, hba⟩; have hG1 := block_kept (by exact HG1.out) hba; have hG2 := block_kept (by exact HG2.out) hba; have hD := block_kept (by exact HD.out) hba; have hBe : Below w.heap.size w wa := Below.trans (by first | exact HBel.out | exact HBel.out.drew) (hba.mono (by first | exact Nat.le_of_lt (block_lt HD.out) | exact Nat.le_of_lt (block_lt (W := World.drew _) HD.out))); clear HG1 HG2 HD HBel hba c0 c1 c2 c3 c4 c5 f0 f1 f2 f3 f4 f5; obtain ⟨c0, c1, c2, c3, c4, c5⟩ := six_at hG1; obtain ⟨f0, f1, f2, f3, f4, f5⟩ := six_at hG2; have x0 := Joins.cell_of_block hD 0; have x1 := Joins.cell_of_block hD 1; have HG1 := Kept.mk hG1; have HG2 := Kept.mk hG2; have HD := Kept.mk hD; have HBel := Kept.mk hBe; clear hG1 hG2 hD hBe))
        all_goals
          go_wp2_with fail
          refine (does_b p xk xn _ HP.out).mono ?_
          rintro e wa ⟨rfl, hba⟩
          try clear x0 x1
          have hG1 := block_kept (by exact HG1.out) hba
          have hG2 := block_kept (by exact HG2.out) hba
          have hD := block_kept (by exact HD.out) hba
          have hBe : Below w.heap.size w wa := Below.trans (by first | exact HBel.out | exact HBel.out.drew) (hba.mono (by first | exact Nat.le_of_lt (block_lt HD.out) | exact Nat.le_of_lt (block_lt (W := World.drew _) HD.out)))
          clear HG1 HG2 HD HBel hba c0 c1 c2 c3 c4 c5 f0 f1 f2 f3 f4 f5
          obtain ⟨c0, c1, c2, c3, c4, c5⟩ := six_at hG1
          obtain ⟨f0, f1, f2, f3, f4, f5⟩ := six_at hG2
          have x0 := Joins.cell_of_block hD 0
          have x1 := Joins.cell_of_block hD 1
          have HG1 := Kept.mk hG1
          have HG2 := Kept.mk hG2
          have HD := Kept.mk hD
          have HBel := Kept.mk hBe
          clear hG1 hG2 hD hBe
          go_wp2_with fail
          refine (waitp_b p _ HP.out).mono ?_
          rintro e wa ⟨rfl, hba⟩
          clear x0 x1
          have hG1 := block_kept (by exact HG1.out) hba
          have hG2 := block_kept (by exact HG2.out) hba
          have hD := block_kept (by exact HD.out) hba
          have hBe : Below w.heap.size w wa := Below.trans (by first | exact HBel.out | exact HBel.out.drew) (hba.mono (by first | exact Nat.le_of_lt (block_lt HD.out) | exact Nat.le_of_lt (block_lt (W := World.drew _) HD.out)))
          clear HG1 HG2 HD HBel hba c0 c1 c2 c3 c4 c5 f0 f1 f2 f3 f4 f5
          obtain ⟨c0, c1, c2, c3, c4, c5⟩ := six_at hG1
          obtain ⟨f0, f1, f2, f3, f4, f5⟩ := six_at hG2
          have x0 := Joins.cell_of_block hD 0
          have x1 := Joins.cell_of_block hD 1
          have HG1 := Kept.mk hG1
          have HG2 := Kept.mk hG2
          have HD := Kept.mk hD
          have HBel := Kept.mk hBe
          clear hG1 hG2 hD hBe
          go_wp2_with fail
          refine (rate_b p _ HP.out).mono ?_
          rintro e wa ⟨rfl, hba⟩
          clear x0 x1
          have hG1 := block_kept (by exact HG1.out) hba
          have hG2 := block_kept (by exact HG2.out) hba
          have hD := block_kept (by exact HD.out) hba
          have hBe : Below w.heap.size w wa := Below.trans (by first | exact HBel.out | exact HBel.out.drew) (hba.mono (by first | exact Nat.le_of_lt (block_lt HD.out) | exact Nat.le_of_lt (block_lt (W := World.drew _) HD.out)))
          clear HG1 HG2 HD HBel hba c0 c1 c2 c3 c4 c5 f0 f1 f2 f3 f4 f5
          obtain ⟨c0, c1, c2, c3, c4, c5⟩ := six_at hG1
          obtain ⟨f0, f1, f2, f3, f4, f5⟩ := six_at hG2
          have x0 := Joins.cell_of_block hD 0
          have x1 := Joins.cell_of_block hD 1
          have HG1 := Kept.mk hG1
          have HG2 := Kept.mk hG2
          have HD := Kept.mk hD
          have HBel := Kept.mk hBe
          clear hG1 hG2 hD hBe
          go_wp2_with fail
          refine (awake_any _).mono ?_
          rintro e wz ⟨rfl, hbz⟩
          go_wp2
          go_ret
          exact ⟨rfl, HBel.out.trans (hbz.mono (Nat.le_of_lt (block_lt HD.out)))⟩
      · clear hgo
        go_wp2_with fail
        clear hb hgl hb0
        go_region_with (first | (go_at_call 12; refine (waitp_b p _ HP.out).mono ?_; rintro e wa ⟨rfl, hba⟩; have hG1 := block_kept (by exact HG1.out) hba; have hG2 := block_kept (by exact HG2.out) hba; have hD := block_kept (by exact HD.out) hba; have hBe : Below w.heap.size w wa := Below.trans (by first | exact HBel.out | exact HBel.out.drew) (hba.mono (by first | exact Nat.le_of_lt (block_lt HD.out) | exact Nat.le_of_lt (block_lt (W := World.drew _) HD.out))); clear HG1 HG2 HD HBel hba c0 c1 c2 c3 c4 c5 f0 f1 f2 f3 f4 f5; obtain ⟨c0, c1, c2, c3, c4, c5⟩ := six_at hG1; obtain ⟨f0, f1, f2, f3, f4, f5⟩ := six_at hG2; have x0 := Joins.cell_of_block hD 0; have x1 := Joins.cell_of_block hD 1; have HG1 := Kept.mk hG1; have HG2 := Kept.mk hG2; have HD := Kept.mk hD; have HBel := Kept.mk hBe; clear hG1 hG2 hD hBe; clear x0 x1) | (go_at_call 14; refine (rate_b p _ HP.out).mono ?_; rintro e wa ⟨rfl, hba⟩; have hG1 := block_kept (by exact HG1.out) hba; have hG2 := block_kept (by exact HG2.out) hba; have hD := block_kept (by exact HD.out) hba; have hBe : Below w.heap.size w wa := Below.trans (by first | exact HBel.out | exact HBel.out.drew) (hba.mono (by first | exact Nat.le_of_lt (block_lt HD.out) | exact Nat.le_of_lt (block_lt (W := World.drew _) HD.out))); clear HG1 HG2 HD HBel hba c0 c1 c2 c3 c4 c5 f0 f1 f2 f3 f4 f5; obtain ⟨c0, c1, c2, c3, c4, c5⟩ := six_at hG1; obtain ⟨f0, f1, f2, f3, f4, f5⟩ := six_at hG2; have x0 := Joins.cell_of_block hD 0; have x1 := Joins.cell_of_block hD 1; have HG1 := Kept.mk hG1; have HG2 := Kept.mk hG2; have HD := Kept.mk hD; have HBel := Kept.mk hBe; clear hG1 hG2 hD hBe))
        all_goals
          go_wp2_with fail
          refine (does_b p xk xn _ HP.out).mono ?_
          rintro e wa ⟨rfl, hba⟩
          try clear x0 x1
          have hG1 := block_kept (by exact HG1.out) hba
          have hG2 := block_kept (by exact HG2.out) hba
          have hD := block_kept (by exact HD.out) hba
          have hBe : Below w.heap.size w wa := Below.trans (by first | exact HBel.out | exact HBel.out.drew) (hba.mono (by first | exact Nat.le_of_lt (block_lt HD.out) | exact Nat.le_of_lt (block_lt (W := World.drew _) HD.out)))
          clear HG1 HG2 HD HBel hba c0 c1 c2 c3 c4 c5 f0 f1 f2 f3 f4 f5
          obtain ⟨c0, c1, c2, c3, c4, c5⟩ := six_at hG1
          obtain ⟨f0, f1, f2, f3, f4, f5⟩ := six_at hG2
          have x0 := Joins.cell_of_block hD 0
          have x1 := Joins.cell_of_block hD 1
          have HG1 := Kept.mk hG1
          have HG2 := Kept.mk hG2
          have HD := Kept.mk hD
          have HBel := Kept.mk hBe
          clear hG1 hG2 hD hBe
          go_wp2_with fail
          refine (waitp_b p _ HP.out).mono ?_
          rintro e wa ⟨rfl, hba⟩
          clear x0 x1
          have hG1 := block_kept (by exact HG1.out) hba
          have hG2 := block_kept (by exact HG2.out) hba
          have hD := block_kept (by exact HD.out) hba
          have hBe : Below w.heap.size w wa := Below.trans (by first | exact HBel.out | exact HBel.out.drew) (hba.mono (by first | exact Nat.le_of_lt (block_lt HD.out) | exact Nat.le_of_lt (block_lt (W := World.drew _) HD.out)))
          clear HG1 HG2 HD HBel hba c0 c1 c2 c3 c4 c5 f0 f1 f2 f3 f4 f5
          obtain ⟨c0, c1, c2, c3, c4, c5⟩ := six_at hG1
          obtain ⟨f0, f1, f2, f3, f4, f5⟩ := six_at hG2
          have x0 := Joins.cell_of_block hD 0
          have x1 := Joins.cell_of_block hD 1
          have HG1 := Kept.mk hG1
          have HG2 := Kept.mk hG2
          have HD := Kept.mk hD
          have HBel := Kept.mk hBe
          clear hG1 hG2 hD hBe
          go_wp2_with fail
          refine (rate_b p _ HP.out).mono ?_
          rintro e wa ⟨rfl, hba⟩
          clear x0 x1
          have hG1 := block_kept (by exact HG1.out) hba
          have hG2 := block_kept (by exact HG2.out) hba
          have hD := block_kept (by exact HD.out) hba
          have hBe : Below w.heap.size w wa := Below.trans (by first | exact HBel.out | exact HBel.out.drew) (hba.mono (by first | exact Nat.le_of_lt (block_lt HD.out) | exact Nat.le_of_lt (block_lt (W := World.drew _) HD.out)))
          clear HG1 HG2 HD HBel hba c0 c1 c2 c3 c4 c5 f0 f1 f2 f3 f4 f5
          obtain ⟨c0, c1, c2, c3, c4, c5⟩ := six_at hG1
          obtain ⟨f0, f1, f2, f3, f4, f5⟩ := six_at hG2
          have x0 := Joins.cell_of_block hD 0
          have x1 := Joins.cell_of_block hD 1
          have HG1 := Kept.mk hG1
          have HG2 := Kept.mk hG2
          have HD := Kept.mk hD
          have HBel := Kept.mk hBe
          clear hG1 hG2 hD hBe
          go_wp2_with fail
          refine (awake_any _).mono ?_
          rintro e wz ⟨rfl, hbz⟩
          go_wp2
          go_ret
          exact ⟨rfl, HBel.out.trans (hbz.mono (Nat.le_of_lt (block_lt HD.out)))⟩

theorem paceSame_w {w : World} (A : Option Addr) (c : Nat) (l : List (Int × Int)) (hl : l.length ≤ 9223372036854775807) (hr : DeedsAt w A l) (xk xn : Int) :
    Calls Try.prog 6 #[.slice A l.length c, .agg #[.int .i64 xk, .int .i64 xn]] w fun e w' => e = .returned (.bool true) ∧ Below w.heap.size w w' :=
  paceSame_walk A c l xk xn w hl hr
end Go.Proofs.Ytpndjdiknlmddaa
