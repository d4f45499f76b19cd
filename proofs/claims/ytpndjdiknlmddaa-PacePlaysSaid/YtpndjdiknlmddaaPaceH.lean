/- The law of the bounds of waits and rates, walked by the contracts. -/
import Derived.Test.YtpndjdiknlmddaaPaceG
namespace Go.Proofs.Ytpndjdiknlmddaa
set_option linter.unusedVariables false
open Go.RowKit Go.Lib

theorem le_drew {n : Nat} {w : World} (h : n ≤ w.heap.size) : n ≤ w.drew.heap.size := h
theorem le_alloc {n : Nat} {w : World} (h : n ≤ w.heap.size) (o : Obj) : n ≤ (w.alloc o).heap.size := by simp; omega
set_option maxRecDepth 100000 in
set_option maxHeartbeats 4000000 in
theorem paceBounds_walk (A : Option Addr) (c : Nat) (l : List (Int × Int)) (w : World) (hl : l.length ≤ 9223372036854775807) (hr : DeedsAt w A l) :
    Calls Try.prog 4 #[.slice A l.length c] w fun e w' => e = .returned (.bool true) ∧ Below w.heap.size w w' := by
  go_enter Try.func4, Try.ntmps4
  go_wp2_with fail
  go_loopw [4] (fun i wr => ∃ (k : Nat) (p : PS), k ≤ l.length ∧ k ≤ 300 ∧ i = .int .i64 k ∧ p.Ok ∧ Var w wr w.heap.size p) (fun i _ => 300 - (intOf i).toNat)
  case atStart => exact ⟨0, PS.zero, by omega, by omega, rfl, PS.zero_ok, heap_new _ _ _ rfl, (Below.refl _ _).alloc (Nat.le_refl _) _⟩
  case round =>
    obtain ⟨k, p, hk, hk2, rfl, hp, hg, hb⟩ := hrel
    obtain ⟨c0, c1, c2, c3, c4, c5⟩ := six_at hg
    have hgl := block_lt hg
    have HG1 := Kept.mk hg; clear hg
    have HBel := Kept.mk hb
    have hb0 : w.heap.size ≤ wr.heap.size := hb.size
    have HP := Kept.mk hp
    by_cases hgo : k < l.length ∧ k < 300
    · obtain ⟨hlt, hlt2⟩ := hgo
      obtain ⟨ad, rfl, had, d1, d2⟩ := (hr.below hb).get hlt
      obtain ⟨qk, qn, hq⟩ : ∃ qk qn, l[k] = (qk, qn) := ⟨_, _, rfl⟩
      rw [hq] at d1 d2
      have HQ := Kept.mk hq; clear hq
      dsimp only at d1 d2
      rw [add_next] at d2
      clear hb
      have g0 : ∀ ob : Obj, (wr.alloc ob).cell? (ad.add (k * 2)) = some (.int .i64 qk) := fun ob => (World.cell?_alloc_lt wr ob _ (by rw [add_block]; exact had)).trans d1
      have g1 : ∀ ob : Obj, (wr.alloc ob).cell? ⟨(ad.add (k * 2)).block, (ad.add (k * 2)).off + 1, none⟩ = some (.int .i64 qn) := fun ob => (World.cell?_alloc_lt wr ob _ (by show (ad.add (k * 2)).block < _; rw [add_block]; exact had)).trans d2
      have ca : ∀ (ob : Obj) (j : Nat), (wr.alloc ob).cell? ⟨w.heap.size, j, none⟩ = wr.cell? ⟨w.heap.size, j, none⟩ := fun ob j => World.cell?_alloc_lt wr ob ⟨w.heap.size, j, none⟩ hgl
      go_upto_region 5 with fail
      go_cut [5] (fun s5 wx => ∃ g2 : Nat, s5 = .pointer (some ⟨g2, 0, none⟩) ∧ w.heap.size < g2 ∧ wx.heap[g2]? = some (.cells #[.int .i64 (p.step qk qn).t, .int .i64 (p.step qk qn).v, .bool (p.step qk qn).c, .int .i64 (p.step qk qn).d, .int .i64 (p.step qk qn).m, .int .i64 (p.step qk qn).o] 24 (0, 0)) ∧ Var w wx w.heap.size p)
      case first =>
        go_region_with (go_at_call 8; refine (does_b p _ _ _ HP.out).mono ?_; rintro e w1 ⟨rfl, hb1⟩; (try (have hN := block_kept (g := wr.heap.size) (o := .cells #[.int .i64 0, .int .i64 0, .bool false, .int .i64 0, .int .i64 0, .int .i64 0] 24 (0, 0)) (by first | exact heap_new _ _ _ rfl | exact heap_new wr _ _ rfl | exact heap_new wr.drew _ _ rfl) hb1; obtain ⟨n0, n1, n2, n3, n4, n5⟩ := six_at hN; have nf := fun j => Joins.unfrozen_of_block hN j; have HN := Kept.mk hN; clear hN)); have HO := Kept.mk (block_kept (g := w.heap.size) (by first | exact HG1.out | exact block_old HG1.out _ | exact block_old (W := World.drew _) HG1.out _) hb1); have HB1 := Kept.mk hb1; clear hb1)
        all_goals
          go_wp2_with fail
          first | go_meet | skip
          have hle : w.heap.size ≤ w1.heap.size := Nat.le_of_lt (block_lt HO.out)
          have hbw : Below w.heap.size w w1 := by
            refine Below.trans ?_ (HB1.out.mono (by first | (with_reducible exact le_drew hb0) | (with_reducible exact le_alloc hb0 _) | (with_reducible exact le_drew (le_alloc hb0 _)) | (with_reducible exact le_alloc (le_drew hb0) _)))
            first
              | (with_reducible exact HBel.out.drew)
              | (with_reducible exact (HBel.out.alloc hb0 _).drew)
              | (with_reducible exact HBel.out.drew.alloc (le_drew hb0) _)
              | (with_reducible exact HBel.out.alloc hb0 _)
          first
            | ((with_reducible refine Exists.intro w1.heap.size (And.intro rfl ?_)); exact ⟨block_lt HO.out, heap_new _ _ _ rfl, block_old HO.out _, hbw.alloc hle _⟩)
            | ((with_reducible refine Exists.intro wr.heap.size (And.intro rfl ?_)); refine ⟨hgl, six_cells w1 wr.heap.size _ _ _ _ _ _ _ _ _ _ _ _ _ HN.out, (six_other w1 _ _ _ _ _ _ _ _ (by omega)).trans HO.out, ?_⟩; refine Below.trans hbw ?_; (repeat (first | (with_reducible exact Below.refl _ _) | ((with_reducible refine Below.setCell ?_ ?_ _); rotate_left; focus (first | omega | (simp; done) | (simp; omega))) | ((with_reducible refine Below.alloc ?_ ?_ _); rotate_left; focus (first | omega | (simp; done) | (simp; omega))) | (with_reducible refine Below.drew ?_))))
      case rest =>
        obtain ⟨g2, rfl, hg2lt, hq2, hg, hb⟩ := hcut
        clear c0 c1 c2 c3 c4 c5 HG1 HBel hb0 g0 g1 ca hgl d1 d2 had
        obtain ⟨c0, c1, c2, c3, c4, c5⟩ := six_at hg
        obtain ⟨f0, f1, f2, f3, f4, f5⟩ := six_at hq2
        have hgl := block_lt hg
        have hgl2 := block_lt hq2
        have HG1 := Kept.mk hg; clear hg
        have HG2 := Kept.mk hq2; clear hq2
        have HBel := Kept.mk hb
        have hb0 : w.heap.size ≤ wc.heap.size := hb.size
        obtain ⟨ad', e, had, d1, d2⟩ := (hr.below hb).get hlt
        obtain rfl : ad = ad' := by injection e
        rw [HQ.out] at d1 d2
        dsimp only at d1 d2
        rw [add_next] at d2
        clear hb
        have hok := PS.step_ok HP.out qk qn
        generalize hp2 : p.step qk qn = p2 at *
        have HP2 := Kept.mk hok
        have HS := Kept.mk hp2; clear hp2
        obtain ⟨w0, w1⟩ := PS.wait_range hok
        obtain ⟨r0, r1⟩ := PS.rate_range hok
        have t0 : ¬ p2.wait < 2 := by omega
        have t1 : ¬ 64 < p2.wait := by omega
        have t2 : ¬ p2.rate < 1 := by omega
        have t3 : ¬ 64 < p2.rate := by omega
        go_upto_region 6 with fail
        go_cut [39] (fun s39 wx => s39 = .bool false ∧ Var w wx w.heap.size p ∧ wx.heap[g2]? = some (.cells #[.int .i64 p2.t, .int .i64 p2.v, .bool p2.c, .int .i64 p2.d, .int .i64 p2.m, .int .i64 p2.o] 24 (0, 0)))
        case first =>
          clear hb0 hgl hgl2 d1 d2 had e
          go_wp2_with fail
          refine (waitp_b p2 _ HP2.out).mono ?_
          rintro e wa ⟨rfl, hba⟩
          have hG1 := block_kept (by exact HG1.out) hba
          have hG2 := block_kept (by exact HG2.out) hba
          have hBe : Below w.heap.size w wa := Below.trans (by first | exact HBel.out | exact HBel.out.drew) (hba.mono (by first | exact Nat.le_of_lt (block_lt HG1.out) | exact Nat.le_of_lt (block_lt (W := World.drew _) HG1.out)))
          clear HG1 HG2 HBel hba c0 c1 c2 c3 c4 c5 f0 f1 f2 f3 f4 f5
          obtain ⟨c0, c1, c2, c3, c4, c5⟩ := six_at hG1
          obtain ⟨f0, f1, f2, f3, f4, f5⟩ := six_at hG2
          have HG1 := Kept.mk hG1
          have HG2 := Kept.mk hG2
          have HBel := Kept.mk hBe
          clear hG1 hG2 hBe
          go_wp2_with fail
          refine (waitp_b p2 _ HP2.out).mono ?_
          rintro e wa ⟨rfl, hba⟩
          have hG1 := block_kept (by exact HG1.out) hba
          have hG2 := block_kept (by exact HG2.out) hba
          have hBe : Below w.heap.size w wa := Below.trans (by first | exact HBel.out | exact HBel.out.drew) (hba.mono (by first | exact Nat.le_of_lt (block_lt HG1.out) | exact Nat.le_of_lt (block_lt (W := World.drew _) HG1.out)))
          clear HG1 HG2 HBel hba c0 c1 c2 c3 c4 c5 f0 f1 f2 f3 f4 f5
          obtain ⟨c0, c1, c2, c3, c4, c5⟩ := six_at hG1
          obtain ⟨f0, f1, f2, f3, f4, f5⟩ := six_at hG2
          have HG1 := Kept.mk hG1
          have HG2 := Kept.mk hG2
          have HBel := Kept.mk hBe
          clear hG1 hG2 hBe
          go_wp2_with fail
          refine (rate_b p2 _ HP2.out).mono ?_
          rintro e wa ⟨rfl, hba⟩
          have hG1 := block_kept (by exact HG1.out) hba
          have hG2 := block_kept (by exact HG2.out) hba
          have hBe : Below w.heap.size w wa := Below.trans (by first | exact HBel.out | exact HBel.out.drew) (hba.mono (by first | exact Nat.le_of_lt (block_lt HG1.out) | exact Nat.le_of_lt (block_lt (W := World.drew _) HG1.out)))
          clear HG1 HG2 HBel hba c0 c1 c2 c3 c4 c5 f0 f1 f2 f3 f4 f5
          obtain ⟨c0, c1, c2, c3, c4, c5⟩ := six_at hG1
          obtain ⟨f0, f1, f2, f3, f4, f5⟩ := six_at hG2
          have HG1 := Kept.mk hG1
          have HG2 := Kept.mk hG2
          have HBel := Kept.mk hBe
          clear hG1 hG2 hBe
          go_wp2_with fail
          refine (rate_b p2 _ HP2.out).mono ?_
          rintro e wa ⟨rfl, hba⟩
          have hG1 := block_kept (by exact HG1.out) hba
          have hG2 := block_kept (by exact HG2.out) hba
          have hBe : Below w.heap.size w wa := Below.trans (by first | exact HBel.out | exact HBel.out.drew) (hba.mono (by first | exact Nat.le_of_lt (block_lt HG1.out) | exact Nat.le_of_lt (block_lt (W := World.drew _) HG1.out)))
          clear HG1 HG2 HBel hba c0 c1 c2 c3 c4 c5 f0 f1 f2 f3 f4 f5
          obtain ⟨c0, c1, c2, c3, c4, c5⟩ := six_at hG1
          obtain ⟨f0, f1, f2, f3, f4, f5⟩ := six_at hG2
          have HG1 := Kept.mk hG1
          have HG2 := Kept.mk hG2
          have HBel := Kept.mk hBe
          clear hG1 hG2 hBe
          go_wp2_with fail
          first | go_meet | skip
          exact ⟨by simp [t0, t1, t2, t3], ⟨HG1.out, HBel.out⟩, HG2.out⟩
        case rest =>
          obtain ⟨rfl, ⟨hg, hb⟩, hq2⟩ := hcut
          clear c0 c1 c2 c3 c4 c5 f0 f1 f2 f3 f4 f5 HG1 HG2 HBel hb0 hgl hgl2 d1 d2 had e t0 t1 t2 t3
          obtain ⟨c0, c1, c2, c3, c4, c5⟩ := six_at hg
          obtain ⟨f0, f1, f2, f3, f4, f5⟩ := six_at hq2
          have HG1 := Kept.mk hg; clear hg
          have HG2 := Kept.mk hq2; clear hq2
          have HBel := Kept.mk hb
          obtain ⟨ad', e, had, d1, d2⟩ := (hr.below hb).get hlt
          obtain rfl : ad = ad' := by injection e
          rw [HQ.out] at d1 d2
          dsimp only at d1 d2
          rw [add_next] at d2
          clear hb
          have HR := Kept.mk hr
          go_upto_region 8 with fail
          go_cut [57] (fun s57 wx => s57 = .bool false ∧ Var w wx w.heap.size p ∧ wx.heap[g2]? = some (.cells #[.int .i64 p2.t, .int .i64 p2.v, .bool p2.c, .int .i64 p2.d, .int .i64 p2.m, .int .i64 p2.o] 24 (0, 0)))
          case first =>
            by_cases hq4 : qk = 4
            · have q4 : (qk == 4) = true := by simp [hq4]
              have hs : p2 = p.lost := by rw [← HS.out, PS.step, if_neg (by omega), if_pos hq4]
              have hr1 : p2.rate = 1 := by rw [hs]; exact PS.lost_rate p
              have hr2 : (p2.rate == 1) = true := by rw [hr1]; rfl
              have hw2 : ¬ p2.wait < p.wait := by rw [hs]; have := PS.lost_wait HP.out; omega
              clear hs
              go_region_with (first | (go_at_call 14; refine (rate_b p2 _ HP2.out).mono ?_; rintro e wa ⟨rfl, hba⟩; have hG1 := block_kept (by first | exact HG1.out | exact (show (World.drew _).heap[_]? = _ from HG1.out)) hba; have hG2 := block_kept (by first | exact HG2.out | exact (show (World.drew _).heap[_]? = _ from HG2.out)) hba; have hBe : Below w.heap.size w wa := Below.trans (by first | exact HBel.out | exact HBel.out.drew) (hba.mono (by first | exact Nat.le_of_lt (block_lt HG1.out) | exact Nat.le_of_lt (block_lt (W := World.drew _) HG1.out))); have hDD := DeedsAt.below HR.out hBe; clear HG1 HG2 HBel hba c0 c1 c2 c3 c4 c5 f0 f1 f2 f3 f4 f5; obtain ⟨c0, c1, c2, c3, c4, c5⟩ := six_at hG1; obtain ⟨f0, f1, f2, f3, f4, f5⟩ := six_at hG2; have HG1 := Kept.mk hG1; have HG2 := Kept.mk hG2; have HBel := Kept.mk hBe; clear hG1 hG2 hBe hDD) | (go_at_call_of 12 (Value.int .i64 p2.t); refine (waitp_b p2 _ HP2.out).mono ?_; rintro e wa ⟨rfl, hba⟩; have hG1 := block_kept (by first | exact HG1.out | exact (show (World.drew _).heap[_]? = _ from HG1.out)) hba; have hG2 := block_kept (by first | exact HG2.out | exact (show (World.drew _).heap[_]? = _ from HG2.out)) hba; have hBe : Below w.heap.size w wa := Below.trans (by first | exact HBel.out | exact HBel.out.drew) (hba.mono (by first | exact Nat.le_of_lt (block_lt HG1.out) | exact Nat.le_of_lt (block_lt (W := World.drew _) HG1.out))); have hDD := DeedsAt.below HR.out hBe; clear HG1 HG2 HBel hba c0 c1 c2 c3 c4 c5 f0 f1 f2 f3 f4 f5; obtain ⟨c0, c1, c2, c3, c4, c5⟩ := six_at hG1; obtain ⟨f0, f1, f2, f3, f4, f5⟩ := six_at hG2; have HG1 := Kept.mk hG1; have HG2 := Kept.mk hG2; have HBel := Kept.mk hBe; clear hG1 hG2 hBe hDD) | (go_at_call_of 12 (Value.int .i64 p.t); refine (waitp_b p _ HP.out).mono ?_; rintro e wa ⟨rfl, hba⟩; have hG1 := block_kept (by first | exact HG1.out | exact (show (World.drew _).heap[_]? = _ from HG1.out)) hba; have hG2 := block_kept (by first | exact HG2.out | exact (show (World.drew _).heap[_]? = _ from HG2.out)) hba; have hBe : Below w.heap.size w wa := Below.trans (by first | exact HBel.out | exact HBel.out.drew) (hba.mono (by first | exact Nat.le_of_lt (block_lt HG1.out) | exact Nat.le_of_lt (block_lt (W := World.drew _) HG1.out))); have hDD := DeedsAt.below HR.out hBe; clear HG1 HG2 HBel hba c0 c1 c2 c3 c4 c5 f0 f1 f2 f3 f4 f5; obtain ⟨c0, c1, c2, c3, c4, c5⟩ := six_at hG1; obtain ⟨f0, f1, f2, f3, f4, f5⟩ := six_at hG2; have HG1 := Kept.mk hG1; have HG2 := Kept.mk hG2; have HBel := Kept.mk hBe; clear hG1 hG2 hBe hDD))
              all_goals
                go_wp2_with fail
                first | go_meet | skip
                exact ⟨by simp [hw2], ⟨HG1.out, HBel.out⟩, HG2.out⟩
            · have q4 : (qk == 4) = false := by simp [hq4]
              go_quiet (fail)
              go_wp2_with fail
              first | go_meet | skip
              have hN : ∀ n, (wc.drewN n).heap = wc.heap ∧ Below w.heap.size w (wc.drewN n) := fun n => ⟨rfl, HBel.out.trans ⟨rfl, rfl, rfl, Nat.le_refl _, fun _ _ => rfl⟩⟩
              refine ⟨rfl, ⟨(congrArg (fun h => h[w.heap.size]?) (hN _).1).trans HG1.out, (hN _).2⟩, (congrArg (fun h => h[g2]?) (hN _).1).trans HG2.out⟩
          case rest =>
            obtain ⟨rfl, ⟨hg, hb⟩, hq2⟩ := hcut
            clear c0 c1 c2 c3 c4 c5 f0 f1 f2 f3 f4 f5 HG1 HG2 HBel d1 d2 had e
            obtain ⟨c0, c1, c2, c3, c4, c5⟩ := six_at hg
            obtain ⟨f0, f1, f2, f3, f4, f5⟩ := six_at hq2
            have nf := fun j => Joins.unfrozen_of_block hg j
            have HG1 := Kept.mk hg
            have HBel := Kept.mk hb
            have hgl := block_lt hg
            clear hg hb hq2
            go_wp2_with fail
            first | go_meet | skip
            refine ⟨⟨k + 1, p2, by omega, by omega, by go_num, HP2.out, six_cells wc w.heap.size _ _ _ _ _ _ _ _ _ _ _ _ _ HG1.out, ?_⟩, by simp [intOf]; omega⟩
            refine Below.trans HBel.out ?_
            (repeat (first | (with_reducible exact Below.refl _ _) | ((with_reducible refine Below.setCell ?_ ?_ _); rotate_left; focus (first | omega | (simp; done) | (simp; omega))) | ((with_reducible refine Below.alloc ?_ ?_ _); rotate_left; focus (first | omega | (simp; done) | (simp; omega))) | (with_reducible refine Below.drew ?_)))
    · by_cases hlt : k < l.length
      · have hk3 : ¬ k < 300 := by omega
        clear hgo hb0 hgl
        go_wp2_with fail
        refine (awake_any _).mono ?_
        rintro e wz ⟨rfl, hbz⟩
        go_wp2
        go_ret
        exact ⟨rfl, HBel.out.trans (hbz.mono HBel.out.size)⟩
      · clear hgo hb0 hgl
        go_wp2_with fail
        refine (awake_any _).mono ?_
        rintro e wz ⟨rfl, hbz⟩
        go_wp2
        go_ret
        exact ⟨rfl, HBel.out.trans (hbz.mono HBel.out.size)⟩

theorem paceBounds_w {w : World} (A : Option Addr) (c : Nat) (l : List (Int × Int)) (hl : l.length ≤ 9223372036854775807) (hr : DeedsAt w A l) :
    Calls Try.prog 4 #[.slice A l.length c] w fun e w' => e = .returned (.bool true) ∧ Below w.heap.size w w' :=
  paceBounds_walk A c l w hl hr
end Go.Proofs.Ytpndjdiknlmddaa
