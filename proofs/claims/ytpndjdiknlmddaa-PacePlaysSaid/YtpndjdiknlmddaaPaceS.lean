/- The document's answer for pace: what came back, by a contract. -/
import Derived.Test.YtpndjdiknlmddaaPaceQ
import Derived.StillTailTactics
namespace Go.Proofs.Ytpndjdiknlmddaa
set_option linter.unusedVariables false
open Go.RowKit Go.Lib
def grownR (r o : Int) : Int := min (if r < o then r + 16 else if 256 < r then r + 1 else r + 256 / r) 1024
def grownR0 (r o : Int) : Int := if r < o then r + 16 else if 256 < r then r + 1 else r + 256 / r
theorem cameR_end {R : Ending → World → Prop} {a : Act} {X : World} {g : Nat} {c0 c1 c2 c3 c4 c5 : Value} (h4 : a.tmps.getD 4 undef = .pointer (some ⟨g, 0, none⟩)) (hd : a.defers = [])
    (hX : X.heap[g]? = some (.cells #[c0, c1, c2, c3, c4, c5] 26 (0, 0))) (hR : R (.returned (.agg #[c0, c1, c2, c3, c4, c5])) X) : bodyPost Try.prog Try.f9 R .ret a X := by
  obtain ⟨y0, y1, y2, y3, y4, y5⟩ := six_at hX
  have h4' : a.tmps[4]?.getD undef = .pointer (some ⟨g, 0, none⟩) := by rw [← h4]; simp
  exact bodyPost_ret (v := .agg #[c0, c1, c2, c3, c4, c5]) (by simp [results, Try.results9, h4', go_sem, y0, y1, y2, y3, y4, y5]) hd hR
structure RW (w wx : World) (t v r o : Int) : Prop where
  b : wx.heap[w.heap.size]? = some (.cells #[.int .i64 t, .int .i64 v, .int .i64 0, .int .i64 r, .int .i64 o, .bool true] 26 (0, 0))
  z : wx.heap[w.heap.size + 1]? = some (.cells #[.int .i64 0, .int .i64 0, .int .i64 0, .int .i64 0, .int .i64 0, .bool false] 26 (0, 0))
  below : Below w.heap.size w wx
theorem RW.set {w wx : World} {t v r o : Int} (h : RW w wx t v r o) (r' : Int) : RW w (wx.setCell ⟨w.heap.size, 3, none⟩ (.int .i64 r')) t v r' o :=
  ⟨Joins.block_setCell (i := 3) h.b _, (setCell_other_block _ _ _ _ _ (by omega)).trans h.z, h.below.setCell (Nat.le_refl _) _⟩
theorem RW.drewN {w wx : World} {t v r o : Int} (h : RW w wx t v r o) (n : Nat) : RW w (wx.drewN n) t v r o := ⟨h.b, h.z, below_drewN h.below n⟩
theorem RW.drew {w wx : World} {t v r o : Int} (h : RW w wx t v r o) : RW w wx.drew t v r o := ⟨h.b, h.z, h.below.drew⟩
attribute [local irreducible] cameT cameV grownR clampX grownR0
set_option maxRecDepth 100000 in
set_option maxHeartbeats 4000000 in
theorem cameR_any (t v d r o k : Int) (c : Bool) (w : World) (t0 : 0 ≤ t) (t1 : t ≤ 512) (v0 : 0 ≤ v) (v1 : v ≤ 260) (h0 : 16 ≤ r) (h1 : r ≤ 1024) (o0 : 32 ≤ o) (o1 : o ≤ 1024) :
    Calls Try.prog 9 #[.agg #[.int .i64 t, .int .i64 v, .int .i64 d, .int .i64 r, .int .i64 o, .bool c], .int .i64 k] w fun e w' => e = .returned (.agg #[.int .i64 (cameT t c (clampX k)), .int .i64 (cameV t v c (clampX k)), .int .i64 0, .int .i64 (grownR r o), .int .i64 o, .bool true]) ∧ Below w.heap.size w w' := by
  go_enter Try.func9, Try.ntmps9
  go_upto_if 10 with fail
  go_cut [5] (fun s5 wx => s5 = .int .i64 (max k 0) ∧ wx = (w.alloc (.cells #[.int .i64 t, .int .i64 v, .int .i64 d, .int .i64 r, .int .i64 o, .bool c] 26)).alloc (.cells #[.int .i64 0, .int .i64 0, .int .i64 0, .int .i64 0, .int .i64 0, .bool false] 26))
  case first =>
    by_cases hk : k < 0
    all_goals
      go_wp2_with fail
      go_meet
      exact ⟨by congr 1; omega, rfl⟩
  case rest =>
    obtain ⟨rfl, rfl⟩ := hcut
    go_upto_if 12 with fail
    go_cut [5] (fun s5 wx => s5 = .int .i64 (clampX k) ∧ wx = (w.alloc (.cells #[.int .i64 t, .int .i64 v, .int .i64 d, .int .i64 r, .int .i64 o, .bool c] 26)).alloc (.cells #[.int .i64 0, .int .i64 0, .int .i64 0, .int .i64 0, .int .i64 0, .bool false] 26))
    case first =>
      by_cases hk : 64 < max k 0
      all_goals
        go_wp2_with fail
        go_meet
        exact ⟨by congr 1; unfold clampX; omega, rfl⟩
    case rest =>
      obtain ⟨rfl, rfl⟩ := hcut
      obtain ⟨x0, x1⟩ := clampX_range k
      obtain ⟨T0, T1⟩ := cameT_range (c := c) t0 t1 x0 x1
      obtain ⟨V0, V1⟩ := cameV_range (c := c) t0 t1 v0 v1 x0 x1
      generalize hX : clampX k = x at *
      have HX := Kept.mk hX; clear hX
      go_upto_if 15 with fail
      go_cut [] (fun wx => Below (w.heap.size + 2) ((w.alloc (.cells #[.int .i64 (cameT t c x), .int .i64 (cameV t v c x), .int .i64 d, .int .i64 r, .int .i64 o, .bool true] 26)).alloc (.cells #[.int .i64 0, .int .i64 0, .int .i64 0, .int .i64 0, .int .i64 0, .bool false] 26)) wx)
      case first =>
        cases c with
        | false =>
          go_wp2_with fail
          go_meet
          simp only [cameT, cameV, Bool.false_eq_true, if_false]
          exact Below.refl _ _
        | true =>
          have eT : cameT t true x = t + (x - t / 8) := by simp only [cameT, if_true]
          have eV : x - t / 8 < 0 → cameV t v true x = v + -(x - t / 8) - v / 4 := by intro _; simp only [cameV, if_true]; omega
          have eW : ¬ x - t / 8 < 0 → cameV t v true x = v + (x - t / 8) - v / 4 := by intro _; simp only [cameV, if_true]; omega
          have ET := Kept.mk eT
          have EV := Kept.mk eV
          have EW := Kept.mk eW
          clear eT eV eW
          by_cases hs : x - t / 8 < 0
          all_goals
            go_upto_region 14 with (go_at_call 19; refine (down_8 _ _ (by omega) (by omega)).mono ?_; rintro e w1 ⟨rfl, rfl⟩)
            go_region_with (go_at_call 19; refine (down_4 _ _ (by omega) (by omega)).mono ?_; rintro e w1 ⟨rfl, rfl⟩)
            all_goals
              go_wp2_with fail
              first | go_meet | skip
              rw [ET.out]
              first | rw [EV.out hs] | rw [EW.out hs]
              exact (Below.refl _ _).drew
      case rest =>
        have hB := (hcut.block w.heap.size (by omega)).trans (block_old (heap_new _ _ _ rfl) _)
        have hB2 := (hcut.block (w.heap.size + 1) (by omega)).trans (heap_new _ _ _ (by simp))
        have hbel : Below w.heap.size w wc := by
          refine Below.trans ?_ (hcut.mono (by omega))
          exact (((Below.refl _ _).alloc (Nat.le_refl _) _).alloc (by simp) _)
        clear hcut
        obtain ⟨c0, c1, c2, c3, c4, c5⟩ := six_at hB
        obtain ⟨f0, f1, f2, f3, f4, f5⟩ := six_at hB2
        generalize hT : cameT t c x = t' at *
        generalize hV : cameV t v c x = v' at *
        have HT := Kept.mk hT; clear hT
        have HV := Kept.mk hV; clear hV
        have hW : RW w (wc.setCell ⟨w.heap.size, 2, none⟩ (.int .i64 0)) t' v' r o :=
          ⟨Joins.block_setCell (i := 2) hB _, (setCell_other_block _ _ _ _ _ (by omega)).trans hB2, hbel.setCell (Nat.le_refl _) _⟩
        have nf := fun j => Joins.unfrozen_of_block hB j
        clear hB hB2 hbel f0 f1 f2 f3 f4 f5
        have HW := Kept.mk hW; clear hW
        have hnz : ¬ r = 0 := by omega
        have hnz2 : (r == 0) = false := by simp [hnz]
        have hq := quo_range (r - 16) (by omega)
        rw [show 16 + (r - 16) = r by omega] at hq
        obtain ⟨q0, q1⟩ := hq
        go_upto_if 52 with fail
        clear c0 c1 c2 c3 c4 c5 nf
        generalize wc.setCell ⟨w.heap.size, 2, none⟩ (.int .i64 0) = X at *
        obtain ⟨c0, c1, c2, c3, c4, c5⟩ := six_at HW.out.b
        have nf := fun j => Joins.unfrozen_of_block HW.out.b j
        go_cut [] (fun wx => RW w wx t' v' (grownR0 r o) o)
        case first =>
          by_cases hr : r < o
          · have GR : Kept (grownR0 r o = r + 16) := ⟨by unfold grownR0; rw [if_pos hr]⟩
            go_wp2_with fail
            go_meet
            rw [GR.out]
            exact HW.out.set _
          · by_cases h256 : 256 < r
            · have GR : Kept (grownR0 r o = r + 1) := ⟨by unfold grownR0; rw [if_neg hr, if_pos h256]⟩
              go_wp2_with fail
              go_meet
              rw [GR.out]
              exact HW.out.set _
            · have GR : Kept (grownR0 r o = r + 256 / r) := ⟨by unfold grownR0; rw [if_neg hr, if_neg h256]⟩
              have e2 : (256 : Int).tdiv r = 256 / r := Int.tdiv_eq_ediv_of_nonneg (by decide)
              have e3 : IntKind.i64.wrap (256 / r) = 256 / r := wrap_i64_small _ (by omega) (by omega)
              have e4 : IntKind.i64.wrap (r + 256 / r) = r + 256 / r := wrap_i64_small _ (by omega) (by omega)
              go_wp2_with fail
              go_still_tail 7, (by kernel_rfl)
              go_wp2_with fail
              go_meet
              rw [GR.out]
              exact (HW.out.set _).drew
        case rest =>
          have hg : grownR r o = min (grownR0 r o) 1024 := by unfold grownR grownR0; rfl
          have hr0 : 16 ≤ grownR0 r o ∧ grownR0 r o ≤ 1040 := by unfold grownR0; (repeat' split) <;> omega
          have HG := Kept.mk hg; clear hg HW c0 c1 c2 c3 c4 c5 nf q0 q1
          obtain ⟨r0, r1⟩ := hr0
          generalize grownR0 r o = R0 at *
          obtain ⟨c0, c1, c2, c3, c4, c5⟩ := six_at hcut.b
          have nf := fun j => Joins.unfrozen_of_block hcut.b j
          have HW := Kept.mk hcut; clear hcut
          go_upto_if 73 with fail
          go_cut [] (fun wx => RW w wx t' v' (grownR r o) o)
          case first =>
            by_cases hcap : 1024 < R0
            · go_wp2_with fail
              go_meet
              rw [HG.out, show min R0 1024 = 1024 by omega]
              exact HW.out.set _
            · go_wp2_with fail
              go_meet
              rw [HG.out, show min R0 1024 = R0 by omega]
              exact HW.out
          case rest =>
            clear HW c0 c1 c2 c3 c4 c5 nf
            obtain ⟨c0, c1, c2, c3, c4, c5⟩ := six_at hcut.b
            obtain ⟨f0, f1, f2, f3, f4, f5⟩ := six_at hcut.z
            have nf2 := fun j => Joins.unfrozen_of_block hcut.z j
            have HW := Kept.mk hcut; clear hcut
            go_wp2_with fail
            refine cameR_end rfl rfl (six_cells _ (w.heap.size + 1) _ _ _ _ _ _ _ _ _ _ _ _ _ HW.out.z) ⟨ret_rv ?_ ?_ rfl rfl rfl rfl, ?_⟩
            · rw [HX.out, HT.out]
            · rw [HX.out, HV.out]
            · exact (((((((HW.out.below.setCell (by simp) _).setCell (by simp) _).setCell (by simp) _).setCell (by simp) _).setCell (by simp) _).setCell (by simp) _))
end Go.Proofs.Ytpndjdiknlmddaa
