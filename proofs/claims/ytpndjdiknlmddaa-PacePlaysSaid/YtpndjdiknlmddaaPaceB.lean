/- Came, by a contract. -/
import Derived.Test.YtpndjdiknlmddaaPaceA
import Derived.Deep.RegionWith
import Derived.Deep.DeepCutAuto
namespace Go.Proofs.Ytpndjdiknlmddaa
set_option linter.unusedVariables false
open Go.RowKit Go.Lib

/-- the ticks that count -/
def clampX (k : Int) : Int := min (max k 0) 64
def cameT (t : Int) (c : Bool) (x : Int) : Int := if c then t + (x - t / 8) else 8 * x
def cameV (t v : Int) (c : Bool) (x : Int) : Int := if c then v + (max (x - t / 8) (-(x - t / 8)) - v / 4) else 2 * x
def thrO (o : Int) : Int := if o < 1 then 1024 else o
def cameM (m o : Int) : Int := min (if 16 + m < thrO o then 16 + m + 16 else 16 + m + max (256 / (16 + m)) 1) 1024 - 16
theorem quo_range (m : Int) (h0 : 0 ≤ m) : 0 ≤ 256 / (16 + m) ∧ 256 / (16 + m) ≤ 16 := by
  constructor
  · exact Int.ediv_nonneg (by omega) (by omega)
  · have h := Int.mul_ediv_self_le (x := 256) (k := 16 + m) (by omega)
    have h2 : 0 ≤ 256 / (16 + m) := Int.ediv_nonneg (by omega) (by omega)
    have h3 : 16 * (256 / (16 + m)) ≤ (16 + m) * (256 / (16 + m)) := Int.mul_le_mul_of_nonneg_right (by omega) h2
    omega
theorem ret_pv_c {t v d m o t' v' d' m' o' : Int} {c c' : Bool} (h1 : t = t') (h2 : v = v') (h3 : c = c') (h4 : d = d') (h5 : m = m') (h6 : o = o') :
    Ending.returned (.agg #[.int .i64 t, .int .i64 v, .bool c, .int .i64 d, .int .i64 m, .int .i64 o]) = .returned (.agg #[.int .i64 t', .int .i64 v', .bool c', .int .i64 d', .int .i64 m', .int .i64 o']) := ret_pv h1 h2 h3 h4 h5 h6


def grownM (m o : Int) : Int := if 16 + m < thrO o then 16 + m + 16 else 16 + m + max (256 / (16 + m)) 1
theorem six_cells (W : World) (g : Nat) (T : TypeId) (c0 c1 c2 c3 c4 c5 a0 a1 a2 a3 a4 a5 : Value) (h : W.heap[g]? = some (.cells #[c0, c1, c2, c3, c4, c5] T (0, 0))) :
    (((((((W.setCell ⟨g, 0, none⟩ a0).setCell ⟨g, 1, none⟩ a1).setCell ⟨g, 2, none⟩ a2).setCell ⟨g, 3, none⟩ a3).setCell ⟨g, 4, none⟩ a4).setCell ⟨g, 5, none⟩ a5)).heap[g]? = some (.cells #[a0, a1, a2, a3, a4, a5] T (0, 0)) := by
  have h0 := Joins.block_setCell (i := 0) h a0
  have h1 := Joins.block_setCell (i := 1) h0 a1
  have h2 := Joins.block_setCell (i := 2) h1 a2
  have h3 := Joins.block_setCell (i := 3) h2 a3
  have h4 := Joins.block_setCell (i := 4) h3 a4
  have h5 := Joins.block_setCell (i := 5) h4 a5
  exact h5
theorem six_at {X : World} {g : Nat} {T : TypeId} {a0 a1 a2 a3 a4 a5 : Value} (h : X.heap[g]? = some (.cells #[a0, a1, a2, a3, a4, a5] T (0, 0))) :
    X.cell? ⟨g, 0, none⟩ = some a0 ∧ X.cell? ⟨g, 1, none⟩ = some a1 ∧ X.cell? ⟨g, 2, none⟩ = some a2 ∧ X.cell? ⟨g, 3, none⟩ = some a3 ∧ X.cell? ⟨g, 4, none⟩ = some a4 ∧ X.cell? ⟨g, 5, none⟩ = some a5 :=
  ⟨Joins.cell_of_block h 0, Joins.cell_of_block h 1, Joins.cell_of_block h 2, Joins.cell_of_block h 3, Joins.cell_of_block h 4, Joins.cell_of_block h 5⟩
theorem heap_new (W : World) (o : Obj) (g : Nat) (hg : g = W.heap.size) : (W.alloc o).heap[g]? = some o := by
  subst hg
  show (W.heap.push o)[W.heap.size]? = _
  simp
theorem block_two {W : World} {g : Nat} {o : Obj} (h : W.heap[g]? = some o) (oa ob : Obj) : ((W.alloc oa).alloc ob).heap[g]? = some o := by
  have hl : g < W.heap.size := (Array.getElem?_eq_some_iff.1 h).1
  rw [Below.heap_alloc (W.alloc oa) ob g (by simp; omega), Below.heap_alloc W oa g hl, h]
theorem came_end {R : Ending → World → Prop} {a : Act} {X : World} {g : Nat} {c0 c1 c2 c3 c4 c5 : Value} (h4 : a.tmps.getD 4 undef = .pointer (some ⟨g, 0, none⟩)) (hd : a.defers = [])
    (hX : X.heap[g]? = some (.cells #[c0, c1, c2, c3, c4, c5] 24 (0, 0))) (hR : R (.returned (.agg #[c0, c1, c2, c3, c4, c5])) X) : bodyPost Try.prog Try.f16 R .ret a X := by
  obtain ⟨y0, y1, y2, y3, y4, y5⟩ := six_at hX
  have h4' : a.tmps[4]?.getD undef = .pointer (some ⟨g, 0, none⟩) := by rw [← h4]; simp
  exact bodyPost_ret (v := .agg #[c0, c1, c2, c3, c4, c5]) (by simp [results, Try.results16, h4', go_sem, y0, y1, y2, y3, y4, y5]) hd hR
theorem th_0 : thrO 0 = 1024 := rfl
theorem th_1 (o : Int) (h : 32 ≤ o) : thrO o = o := by unfold thrO; rw [if_neg (by omega)]
theorem clampX_range (k : Int) : 0 ≤ clampX k ∧ clampX k ≤ 64 := by unfold clampX; omega
theorem cameT_range {t x : Int} {c : Bool} (t0 : 0 ≤ t) (t1 : t ≤ 512) (x0 : 0 ≤ x) (x1 : x ≤ 64) : 0 ≤ cameT t c x ∧ cameT t c x ≤ 512 := by
  unfold cameT; split <;> omega
theorem cameV_range {t v x : Int} {c : Bool} (t0 : 0 ≤ t) (t1 : t ≤ 512) (v0 : 0 ≤ v) (v1 : v ≤ 260) (x0 : 0 ≤ x) (x1 : x ≤ 64) : 0 ≤ cameV t v c x ∧ cameV t v c x ≤ 260 := by
  unfold cameV; split <;> omega

set_option maxRecDepth 100000 in
set_option maxHeartbeats 4000000 in
theorem came_any (t v : Int) (c : Bool) (d m o k : Int) (w : World) (t0 : 0 ≤ t) (t1 : t ≤ 512) (v0 : 0 ≤ v) (v1 : v ≤ 260) (m0 : 0 ≤ m) (m1 : m ≤ 1008) (o0 : o = 0 ∨ 32 ≤ o) (o1 : o ≤ 512) :
    Calls Try.prog 16 #[.agg #[.int .i64 t, .int .i64 v, .bool c, .int .i64 d, .int .i64 m, .int .i64 o], .int .i64 k] w fun e w' => e = .returned (.agg #[.int .i64 (cameT t c (clampX k)), .int .i64 (cameV t v c (clampX k)), .bool true, .int .i64 0, .int .i64 (cameM m o), .int .i64 o]) ∧ Below w.heap.size w w' := by
  obtain ⟨q0, q1⟩ := quo_range m m0
  go_enter Try.func16, Try.ntmps16
  go_upto_region 1 with fail
  go_cut [5] (fun s5 wx => s5 = .int .i64 (clampX k) ∧ wx = (w.alloc (.cells #[.int .i64 t, .int .i64 v, .bool c, .int .i64 d, .int .i64 m, .int .i64 o] 24)).alloc (.cells #[.int .i64 0, .int .i64 0, .bool false, .int .i64 0, .int .i64 0, .int .i64 0] 24))
  case first =>
    by_cases h1 : k < 0
    · go_wp2_with fail
      go_meet
      exact ⟨by congr 1; unfold clampX; omega, rfl⟩
    · by_cases h2 : 64 < k
      all_goals
        go_wp2_with fail
        go_meet
        exact ⟨by congr 1; unfold clampX; omega, rfl⟩
  case rest =>
    obtain ⟨rfl, rfl⟩ := hcut
    obtain ⟨x0, x1⟩ := clampX_range k
    obtain ⟨T0, T1⟩ := cameT_range (c := c) t0 t1 x0 x1
    obtain ⟨V0, V1⟩ := cameV_range (c := c) t0 t1 v0 v1 x0 x1
    generalize hX : clampX k = x at *
    have HX := Kept.mk hX; clear hX
    go_upto_if 12 with fail
    go_cut [] (fun wx => wx = (w.alloc (.cells #[.int .i64 (cameT t c x), .int .i64 (cameV t v c x), .bool true, .int .i64 d, .int .i64 m, .int .i64 o] 24)).alloc (.cells #[.int .i64 0, .int .i64 0, .bool false, .int .i64 0, .int .i64 0, .int .i64 0] 24))
    case first =>
      cases c with
      | false =>
        go_wp2_with fail
        go_meet
        simp only [cameT, cameV, Bool.false_eq_true, if_false]
      | true =>
        by_cases hs : t / 8 ≤ x
        · have e : cameV t v true x = v + (x - t / 8 - v / 4) := by simp only [cameV, if_true]; omega
          have E := Kept.mk e; clear e
          go_wp2_with fail
          go_meet
          rw [E.out]
          simp only [cameT, if_true]
        · have e : cameV t v true x = v + (-(x - t / 8) - v / 4) := by simp only [cameV, if_true]; omega
          have E := Kept.mk e; clear e
          go_wp2_with fail
          go_meet
          rw [E.out]
          simp only [cameT, if_true]
    case rest =>
      obtain rfl := hcut
      generalize hT : cameT t c x = t' at *
      generalize hV : cameV t v c x = v' at *
      have HT := Kept.mk hT; clear hT
      have HV := Kept.mk hV; clear hV
      go_upto_region 9 with (first | (go_at_call 20; refine (rate_any _ _ _ _ _ _ _ (by omega) (by omega)).mono ?_; rintro e w1 ⟨rfl, o1, rfl⟩) | (go_at_call 21; refine (threshold_0 _ _ _ _ _ _).mono ?_; rintro e w1 ⟨rfl, o1, rfl⟩) | (go_at_call 22; refine (at_any _ _ _ _ _ _ _ _ (by omega) (by omega)).mono ?_; rintro e w1 ⟨rfl, o4, o5, rfl⟩))
      go_cut [50] (fun s50 wx => s50 = .bool (decide (thrO o ≤ 16 + m)) ∧ Below (w.heap.size + 3) (((w.alloc (.cells #[.int .i64 t', .int .i64 v', .bool true, .int .i64 0, .int .i64 m, .int .i64 o] 24)).alloc (.cells #[.int .i64 0, .int .i64 0, .bool false, .int .i64 0, .int .i64 0, .int .i64 0] 24)).alloc o1) wx)
      case first =>
        by_cases ho : o = 0
        · subst ho
          by_cases hr : 16 + m < 1024
          all_goals
            go_region_with (first | (go_at_call 20; refine (rate_any _ _ _ _ _ _ _ (by omega) (by omega)).mono ?_; rintro e w1 ⟨rfl, o1, rfl⟩) | (go_at_call 21; refine (threshold_0 _ _ _ _ _ _).mono ?_; rintro e w1 ⟨rfl, o1, rfl⟩) | (go_at_call 22; refine (at_any _ _ _ _ _ _ _ _ (by omega) (by omega)).mono ?_; rintro e w1 ⟨rfl, o4, o5, rfl⟩))
            all_goals
              go_wp2_with fail
              go_meet
              exact ⟨by first | (simp only [th_0]; done) | (simp only [th_0]; first | rfl | (congr 1; symm; exact decide_eq_true (by omega)) | (congr 1; symm; exact decide_eq_false (by omega))), by (repeat (first | (with_reducible exact Below.refl _ _) | ((with_reducible refine Below.setCell ?_ ?_ _); rotate_left; focus (first | omega | (simp; done) | (simp; omega))) | ((with_reducible refine Below.alloc ?_ ?_ _); rotate_left; focus (first | omega | (simp; done) | (simp; omega))) | (with_reducible refine Below.drew ?_)))⟩
        · have ho : 32 ≤ o := by omega
          clear o0
          by_cases hr : 16 + m < o
          all_goals
            go_region_with (first | (go_at_call 20; refine (rate_any _ _ _ _ _ _ _ (by omega) (by omega)).mono ?_; rintro e w1 ⟨rfl, o1, rfl⟩) | (go_at_call 21; refine (threshold_1 _ _ _ _ _ _ _ (by omega) (by omega)).mono ?_; rintro e w1 ⟨rfl, o1, rfl⟩) | (go_at_call 22; refine (at_any _ _ _ _ _ _ _ _ (by omega) (by omega)).mono ?_; rintro e w1 ⟨rfl, o4, o5, rfl⟩))
            all_goals
              go_wp2_with fail
              go_meet
              exact ⟨by first | (simp only [th_1 o ho]; done) | (simp only [th_1 o ho]; first | rfl | (congr 1; symm; exact decide_eq_true (by omega)) | (congr 1; symm; exact decide_eq_false (by omega))), by (repeat (first | (with_reducible exact Below.refl _ _) | ((with_reducible refine Below.setCell ?_ ?_ _); rotate_left; focus (first | omega | (simp; done) | (simp; omega))) | ((with_reducible refine Below.alloc ?_ ?_ _); rotate_left; focus (first | omega | (simp; done) | (simp; omega))) | (with_reducible refine Below.drew ?_)))⟩
      case rest =>
        obtain ⟨rfl, hb1⟩ := hcut
        have hc : ∀ b j, b < w.heap.size + 3 → wc.cell? ⟨b, j, none⟩ = _ := fun b j h => hb1.cell (p := ⟨b, j, none⟩) h
        have hf : ∀ b j, b < w.heap.size + 3 → wc.frozen? ⟨b, j, none⟩ = _ := fun b j h => hb1.frozen (p := ⟨b, j, none⟩) h
        have hz : w.heap.size + 3 ≤ wc.heap.size := by have := hb1.size; simp at this; omega
        have hca : ∀ (ob : Obj) (j : Nat), (wc.alloc ob).cell? ⟨w.heap.size, j, none⟩ = wc.cell? ⟨w.heap.size, j, none⟩ := fun ob j => World.cell?_alloc_lt wc ob ⟨w.heap.size, j, none⟩ (by show w.heap.size < _; omega)
        go_upto_if 50 with fail
        go_cut [7] (fun s7 wx => s7 = .int .i64 (grownM m o) ∧ Below wc.heap.size wc wx)
        case first =>
          by_cases hr : thrO o ≤ 16 + m
          · have hd : decide (thrO o ≤ 16 + m) = true := decide_eq_true hr
            have e1 : ((16 + m : Int) == 0) = false := by rw [beq_eq_false_iff_ne]; omega
            have e2 : (256 : Int).tdiv (16 + m) = 256 / (16 + m) := Int.tdiv_eq_ediv_of_nonneg (by decide)
            have e3 : IntKind.i64.wrap (256 / (16 + m)) = 256 / (16 + m) := wrap_i64_small _ (by omega) (by omega)
            have e4 : IntKind.i64.wrap (16 + m + 256 / (16 + m)) = 16 + m + 256 / (16 + m) := wrap_i64_small _ (by omega) (by omega)
            have e5 : IntKind.i64.wrap (16 + m + 1) = 16 + m + 1 := wrap_i64_small _ (by omega) (by omega)
            have e6 : ¬ (16 + m = 0) := by omega
            by_cases hq : 1 ≤ 256 / (16 + m)
            all_goals
              first | have e7 : decide (256 / (16 + m) < 1) = false := decide_eq_false (by omega) | have e7 : decide (256 / (16 + m) < 1) = true := decide_eq_true (by omega)
              go_wp2_with fail
              go_region_with (first | (go_at_call 20; refine (rate_any _ _ _ _ _ _ _ (by omega) (by omega)).mono ?_; rintro e w1 ⟨rfl, o1, rfl⟩) | (go_at_call 21; refine (threshold_1 _ _ _ _ _ _ _ (by omega) (by omega)).mono ?_; rintro e w1 ⟨rfl, o1, rfl⟩) | (go_at_call 22; refine (at_any _ _ _ _ _ _ _ _ (by omega) (by omega)).mono ?_; rintro e w1 ⟨rfl, o4, o5, rfl⟩))
              all_goals
                go_wp2_with fail
                go_meet
                exact ⟨by congr 1; unfold grownM; rw [if_neg (by omega)]; omega, by (repeat (first | (with_reducible exact Below.refl _ _) | ((with_reducible refine Below.setCell ?_ ?_ _); rotate_left; focus (first | omega | (simp; done) | (simp; omega))) | ((with_reducible refine Below.alloc ?_ ?_ _); rotate_left; focus (first | omega | (simp; done) | (simp; omega))) | (with_reducible refine Below.drew ?_)))⟩
          · have hd : decide (thrO o ≤ 16 + m) = false := decide_eq_false hr
            go_wp2_with fail
            go_meet
            exact ⟨by congr 1; unfold grownM; rw [if_pos (by omega)], by (repeat (first | (with_reducible exact Below.refl _ _) | ((with_reducible refine Below.setCell ?_ ?_ _); rotate_left; focus (first | omega | (simp; done) | (simp; omega))) | ((with_reducible refine Below.alloc ?_ ?_ _); rotate_left; focus (first | omega | (simp; done) | (simp; omega))) | (with_reducible refine Below.drew ?_)))⟩
        case rest =>
          obtain ⟨rfl, hb2⟩ := hcut
          have hbel : Below w.heap.size w wc := by
            refine Below.trans ?_ (hb2.mono (by omega))
            refine Below.trans ?_ (hb1.mono (by omega))
            (repeat (first | (with_reducible exact Below.refl _ _) | ((with_reducible refine Below.setCell ?_ ?_ _); rotate_left; focus (first | omega | (simp; done) | (simp; omega))) | ((with_reducible refine Below.alloc ?_ ?_ _); rotate_left; focus (first | omega | (simp; done) | (simp; omega))) | (with_reducible refine Below.drew ?_)))
          have hz2 : w.heap.size + 3 ≤ wc.heap.size := by have := hb2.size; omega
          have hA : wc.heap[w.heap.size]? = some (.cells #[.int .i64 t', .int .i64 v', .bool true, .int .i64 0, .int .i64 m, .int .i64 o] 24 (0, 0)) := by
            rw [hb2.block _ (by omega), hb1.block _ (by omega), Below.heap_alloc _ _ _ (by simp; omega), Below.heap_alloc _ _ _ (by simp)]
            exact heap_new _ _ _ rfl
          have hB : wc.heap[w.heap.size + 1]? = some (.cells #[.int .i64 0, .int .i64 0, .bool false, .int .i64 0, .int .i64 0, .int .i64 0] 24 (0, 0)) := by
            rw [hb2.block _ (by omega), hb1.block _ (by omega), Below.heap_alloc _ _ _ (by simp)]
            exact heap_new _ _ _ (by simp)
          obtain ⟨a0, a1, a2, a3, a4, a5⟩ := six_at hA
          have b0 : ∀ oa ob : Obj, ((wc.alloc oa).alloc ob).cell? ⟨w.heap.size + 1, 0, none⟩ = some (.int .i64 0) := fun oa ob => Joins.cell_of_block (block_two hB oa ob) 0
          have b1 : ∀ oa ob : Obj, ((wc.alloc oa).alloc ob).cell? ⟨w.heap.size + 1, 1, none⟩ = some (.int .i64 0) := fun oa ob => Joins.cell_of_block (block_two hB oa ob) 1
          have b2 : ∀ oa ob : Obj, ((wc.alloc oa).alloc ob).cell? ⟨w.heap.size + 1, 2, none⟩ = some (.bool false) := fun oa ob => Joins.cell_of_block (block_two hB oa ob) 2
          have b3 : ∀ oa ob : Obj, ((wc.alloc oa).alloc ob).cell? ⟨w.heap.size + 1, 3, none⟩ = some (.int .i64 0) := fun oa ob => Joins.cell_of_block (block_two hB oa ob) 3
          have b4 : ∀ oa ob : Obj, ((wc.alloc oa).alloc ob).cell? ⟨w.heap.size + 1, 4, none⟩ = some (.int .i64 0) := fun oa ob => Joins.cell_of_block (block_two hB oa ob) 4
          have b5 : ∀ oa ob : Obj, ((wc.alloc oa).alloc ob).cell? ⟨w.heap.size + 1, 5, none⟩ = some (.int .i64 0) := fun oa ob => Joins.cell_of_block (block_two hB oa ob) 5
          have bf : ∀ (oa ob : Obj) (j : Nat), ((wc.alloc oa).alloc ob).frozen? ⟨w.heap.size + 1, j, none⟩ = false := fun oa ob j => Joins.unfrozen_of_block (block_two hB oa ob) j
          have HB := Kept.mk hB
          clear hc hf hb1 hb2 hz hca hA hB
          have hgr : 16 ≤ grownM m o ∧ grownM m o ≤ 1040 := by unfold grownM; split <;> omega
          have hgm : cameM m o = min (grownM m o) 1024 - 16 := rfl
          generalize grownM m o = g at *
          have HG := Kept.mk hgm; clear hgm
          obtain ⟨g0, g1⟩ := hgr
          by_cases hg : g ≤ 1024
          · go_wp2_with (go_at_call 22; refine (at_any _ _ _ _ _ _ _ _ (by omega) (by omega)).mono ?_; rintro e w1 ⟨rfl, o4, o5, rfl⟩)
            refine came_end rfl rfl (six_cells ((wc.alloc o4).alloc o5) (w.heap.size + 1) _ _ _ _ _ _ _ _ _ _ _ _ _ (block_two HB.out o4 o5)) ⟨?_, ?_⟩
            · rw [HX.out]; exact ret_pv (HT.out).symm (HV.out).symm rfl rfl (by rw [HG.out]; omega) rfl
            · refine Below.trans hbel ?_
              (repeat (first | (with_reducible exact Below.refl _ _) | ((with_reducible refine Below.setCell ?_ ?_ _); rotate_left; focus (first | omega | (simp; done) | (simp; omega))) | ((with_reducible refine Below.alloc ?_ ?_ _); rotate_left; focus (first | omega | (simp; done) | (simp; omega))) | (with_reducible refine Below.drew ?_)))
          · go_wp2_with (go_at_call 22; refine (at_any _ _ _ _ _ _ _ _ (by omega) (by omega)).mono ?_; rintro e w1 ⟨rfl, o4, o5, rfl⟩)
            refine came_end rfl rfl (six_cells ((wc.alloc o4).alloc o5) (w.heap.size + 1) _ _ _ _ _ _ _ _ _ _ _ _ _ (block_two HB.out o4 o5)) ⟨?_, ?_⟩
            · rw [HX.out]; exact ret_pv (HT.out).symm (HV.out).symm rfl rfl (by rw [HG.out]; omega) rfl
            · refine Below.trans hbel ?_
              (repeat (first | (with_reducible exact Below.refl _ _) | ((with_reducible refine Below.setCell ?_ ?_ _); rotate_left; focus (first | omega | (simp; done) | (simp; omega))) | ((with_reducible refine Below.alloc ?_ ?_ _); rotate_left; focus (first | omega | (simp; done) | (simp; omega))) | (with_reducible refine Below.drew ?_)))
end Go.Proofs.Ytpndjdiknlmddaa
