/- Clashes: the example of the law. -/
import Derived.Test.YtkkcakblphebjaaDoorClG
import Derived.Test.YtkkcakblphebjaaDoorShaK
namespace Go.Proofs.YtkkcakblphebjaaDoor
set_option linter.unusedVariables false
set_option linter.unusedSimpArgs false
open Go.RowKit Go.Lib
attribute [local irreducible] str sSum wid tS tLeaf tNode cutN cRoot
set_option maxRecDepth 100000 in
set_option maxHeartbeats 400000 in
theorem clAwake_any (W : World) (hk : KAt W) :
    Calls Tryd.prog 9 #[] W fun e w' => e = .returned (.bool true) ∧ Below W.heap.size W w' := by
  have b1 := bnew W (.cells (strs [[113], [97, 120]]).toArray 9)
  have r1 := row_new W [[113], [97, 120]] 9
  have b2 := bnext b1 (bnew _ (.cells (strs [[113], [98, 104]]).toArray 9))
  have r2 := row_new (W.alloc (.cells (strs [[113], [97, 120]]).toArray 9)) [[113], [98, 104]] 9
  have HL := Kept.mk (clLeaves_any 1 _ _ 2 2 [[113], [97, 120]] [[113], [98, 104]] _ (hk.below b2) (r1.below (bnew _ _)) r2 (by simp) (by simp) (by simp) (by simp) (by intro l hl; simp at hl; rcases hl with rfl | rfl <;> simp) (by intro l hl; simp at hl; rcases hl with rfl | rfl <;> simp))
  have HV := Kept.mk (fun w' (hb : Below W.heap.size W w') => clValid_any 1 [0, 97, 120] [0, 98, 104] w' (hk.below hb) (by simp) (by simp))
  rw [wid_1, cLv_awake] at HL
  rw [show clV 1 [0, 97, 120] [0, 98, 104] = true from by rw [clV, wid_1, one_sums]; simp] at HV
  have HB := Kept.mk b2
  clear b1 b2 r1 r2 hk
  have hz : (W.alloc (.cells (strs [[113], [97, 120]]).toArray 9)).heap.size = W.heap.size + 1 := by simp
  rw [hz] at HL
  clear hz
  rw [aw_s1, aw_s2, aw_s3] at HL
  simp only [List.length_cons, List.length_nil, Nat.zero_add, Nat.reduceAdd] at HL
  rw [aw_s1, aw_s2] at HB
  rw [aw_s4, aw_s5] at HV
  go_enter Tryd.func9, Tryd.ntmps9
  go_wp2_with fail
  with_reducible refine HL.out.mono ?_
  rintro e w1 ⟨rfl, b1⟩
  have HB1 := Kept.mk (bnext HB.out b1)
  clear b1
  go_wp2_with fail
  with_reducible refine (HV.out w1 HB1.out).mono ?_
  rintro e w2 ⟨rfl, b2⟩
  have HB2 := Kept.mk (bnext HB1.out b2)
  clear b2
  go_wp2_with fail
  go_ret
  exact ⟨rfl, HB2.out⟩
set_option maxRecDepth 100000 in
set_option maxHeartbeats 1000000 in
theorem clashValid_w {W : World} (w : Int) (hw : (Lit.int .i64 w).wf = true) (x : List UInt8) (hx : x.length ≤ 140737488351232) (y : List UInt8) (hy : y.length ≤ 140737488351232) (hk : KAt W) :
    Calls Tryd.prog 3 #[.int .i64 w, .string (str x), .string (str y)] W fun e w' => e = .returned (.bool true) ∧ Below W.heap.size W w' := by
  have sx := str_size x
  have sy := str_size y
  have HK := Kept.mk (fun w' (hb : Below W.heap.size W w') => hk.below hb)
  clear hk
  by_cases h : 2000 < x.length ∨ 2000 < y.length
  · rcases Nat.lt_or_ge 2000 x.length with h1 | h1
    · have h1i : (2000 : Int) < (x.length : Int) := by omega
      clear h
      go_enter Tryd.func3, Tryd.ntmps3
      go_wp2_with fail
      with_reducible refine (clAwake_any W (HK.out W (Below.refl _ _))).mono ?_
      rintro e w1 ⟨rfl, b1⟩
      have HB1 := Kept.mk b1
      clear b1
      go_wp2_with fail
      go_ret
      exact ⟨rfl, HB1.out⟩
    · have h1i : ¬ (2000 : Int) < (x.length : Int) := by omega
      have h2i : (2000 : Int) < (y.length : Int) := by omega
      clear h
      go_enter Tryd.func3, Tryd.ntmps3
      go_wp2_with fail
      with_reducible refine (clAwake_any W (HK.out W (Below.refl _ _))).mono ?_
      rintro e w1 ⟨rfl, b1⟩
      have HB1 := Kept.mk b1
      clear b1
      go_wp2_with fail
      go_ret
      exact ⟨rfl, HB1.out⟩
  · have h1i : ¬ (2000 : Int) < (x.length : Int) := by omega
    have h2i : ¬ (2000 : Int) < (y.length : Int) := by omega
    have HP := Kept.mk (fun w' (hb : Below W.heap.size W w') => clValid_any w x y w' (HK.out w' hb) (by omega) (by omega))
    have HR := Kept.mk (fun w' => refValid_any w x y w' (by omega) (by omega))
    have HS := Kept.mk (fun w' (hb : Below W.heap.size W w') => clValid_any w x x w' (HK.out w' hb) (by omega) (by omega))
    rw [clV_self] at HS
    generalize clV w x y = d at *
    clear h
    go_enter Tryd.func3, Tryd.ntmps3
    go_wp2_with fail
    with_reducible refine (HP.out W (Below.refl _ _)).mono ?_
    rintro e w1 ⟨rfl, b1⟩
    go_wp2_with fail
    with_reducible refine (HR.out w1).mono ?_
    rintro e w2 ⟨rfl, b2⟩
    have b2 := bnext b1 b2
    go_wp2_with fail
    with_reducible refine (HS.out w2 b2).mono ?_
    rintro e w3 ⟨rfl, b3⟩
    have b3 := bnext b2 b3
    go_wp2_with fail
    with_reducible refine (clAwake_any w3 (HK.out w3 b3)).mono ?_
    rintro e w4 ⟨rfl, b4⟩
    have HB4 := Kept.mk (bnext b3 b4)
    clear b1 b2 b3 b4
    go_wp2_with fail
    go_ret
    exact ⟨rfl, HB4.out⟩
end Go.Proofs.YtkkcakblphebjaaDoor
