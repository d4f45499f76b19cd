/- Clashes of two lists by the program; the example; the law of pairs. -/
import Derived.Test.YtkkcakblphebjaaDoorClF
namespace Go.Proofs.YtkkcakblphebjaaDoor
set_option linter.unusedVariables false
set_option linter.unusedSimpArgs false
open Go.RowKit Go.Lib
theorem one_sums : tS 1 [0, 97, 120] = tS 1 [0, 98, 104] := by decide +kernel
theorem wid_1 : wid 1 = 1 := by unfold wid; rfl
theorem cut_two : cutN 2 = 1 := cutN_of 2 0 (by decide) (by decide) (by decide)
theorem cTop_two (w : Nat) (a b : BL) : cTop w [a, b] = 1 :: (tS w (0 :: a) ++ tS w (0 :: b)) := by
  have h := cTop_node w [a, b] (by simp)
  rw [show cutN [a, b].length = 1 from cut_two, show [a, b].take 1 = [a] from rfl, show [a, b].drop 1 = [b] from rfl, cTop_one, cTop_one] at h
  exact h
theorem cDif_two (w : Nat) (a b b' : BL) (h : cTop w [a, b] = cTop w [a, b']) : cDif w [a, b] [a, b'] = cDif w [b] [b'] := by
  have h1 : cutN [a, b].length = 1 := cut_two
  have h2 : cutN [a, b'].length = 1 := cut_two
  have h3 := cDif_right h (by simp) (by rw [h1, h2]; exact cDif_self w [a])
  rw [h1, h2] at h3
  exact h3
theorem cLv_awake : cLv 1 [[113], [97, 120]] [[113], [98, 104]] = some ([0, 97, 120], [0, 98, 104]) := by
  have e1 : cTop 1 [[113], [97, 120]] = cTop 1 [[113], [98, 104]] := by rw [cTop_two, cTop_two, one_sums]
  rw [cLv_dif (by unfold cRoot; rw [e1]), cDif_two _ _ _ _ e1, cDif_top _ _ _ (by rw [cTop_one, cTop_one]; simp), cTop_one, cTop_one]
theorem aw_s1 : (strs [[113], [97, 120]]).toArray = #[.string { data := #[113] }, .string { data := #[97, 120] }] := rfl
theorem aw_s2 : (strs [[113], [98, 104]]).toArray = #[.string { data := #[113] }, .string { data := #[98, 104] }] := rfl
theorem aw_s3 : cRes (some ([0, 97, 120], [0, 98, 104])) = .tuple #[.string { data := #[0, 97, 120] }, .string { data := #[0, 98, 104] }, .bool true] := rfl
theorem aw_s4 : str [0, 97, 120] = { data := #[0, 97, 120] } := rfl
theorem aw_s5 : str [0, 98, 104] = { data := #[0, 98, 104] } := rfl
section
attribute [local irreducible] str sSum wid tS tLeaf tNode cutN cRoot
set_option maxRecDepth 100000 in
set_option maxHeartbeats 2000000 in
theorem clLeaves_any (w : Int) (A B : Option Addr) (ca cb : Nat) (la lb : List BL) (W : World) (hk : KAt W) (hA : RowAt W A (strs la)) (hB : RowAt W B (strs lb)) (ha : la.length ≤ 1000000) (hb : lb.length ≤ 1000000) (hca : la.length ≤ ca) (hcb : lb.length ≤ cb) (la4 : ∀ l ∈ la, l.length ≤ 400000000) (lb4 : ∀ l ∈ lb, l.length ≤ 400000000) :
    Calls Tryd.prog 13 #[.int .i64 w, .slice A la.length ca, .slice B lb.length cb] W fun e w' => e = .returned (cRes (cLv (wid w) la lb)) ∧ Below W.heap.size W w' := by
  have HE := Kept.mk (EqualS_any A B ca cb la lb W hA hB ha hb)
  have HG1 := Kept.mk (fun w' (h : Below W.heap.size W w') => grown_any w la.length A ca la w' rfl (hA.below h) la4 hca (by omega) (hk.below h))
  have HG2 := Kept.mk (fun w' (h : Below W.heap.size W w') => grown_any w lb.length B cb lb w' rfl (hB.below h) lb4 hcb (by omega) (hk.below h))
  clear hA hB hk la4 lb4
  by_cases heq : la = lb
  · rw [show cLv (wid w) la lb = none from heq ▸ cLv_self _ _, show cRes none = .tuple #[.string { data := #[] }, .string { data := #[] }, .bool false] from by unfold cRes; rw [str_nilM']]
    rw [decide_eq_true heq] at HE
    clear heq
    go_enter Tryd.func13, Tryd.ntmps13
    go_wp2_with fail
    with_reducible refine HE.out.mono ?_
    rintro e w1 ⟨rfl, b1⟩
    have HB1 := Kept.mk b1
    clear b1
    go_wp2_with fail
    go_ret3
    exact ⟨rfl, HB1.out⟩
  · rw [decide_eq_false heq] at HE
    clear heq
    have HD0 := Kept.mk (fun X lo lo' g g' => differing_any w la.length la lb X lo lo' g g' rfl)
    have HR0 := Kept.mk (fun h => cLv_root (w := wid w) (a := la) (b := lb) h)
    have HR1 := Kept.mk (fun h => cLv_dif (w := wid w) (a := la) (b := lb) h)
    by_cases hr : cRoot (wid w) la = cRoot (wid w) lb
    · rw [HR1.out hr]
      clear HR0 HR1
      obtain ⟨s1, s2, bb, e9⟩ : ∃ s1 s2 bb, cRes (cDif (wid w) la lb) = .tuple #[.string s1, .string s2, .bool bb] := by
        cases cDif (wid w) la lb with
        | none => exact ⟨_, _, _, rfl⟩
        | some p => exact ⟨_, _, _, rfl⟩
      rw [e9] at HD0 ⊢
      clear e9
      go_enter Tryd.func13, Tryd.ntmps13
      go_wp2_with fail
      with_reducible refine HE.out.mono ?_
      rintro e w1 ⟨rfl, b1⟩
      go_wp2_with fail
      with_reducible refine (HG1.out w1 b1).mono ?_
      rintro e w2 ⟨g, rfl, tA, b2⟩
      have b2 := bnext b1 b2
      go_wp2_with fail
      with_reducible refine (HG2.out w2 b2).mono ?_
      rintro e w3 ⟨g', rfl, tB, b3⟩
      have tA := tA.belowT b3
      have b3 := bnext b2 b3
      have c0 := tA.root.1
      have c1 := tB.root.1
      rw [← hr] at c1
      have HTA := Kept.mk tA
      have HTB := Kept.mk tB
      have HB3 := Kept.mk b3
      have hs := str_toList (cRoot (wid w) la)
      clear b1 b2 b3 tA tB hr
      generalize cRoot (wid w) la = r at *
      go_upto_region 4 with fail
      go_quiet (fail)
      go_wp2_with fail
      with_reducible refine (HD0.out (w3.drewN nq) _ _ g g' (TreeAt.keep HTA.out (fun _ _ _ => rfl)) (TreeAt.keep HTB.out (fun _ _ _ => rfl))).mono ?_
      rintro e w4 ⟨rfl, b4⟩
      have HB4 := Kept.mk (bnext (below_drewN HB3.out _) b4)
      clear b4
      go_wp2_with fail
      go_ret3
      exact ⟨rfl, HB4.out⟩
    · rw [HR0.out hr, show cRes none = .tuple #[.string { data := #[] }, .string { data := #[] }, .bool false] from by unfold cRes; rw [str_nilM']]
      clear HR0 HR1 HD0
      go_enter Tryd.func13, Tryd.ntmps13
      go_wp2_with fail
      with_reducible refine HE.out.mono ?_
      rintro e w1 ⟨rfl, b1⟩
      go_wp2_with fail
      with_reducible refine (HG1.out w1 b1).mono ?_
      rintro e w2 ⟨g, rfl, tA, b2⟩
      have b2 := bnext b1 b2
      go_wp2_with fail
      with_reducible refine (HG2.out w2 b2).mono ?_
      rintro e w3 ⟨g', rfl, tB, b3⟩
      have tA := tA.belowT b3
      have b3 := bnext b2 b3
      have c0 := tA.root.1
      have c1 := tB.root.1
      have HB3 := Kept.mk b3
      have hs := str_toList (cRoot (wid w) la)
      have hs' := str_toList (cRoot (wid w) lb)
      clear b1 b2 b3 tA tB
      generalize cRoot (wid w) la = r at *
      generalize cRoot (wid w) lb = r' at *
      have hbe : (r == r') = false := by simpa using hr
      go_upto_region 4 with fail
      go_quiet (fail)
      go_wp2_with fail
      go_ret3
      exact ⟨rfl, below_drewN HB3.out _⟩
end
end Go.Proofs.YtkkcakblphebjaaDoor
