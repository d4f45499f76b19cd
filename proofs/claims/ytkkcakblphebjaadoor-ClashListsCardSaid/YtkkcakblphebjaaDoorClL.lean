/- Clashes of two lists by definition, at any lists; the law that the program answers so. -/
import Derived.Test.YtkkcakblphebjaaDoorClK
import Derived.Test.YtkkcakblphebjaaDoorClI
namespace Go.Proofs.YtkkcakblphebjaaDoor
set_option linter.unusedVariables false
set_option linter.unusedSimpArgs false
open Go.RowKit Go.Lib
theorem refLeaves_any (w : Int) (n : Nat) : ∀ (A B : Option Addr) (ca cb : Nat) (la lb : List BL) (W : World), la.length = n → RowAt W A (strs la) → RowAt W B (strs lb) → (∀ l ∈ la, l.length ≤ 400000000) → (∀ l ∈ lb, l.length ≤ 400000000) → la.length ≤ ca → lb.length ≤ cb → la.length ≤ 1000000 → lb.length ≤ 1000000 →
    Calls Tryd.prog 14 #[.int .i64 w, .slice A la.length ca, .slice B lb.length cb] W fun e w' => e = .returned (cRes (cLv (wid w) la lb)) ∧ Below W.heap.size W w' := by
  induction n using Nat.strongRecOn with
  | _ n ih =>
    intro A B ca cb la lb W hn hra hrb la4 lb4 hca hcb ha6 hb6
    have hwid := (wid_range w).2
    have HTa := Kept.mk (fun w' (h : Below W.heap.size W w') => refTop_any w la.length A ca la w' rfl (hra.below h) la4 hca (by omega))
    have HTb := Kept.mk (fun w' (h : Below W.heap.size W w') => refTop_any w lb.length B cb lb w' rfl (hrb.below h) lb4 hcb (by omega))
    have HSa := Kept.mk (fun w' => refMSum_any w (cTop (wid w) la) w' (by have := cTop_le (wid w) hwid 400000000 (by omega) la la4; omega))
    have HSb := Kept.mk (fun w' => refMSum_any w (cTop (wid w) lb) w' (by have := cTop_le (wid w) hwid 400000000 (by omega) lb lb4; omega))
    by_cases hR : cRoot (wid w) la = cRoot (wid w) lb
    · have hR' : tS (wid w) (cTop (wid w) la) = tS (wid w) (cTop (wid w) lb) := hR
      rw [cLv_dif hR]
      rw [← hR'] at HSb
      by_cases ht : cTop (wid w) la = cTop (wid w) lb
      · rw [← ht] at HTb HSb
        rcases top_same (wid w) hwid la lb ht with ⟨ha, hb, hl, hr⟩ | ⟨ha, hb, rfl⟩
        · obtain ⟨ad, rfl, _, _⟩ := hra (by rw [strs_length]; omega)
          obtain ⟨bd, rfl, _, _⟩ := hrb (by rw [strs_length]; omega)
          have k1 := cutN_lt la.length (by omega)
          have k2 := cutN_pos la.length
          have j1 := cutN_lt lb.length (by omega)
          have j2 := cutN_pos lb.length
          have HL := fun w' (h : Below W.heap.size W w') => ih (cutN la.length) (by omega) (some ad) (some bd) ca cb (la.take (cutN la.length)) (lb.take (cutN lb.length)) w' (by rw [List.length_take]; omega) ((strs_take la (cutN la.length)) ▸ (hra.below h).take _) ((strs_take lb (cutN lb.length)) ▸ (hrb.below h).take _) (fun l h => la4 l (List.mem_of_mem_take h)) (fun l h => lb4 l (List.mem_of_mem_take h)) (by rw [List.length_take]; omega) (by rw [List.length_take]; omega) (by rw [List.length_take]; omega) (by rw [List.length_take]; omega)
          have HR := fun w' (h : Below W.heap.size W w') => ih (la.length - cutN la.length) (by omega) (some (ad.add (cutN la.length))) (some (bd.add (cutN lb.length))) (ca - cutN la.length) (cb - cutN lb.length) (la.drop (cutN la.length)) (lb.drop (cutN lb.length)) w' (by rw [List.length_drop]) ((strs_drop la (cutN la.length)) ▸ (hra.below h).drop _ (by rw [strs_length]; omega)) ((strs_drop lb (cutN lb.length)) ▸ (hrb.below h).drop _ (by rw [strs_length]; omega)) (fun l h => la4 l (List.mem_of_mem_drop h)) (fun l h => lb4 l (List.mem_of_mem_drop h)) (by rw [List.length_drop]; omega) (by rw [List.length_drop]; omega) (by rw [List.length_drop]; omega) (by rw [List.length_drop]; omega)
          rw [cLv_dif hl, List.length_take, Nat.min_eq_left (by omega), List.length_take, Nat.min_eq_left (by omega)] at HL
          rw [cLv_dif hr, List.length_drop, List.length_drop] at HR
          rw [cDif_node (wid w) la lb ht ha]
          have HCa := Kept.mk (fun w' => refCut_any la.length w' (by omega))
          have HCb := Kept.mk (fun w' => refCut_any lb.length w' (by omega))
          cases e1 : cDif (wid w) (la.take (cutN la.length)) (lb.take (cutN lb.length)) with
          | some p =>
            rw [e1] at HL
            exact rl_left w ad bd ca cb la.length lb.length _ _ W _ _ ha k2 k1 hca j2 j1 hcb (str p.1) (str p.2) HTa HTb HSa HSb HCa HCb (Kept.mk HL)
          | none =>
            rw [e1] at HL
            cases e2 : cDif (wid w) (la.drop (cutN la.length)) (lb.drop (cutN lb.length)) with
            | some p =>
              rw [e2] at HR
              exact rl_right w ad bd ca cb la.length lb.length _ _ W _ _ ha k2 k1 hca j2 j1 hcb (str p.1) (str p.2) true HTa HTb HSa HSb HCa HCb (Kept.mk HL) (Kept.mk HR)
            | none =>
              rw [e2] at HR
              exact rl_right w ad bd ca cb la.length lb.length _ _ W _ _ ha k2 k1 hca j2 j1 hcb (str []) (str []) false HTa HTb HSa HSb HCa HCb (Kept.mk HL) (Kept.mk HR)
        · rw [cDif_short (wid w) la la rfl ha]
          exact rl_short w A B ca cb la.length la.length W _ _ ha HTa HTb HSa HSb
      · rw [cDif_top (wid w) la lb ht]
        exact rl_top w A B ca cb la.length lb.length W _ _ _ ht HTa HTb HSa HSb
    · rw [cLv_root hR]
      exact rl_ne w A B ca cb la.length lb.length W _ _ _ _ hR HTa HTb HSa HSb
attribute [local irreducible] str sSum wid tS tLeaf tNode cutN cRoot strs
set_option maxRecDepth 100000 in
set_option maxHeartbeats 1000000 in
theorem clashLists_w {W : World} (w : Int) (hw : (Lit.int .i64 w).wf = true) (A : Option Addr) (c : Nat) (ls : List (List UInt8)) (hl : ls.length ≤ 9223372036854775807) (hP : RowAt W A (strs ls) ∧ (∀ l ∈ ls, l.length ≤ 9223372036854775807) ∧ ls.length ≤ c ∧ c ≤ 9223372036854775807)
    (B : Option Addr) (d : Nat) (ms : List (List UInt8)) (hm : ms.length ≤ 9223372036854775807) (hQ : RowAt W B (strs ms) ∧ (∀ l ∈ ms, l.length ≤ 9223372036854775807) ∧ ms.length ≤ d ∧ d ≤ 9223372036854775807) (hk : KAt W) :
    Calls Tryd.prog 4 #[.int .i64 w, .slice A ls.length c, .slice B ms.length d] W fun e w' => e = .returned (.bool true) ∧ Below W.heap.size W w' := by
  obtain ⟨hr, hle, hlc, hc⟩ := hP
  obtain ⟨hs, hme, hmd, hd⟩ := hQ
  have HF := Kept.mk (fewM_any A c ls W hr hl hle hlc hc)
  have HM := Kept.mk (fewM_any B d ms W hs hm hme hmd hd)
  go_enter Tryd.func4, Tryd.ntmps4
  go_wp2_with fail
  with_reducible refine HF.out.mono ?_
  rintro e w1 ⟨k, hk1, hk2, hk3, rfl, rfl⟩
  go_wp2_with fail
  with_reducible refine HM.out.mono ?_
  rintro e w1 ⟨j, hj1, hj2, hj3, rfl, rfl⟩
  clear HF HM hle hme
  have hkl : (ls.take k).length = k := by rw [List.length_take]; omega
  have hjl : (ms.take j).length = j := by rw [List.length_take]; omega
  have ea := elem_le (ls.take k) 20000 hk3
  have eb := elem_le (ms.take j) 20000 hj3
  have hra : RowAt W A (strs (ls.take k)) := strs_take ls k ▸ hr.take k
  have hrb : RowAt W B (strs (ms.take j)) := strs_take ms j ▸ hs.take j
  clear hr hs hk3 hj3
  generalize ls.take k = la at *
  generalize ms.take j = lb at *
  subst hkl
  subst hjl
  have ea4 : ∀ l ∈ la, l.length ≤ 400000000 := fun l h => by have := ea l h; omega
  have eb4 : ∀ l ∈ lb, l.length ≤ 400000000 := fun l h => by have := eb l h; omega
  have HLv := Kept.mk (clLeaves_any w A B c d la lb W hk hra hrb (by omega) (by omega) (by omega) (by omega) ea4 eb4)
  have HRv := Kept.mk (fun w' (h : Below W.heap.size W w') => refLeaves_any w la.length A B c d la lb w' rfl (hra.below h) (hrb.below h) ea4 eb4 (by omega) (by omega) (by omega) (by omega))
  have HAw := Kept.mk (fun w' (h : Below W.heap.size W w') => clAwake_any w' (hk.below h))
  clear hra hrb hk ea eb ea4 eb4
  obtain ⟨s1, s2, bb, e9⟩ : ∃ s1 s2 bb, cRes (cLv (wid w) la lb) = .tuple #[.string s1, .string s2, .bool bb] := by
    cases cLv (wid w) la lb with
    | none => exact ⟨_, _, _, rfl⟩
    | some p => exact ⟨_, _, _, rfl⟩
  rw [e9] at HLv HRv
  clear e9
  go_wp2_with fail
  with_reducible refine HLv.out.mono ?_
  rintro e w1 ⟨rfl, b1⟩
  go_wp2_with fail
  with_reducible refine (HRv.out w1 b1).mono ?_
  rintro e w2 ⟨rfl, b2⟩
  have b2 := bnext b1 b2
  go_wp2_with fail
  with_reducible refine (HAw.out w2 b2).mono ?_
  rintro e w3 ⟨rfl, b3⟩
  have HB3 := Kept.mk (bnext b2 b3)
  clear b1 b2 b3
  go_wp2_with fail
  go_ret
  exact ⟨rfl, HB3.out⟩
end Go.Proofs.YtkkcakblphebjaaDoor
