/- Clashes: what the program finds, the law. -/
import Derived.Test.YtkkcakblphebjaaDoorClI
namespace Go.Proofs.YtkkcakblphebjaaDoor
set_option linter.unusedVariables false
set_option linter.unusedSimpArgs false
open Go.RowKit Go.Lib
attribute [local irreducible] str sSum wid tS tLeaf tNode cutN cRoot strs
set_option maxRecDepth 100000 in
set_option maxHeartbeats 1000000 in
theorem clashFinds_w {W : World} (w : Int) (hw : (Lit.int .i64 w).wf = true) (A : Option Addr) (c : Nat) (ls : List (List UInt8)) (hl : ls.length ≤ 9223372036854775807) (hP : RowAt W A (strs ls) ∧ (∀ l ∈ ls, l.length ≤ 9223372036854775807) ∧ ls.length ≤ c ∧ c ≤ 9223372036854775807)
    (B : Option Addr) (d : Nat) (ms : List (List UInt8)) (hm : ms.length ≤ 9223372036854775807) (hQ : RowAt W B (strs ms) ∧ (∀ l ∈ ms, l.length ≤ 9223372036854775807) ∧ ms.length ≤ d ∧ d ≤ 9223372036854775807) (hk : KAt W) :
    Calls Tryd.prog 5 #[.int .i64 w, .slice A ls.length c, .slice B ms.length d] W fun e w' => e = .returned (.bool true) ∧ Below W.heap.size W w' := by
  obtain ⟨hr, hle, hlc, hc⟩ := hP
  obtain ⟨hs, hme, hmd, hd⟩ := hQ
  have HF := Kept.mk (fewM_any A c ls W hr hl hle hlc hc)
  have HM := Kept.mk (fewM_any B d ms W hs hm hme hmd hd)
  go_enter Tryd.func5, Tryd.ntmps5
  go_wp2_with fail
  with_reducible refine HF.out.mono ?_
  rintro e w1 ⟨k, hk1, hk2, hk3, rfl, rfl⟩
  go_wp2_with fail
  with_reducible refine HM.out.mono ?_
  rintro e w1 ⟨j, hj1, hj2, hj3, rfl, rfl⟩
  clear HF HM hle hme
  have hkl : (ls.take k).length = k := by rw [List.length_take]; omega
  have hjl : (ms.take j).length = j := by rw [List.length_take]; omega
  have ea := elem_le (ls.take k) 20000 hk3
  have eb := elem_le (ms.take j) 20000 hj3
  have hra : RowAt W A (strs (ls.take k)) := strs_take ls k ▸ hr.take k
  have hrb : RowAt W B (strs (ms.take j)) := strs_take ms j ▸ hs.take j
  clear hr hs hk3 hj3
  generalize ls.take k = la at *
  generalize ms.take j = lb at *
  subst hkl
  subst hjl
  have ea4 : ∀ l ∈ la, l.length ≤ 400000000 := fun l h => by have := ea l h; omega
  have eb4 : ∀ l ∈ lb, l.length ≤ 400000000 := fun l h => by have := eb l h; omega
  have HLv := Kept.mk (clLeaves_any w A B c d la lb W hk hra hrb (by omega) (by omega) (by omega) (by omega) ea4 eb4)
  have HRa := Kept.mk (fun w' (h : Below W.heap.size W w') => refRoot17_any w A c la w' (hra.below h) ea4 (by omega) (by omega))
  have HRb := Kept.mk (fun w' (h : Below W.heap.size W w') => refRoot17_any w B d lb w' (hrb.below h) eb4 (by omega) (by omega))
  have HSm := Kept.mk (fun w' (h : Below W.heap.size W w') => SameS_any A B c d la lb w' (hra.below h) (hrb.below h) (by omega) (by omega))
  have HAw := Kept.mk (fun w' (h : Below W.heap.size W w') => clAwake_any w' (hk.below h))
  have ta := str_toList (cRoot (wid w) la)
  have tb := str_toList (cRoot (wid w) lb)
  have hwid := (wid_range w).2
  clear hra hrb hk
  by_cases hR : cRoot (wid w) la = cRoot (wid w) lb
  · by_cases hE : la = lb
    · rw [show cLv (wid w) la lb = none from hE ▸ cLv_self _ _, show cRes none = .tuple #[.string { data := #[] }, .string { data := #[] }, .bool false] from by unfold cRes; rw [str_nilM']] at HLv
      rw [decide_eq_true hE] at HSm
      rw [← hR] at HRb
      clear hE hR tb ea eb ea4 eb4 hwid
      generalize cRoot (wid w) la = r at *
      go_wp2_with fail
      with_reducible refine HLv.out.mono ?_
      rintro e w1 ⟨rfl, b1⟩
      go_wp2_with fail
      with_reducible refine (HRa.out w1 b1).mono ?_
      rintro e w2 ⟨rfl, b2⟩
      have b2 := bnext b1 b2
      go_wp2_with fail
      with_reducible refine (HRb.out w2 b2).mono ?_
      rintro e w3 ⟨rfl, b3⟩
      have b3 := bnext b2 b3
      go_wp2_with fail
      with_reducible refine (HSm.out w3 b3).mono ?_
      rintro e w4 ⟨rfl, b4⟩
      have b3 := bnext b3 b4
      go_wp2_with fail
      with_reducible refine (HAw.out _ b3).mono ?_
      rintro e w5 ⟨rfl, b5⟩
      have HB5 := Kept.mk (bnext b3 b5)
      clear b3 b5
      go_wp2_with fail
      go_ret
      exact ⟨rfl, HB5.out⟩
    · obtain ⟨x, y, e0, hne, hsm⟩ := cDif_finds (wid w) hwid la lb hR hE
      obtain ⟨hx, hy⟩ := cDif_le (wid w) hwid 20000 (by omega) la.length la lb (x, y) rfl ea eb e0
      rw [cLv_dif hR, e0, show cRes (some (x, y)) = .tuple #[.string (str x), .string (str y), .bool true] from rfl] at HLv
      rw [decide_eq_false hE] at HSm
      rw [← hR] at HRb
      have HV := Kept.mk (fun w' => refValid_any w x y w' (by have : x.length ≤ 20001 := hx; omega) (by have : y.length ≤ 20001 := hy; omega))
      rw [show clV w x y = true from by rw [clV_ne hne]; exact decide_eq_true hsm] at HV
      clear hE hR tb ea eb ea4 eb4 hwid hx hy hne hsm e0
      generalize cRoot (wid w) la = r at *
      go_wp2_with fail
      with_reducible refine HLv.out.mono ?_
      rintro e w1 ⟨rfl, b1⟩
      go_wp2_with fail
      with_reducible refine (HRa.out w1 b1).mono ?_
      rintro e w2 ⟨rfl, b2⟩
      have b2 := bnext b1 b2
      go_wp2_with fail
      with_reducible refine (HRb.out w2 b2).mono ?_
      rintro e w3 ⟨rfl, b3⟩
      have b3 := bnext b2 b3
      go_wp2_with fail
      with_reducible refine (HSm.out w3 b3).mono ?_
      rintro e w4 ⟨rfl, b4⟩
      have b3 := bnext b3 b4
      go_wp2_with fail
      with_reducible refine (HV.out _).mono ?_
      rintro e w5 ⟨rfl, b5⟩
      have b3 := bnext b3 b5
      go_wp2_with fail
      with_reducible refine (HAw.out _ b3).mono ?_
      rintro e w5 ⟨rfl, b5⟩
      have HB5 := Kept.mk (bnext b3 b5)
      clear b3 b5
      go_wp2_with fail
      go_ret
      exact ⟨rfl, HB5.out⟩
  · rw [cLv_root hR, show cRes none = .tuple #[.string { data := #[] }, .string { data := #[] }, .bool false] from by unfold cRes; rw [str_nilM']] at HLv
    have hbe : (cRoot (wid w) la == cRoot (wid w) lb) = false := by simpa using hR
    clear ea eb ea4 eb4 hwid HSm
    generalize cRoot (wid w) la = r at *
    generalize cRoot (wid w) lb = r' at *
    go_wp2_with fail
    with_reducible refine HLv.out.mono ?_
    rintro e w1 ⟨rfl, b1⟩
    go_wp2_with fail
    with_reducible refine (HRa.out w1 b1).mono ?_
    rintro e w2 ⟨rfl, b2⟩
    have b2 := bnext b1 b2
    go_wp2_with fail
    with_reducible refine (HRb.out w2 b2).mono ?_
    rintro e w3 ⟨rfl, b3⟩
    have b3 := bnext b2 b3
    go_wp2_with fail
    with_reducible refine (HAw.out _ b3).mono ?_
    rintro e w5 ⟨rfl, b5⟩
    have HB5 := Kept.mk (bnext b3 b5)
    clear b3 b5
    go_wp2_with fail
    go_ret
    exact ⟨rfl, HB5.out⟩
end Go.Proofs.YtkkcakblphebjaaDoor
