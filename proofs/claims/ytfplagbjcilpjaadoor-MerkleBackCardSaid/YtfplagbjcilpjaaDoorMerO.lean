/- Trees of sums: up a way, the document's; the program's Check: each by a contract. -/
import Derived.Test.YtfplagbjcilpjaaDoorMerU
namespace Go.Proofs.YtfplagbjcilpjaaDoor
set_option linter.unusedVariables false
set_option linter.unusedSimpArgs false
open Go.RowKit Go.Lib
def chkE (S root : List UInt8) (E : Int) : Int := if E = 0 then (if S = root then 0 else 11) else E
theorem chk_err {S root : List UInt8} {E : Int} (h : E ≠ 0) : chkE S root E = E := by unfold chkE; rw [if_neg h]
theorem chk_same (S : List UInt8) : chkE S S 0 = 0 := by unfold chkE; simp
theorem chk_other {S root : List UInt8} (h : S ≠ root) : chkE S root 0 = 11 := by unfold chkE; rw [if_pos rfl, if_neg h]
theorem str_toListM (l : List UInt8) : (str l).toList = l := by rw [ByteArray.toList_eq]; rfl
theorem str_other {a b : List UInt8} (h : a ≠ b) : ((str a).toList == (str b).toList) = false := by rw [str_toListM, str_toListM]; simpa using h
section
attribute [local irreducible] str chkE
set_option maxRecDepth 100000 in
set_option maxHeartbeats 1000000 in
theorem Check_of (w i n : Int) (root leaf S : List UInt8) (E : Int) (A : Option Addr) (m c : Nat) (W : World)
    (hU : Calls Tryd.prog 29 #[.int .i64 w, .int .i64 i, .int .i64 n, .string (str leaf), .slice A m c] W fun e w' => e = .returned (.tuple #[.string (str S), .int .i64 E]) ∧ Below W.heap.size W w') :
    Calls Tryd.prog 31 #[.int .i64 w, .string (str root), .int .i64 i, .int .i64 n, .string (str leaf), .slice A m c] W fun e w' => e = .returned (.int .i64 (chkE S root E)) ∧ Below W.heap.size W w' := by
  have HU := Kept.mk hU
  clear hU
  by_cases hE : E = 0
  · subst hE
    by_cases hS : S = root
    · subst hS
      have HC := Kept.mk (chk_same S)
      go_enter Tryd.func31, Tryd.ntmps31
      go_wp2_with fail
      with_reducible refine HU.out.mono ?_
      rintro e w1 ⟨rfl, b1⟩
      go_wp2_with fail
      go_ret
      exact ⟨by rw [HC.out]; rfl, b1⟩
    · have HC := Kept.mk (chk_other hS)
      have hnb := str_other hS
      go_enter Tryd.func31, Tryd.ntmps31
      go_wp2_with fail
      with_reducible refine HU.out.mono ?_
      rintro e w1 ⟨rfl, b1⟩
      go_wp2_with fail
      go_ret
      exact ⟨by rw [HC.out]; rfl, b1⟩
  · have HC := Kept.mk (chk_err (S := S) (root := root) hE)
    have hEb : (E == 0) = false := by simpa using hE
    go_enter Tryd.func31, Tryd.ntmps31
    go_wp2_with fail
    with_reducible refine HU.out.mono ?_
    rintro e w1 ⟨rfl, b1⟩
    go_wp2_with fail
    go_ret
    exact ⟨by rw [HC.out]; rfl, b1⟩
end
attribute [local irreducible] str sSum wid tS tLeaf tNode cutN strs bls tUp uS uE
set_option maxRecDepth 100000 in
set_option maxHeartbeats 2000000 in
theorem refLong_any (n : Nat) : ∀ (i : Nat) (W : World), i ≤ 4611686018427387903 → n ≤ 4611686018427387903 →
    Calls Tryd.prog 43 #[.int .i64 i, .int .i64 n] W fun e w' => e = .returned (.int .i64 (((tWay i n).length : Nat) : Int)) ∧ W = w' := by
  induction n using Nat.strongRecOn with
  | _ n ih =>
    intro i W hi hn
    by_cases h2 : n < 2
    · have h2i : (n : Int) < 2 := by omega
      have HT := Kept.mk (show (((tWay i n).length : Nat) : Int) = 0 from by rw [tWay_short _ _ h2]; rfl)
      rw [HT.out]
      clear ih
      go_enter Tryd.func43, Tryd.ntmps43
      go_wp2_with fail
      go_ret
      exact ⟨rfl, rfl⟩
    · have h2i : ¬ (n : Int) < 2 := by omega
      have hcl := cutN_lt n (by omega)
      have hcp := cutN_pos n
      have HC := Kept.mk (fun w => refCut_any n w hn)
      have p62 : (2 : Nat) ^ 62 = 4611686018427387904 := by decide
      by_cases hx : i < cutN n
      · have hxi : (i : Int) < ((cutN n : Nat) : Int) := by omega
        have HI := Kept.mk (fun w => ih (cutN n) hcl i w hi (by omega))
        have hl := tWay_le 62 i (cutN n) (by omega)
        have HT := Kept.mk (show (((tWay i n).length : Nat) : Int) = 1 + (((tWay i (cutN n)).length : Nat) : Int) from by rw [tWay_length_left _ _ (by omega) hx]; push_cast; rfl)
        rw [HT.out]
        clear ih p62 HT
        generalize (tWay i (cutN n)).length = L at *
        generalize cutN n = k at *
        go_enter Tryd.func43, Tryd.ntmps43
        go_wp2_with fail
        with_reducible refine (HC.out W).mono ?_
        rintro e w1 ⟨rfl, rfl⟩
        go_wp2_with fail
        with_reducible refine (HI.out W).mono ?_
        rintro e w1 ⟨rfl, rfl⟩
        go_wp2_with fail
        go_ret
        exact ⟨rfl, rfl⟩
      · have hxi : ¬ (i : Int) < ((cutN n : Nat) : Int) := by omega
        have HI := Kept.mk (fun w => ih (n - cutN n) (by omega) (i - cutN n) w (by omega) (by omega))
        have hl := tWay_le 62 (i - cutN n) (n - cutN n) (by omega)
        have e1 : ((i - cutN n : Nat) : Int) = (i : Int) - ((cutN n : Nat) : Int) := by omega
        have e2 : ((n - cutN n : Nat) : Int) = (n : Int) - ((cutN n : Nat) : Int) := by omega
        have HT := Kept.mk (show (((tWay i n).length : Nat) : Int) = 1 + (((tWay (i - cutN n) (n - cutN n)).length : Nat) : Int) from by rw [tWay_length_right _ _ (by omega) hx]; push_cast; rfl)
        rw [HT.out]
        rw [e1, e2] at HI
        clear ih p62 e1 e2 HT
        generalize (tWay (i - cutN n) (n - cutN n)).length = L at *
        generalize cutN n = k at *
        go_enter Tryd.func43, Tryd.ntmps43
        go_wp2_with fail
        with_reducible refine (HC.out W).mono ?_
        rintro e w1 ⟨rfl, rfl⟩
        go_wp2_with fail
        with_reducible refine (HI.out W).mono ?_
        rintro e w1 ⟨rfl, rfl⟩
        go_wp2_with fail
        go_ret
        exact ⟨rfl, rfl⟩
theorem tUp_last_left (w : Nat) (leaf : List UInt8) (i n : Nat) (ps : List (List UInt8)) (h2 : 2 ≤ n) (hx : i < cutN n) (hl : ps.length = (tWay i n).length) (h0 : ps.length - 1 < ps.length) :
    tUp w leaf (tWay i n) ps = tNode w (tUp w leaf (tWay i (cutN n)) (ps.take (ps.length - 1))) ps[ps.length - 1] := by
  have hw := tWay_length_left i n h2 hx
  conv => lhs; rw [tWay_left i n h2 hx, show ps = ps.take (ps.length - 1) ++ [ps[ps.length - 1]] from by rw [← List.take_succ_eq_append_getElem h0, show ps.length - 1 + 1 = ps.length from by omega, List.take_length]]
  rw [tUp_snoc w leaf _ _ _ _ (by rw [List.length_take]; omega)]
  rfl
theorem tUp_last_right (w : Nat) (leaf : List UInt8) (i n : Nat) (ps : List (List UInt8)) (h2 : 2 ≤ n) (hx : ¬ i < cutN n) (hl : ps.length = (tWay i n).length) (h0 : ps.length - 1 < ps.length) :
    tUp w leaf (tWay i n) ps = tNode w ps[ps.length - 1] (tUp w leaf (tWay (i - cutN n) (n - cutN n)) (ps.take (ps.length - 1))) := by
  have hw := tWay_length_right i n h2 hx
  conv => lhs; rw [tWay_right i n h2 hx, show ps = ps.take (ps.length - 1) ++ [ps[ps.length - 1]] from by rw [← List.take_succ_eq_append_getElem h0, show ps.length - 1 + 1 = ps.length from by omega, List.take_length]]
  rw [tUp_snoc w leaf _ _ _ _ (by rw [List.length_take]; omega)]
  rfl
end Go.Proofs.YtfplagbjcilpjaaDoor
