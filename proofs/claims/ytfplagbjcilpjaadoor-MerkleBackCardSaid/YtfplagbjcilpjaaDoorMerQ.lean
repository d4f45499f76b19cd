/- Trees of sums: ways up, the document's by a contract; walked by the contracts. -/
import Derived.Test.YtfplagbjcilpjaaDoorMerW
import Derived.Test.YtfplagbjcilpjaaDoorMerJ
namespace Go.Proofs.YtfplagbjcilpjaaDoor
set_option linter.unusedVariables false
set_option linter.unusedSimpArgs false
open Go.RowKit Go.Lib
theorem vb_bls_nil (w : World) : VB w w (.slice none 0 0) (bls []) := vb_nil w
attribute [local irreducible] cutN bls
set_option maxRecDepth 100000 in
set_option maxHeartbeats 1000000 in
theorem Way_bad (i n : Int) (W : World) (hi : i < 0 ∨ n ≤ i) : Calls Tryd.prog 32 #[.int .i64 i, .int .i64 n] W fun e w' => e = .returned (.slice none 0 0) ∧ W = w' := by
  by_cases h0 : i < 0
  · clear hi
    go_enter Tryd.func32, Tryd.ntmps32
    go_wp2_with fail
    go_ret
    exact ⟨rfl, rfl⟩
  · have h1 : n ≤ i := by omega
    clear hi
    go_enter Tryd.func32, Tryd.ntmps32
    go_wp2_with fail
    go_ret
    exact ⟨rfl, rfl⟩
set_option maxRecDepth 100000 in
set_option maxHeartbeats 1000000 in
theorem refWay_bad (i n : Int) (W : World) (hi : i < 0 ∨ n ≤ i) : Calls Tryd.prog 33 #[.int .i64 i, .int .i64 n] W fun e w' => e = .returned (.slice none 0 0) ∧ W = w' := by
  by_cases h2 : n < 2
  · clear hi
    go_enter Tryd.func33, Tryd.ntmps33
    go_wp2_with fail
    go_ret
    exact ⟨rfl, rfl⟩
  · by_cases h0 : i < 0
    · clear hi
      go_enter Tryd.func33, Tryd.ntmps33
      go_wp2_with fail
      go_ret
      exact ⟨rfl, rfl⟩
    · have h1 : n ≤ i := by omega
      clear hi
      go_enter Tryd.func33, Tryd.ntmps33
      go_wp2_with fail
      go_ret
      exact ⟨rfl, rfl⟩
set_option maxRecDepth 100000 in
set_option maxHeartbeats 2000000 in
theorem refWay_any (n : Nat) : ∀ (i : Nat) (W : World), i < n → n ≤ 4611686018427387903 →
    Calls Tryd.prog 33 #[.int .i64 i, .int .i64 n] W fun e w' => ∃ v, e = .returned v ∧ VB W w' v (bls (tWay i n)) := by
  induction n using Nat.strongRecOn with
  | _ n ih =>
    intro i W hi hn
    by_cases h2 : n < 2
    · have h2i : (n : Int) < 2 := by omega
      rw [tWay_short _ _ h2]
      clear ih
      go_enter Tryd.func33, Tryd.ntmps33
      go_wp2_with fail
      go_ret
      exact ⟨_, rfl, vb_bls_nil W⟩
    · have h2i : ¬ (n : Int) < 2 := by omega
      have i0 : ¬ (i : Int) < 0 := by omega
      have i1 : ¬ (n : Int) ≤ (i : Int) := by omega
      have hcl := cutN_lt n (by omega)
      have hcp := cutN_pos n
      have HC := Kept.mk (fun w => refCut_any n w hn)
      have p62 : (2 : Nat) ^ 62 = 4611686018427387904 := by decide
      by_cases hx : i < cutN n
      · have hxi : (i : Int) < ((cutN n : Nat) : Int) := by omega
        have HI := Kept.mk (fun w => ih (cutN n) hcl i w hx (by omega))
        have hl := tWay_le 62 i (cutN n) (by omega)
        rw [tWay_left _ _ (by omega) hx]
        clear ih p62
        generalize tWay i (cutN n) = L at *
        generalize cutN n = k at *
        go_enter Tryd.func33, Tryd.ntmps33
        go_wp2_with fail
        with_reducible refine (HC.out W).mono ?_
        rintro e w1 ⟨rfl, rfl⟩
        go_wp2_with fail
        with_reducible refine (HI.out W).mono ?_
        rintro e w1 ⟨v1, rfl, hv1⟩
        have HV := Kept.mk hv1
        clear hv1
        go_wp2_with (at_builtin; refine bool_append1 rfl _ _ (by rfl) (w := W) (L := L) (d := false) (by rfl) HV.out (by rfl) (by omega) ?_; intro v2 w2 hv2)
        go_ret
        exact ⟨_, rfl, hv2⟩
      · have hxi : ¬ (i : Int) < ((cutN n : Nat) : Int) := by omega
        have HI := Kept.mk (fun w => ih (n - cutN n) (by omega) (i - cutN n) w (by omega) (by omega))
        have hl := tWay_le 62 (i - cutN n) (n - cutN n) (by omega)
        rw [tWay_right _ _ (by omega) hx]
        have e1 : ((i - cutN n : Nat) : Int) = (i : Int) - ((cutN n : Nat) : Int) := by omega
        have e2 : ((n - cutN n : Nat) : Int) = (n : Int) - ((cutN n : Nat) : Int) := by omega
        rw [e1, e2] at HI
        clear ih p62 e1 e2
        generalize tWay (i - cutN n) (n - cutN n) = L at *
        generalize cutN n = k at *
        go_enter Tryd.func33, Tryd.ntmps33
        go_wp2_with fail
        with_reducible refine (HC.out W).mono ?_
        rintro e w1 ⟨rfl, rfl⟩
        go_wp2_with fail
        with_reducible refine (HI.out W).mono ?_
        rintro e w1 ⟨v1, rfl, hv1⟩
        have HV := Kept.mk hv1
        clear hv1
        go_wp2_with (at_builtin; refine bool_append1 rfl _ _ (by rfl) (w := W) (L := L) (d := true) (by rfl) HV.out (by rfl) (by omega) ?_; intro v2 w2 hv2)
        go_ret
        exact ⟨_, rfl, hv2⟩
end Go.Proofs.YtfplagbjcilpjaaDoor
