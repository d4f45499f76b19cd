/- Trees of sums: how many leaves are on the left, in the program and in the document, by a contract each. -/
import Derived.Test.YtkkcakblphebjaaDoorMerZ
import Derived.Test.YtkkcakblphebjaaDoorBLen
namespace Go.Proofs.YtkkcakblphebjaaDoor
set_option linter.unusedVariables false
set_option linter.unusedSimpArgs false
open Go.RowKit Go.Lib
set_option maxRecDepth 100000 in
theorem Cut_any (n : Nat) (W : World) (hn : n ≤ 4611686018427387903) : Calls Tryd.prog 56 #[.int .i64 n] W fun e w' => e = .returned (.int .i64 ((cutN n : Nat) : Int)) ∧ W = w' := by
  by_cases h : n < 2
  · have hi : (n : Int) < 2 := by omega
    have hc : cutN n = 1 := cutN_small n (by omega)
    rw [hc]
    go_enter Tryd.func56, Tryd.ntmps56
    go_wp2_with fail
    go_ret
    exact ⟨rfl, rfl⟩
  · have hi : ¬ (n : Int) < 2 := by omega
    have hb := bitLen_log (n - 1) (by omega) (by omega)
    have hl := log2_62 (n - 1) (by omega)
    have hc : cutN n = 2 ^ Nat.log2 (n - 1) := by rw [cutN, if_neg h]
    have HC := Kept.mk hc
    have ht : ((n : Int) - 1).toNat = n - 1 := by omega
    have HL := len_any ((n : Int) - 1) W (by omega) (by omega)
    rw [ht, hb] at HL
    clear hb hc
    generalize Nat.log2 (n - 1) = k at *
    have hk0 : (0 : Int) ≤ (k : Int) := by omega
    have hp : (2 : Nat) ^ k ≤ 2 ^ 61 := Nat.pow_le_pow_right (by decide) hl
    have h61 : (2 : Nat) ^ 61 = 2305843009213693952 := by decide
    rw [h61] at hp
    go_enter Tryd.func56, Tryd.ntmps56
    go_wp2_with fail
    with_reducible refine HL.mono ?_
    rintro e w1 ⟨rfl, rfl⟩
    have hk1 : ((k + 1 : Nat) : Int) - 1 = (k : Int) := by omega
    go_wp2_with fail
    have h2 : (2 : Int) ^ k = ((2 ^ k : Nat) : Int) := (Int.natCast_pow 2 k).symm
    have hcc := HC.out
    have hw : wrap64 (2 ^ k) = ((cutN n : Nat) : Int) := by
      rw [h2, ← hcc]
      rw [← hcc] at hp
      exact wrap64_in _ (by omega) (by omega)
    go_ret
    exact ⟨by rw [← hw]; rfl, rfl⟩
set_option maxRecDepth 100000 in
theorem refCut_any (n : Nat) (W : World) (hn : n ≤ 4611686018427387903) : Calls Tryd.prog 32 #[.int .i64 n] W fun e w' => e = .returned (.int .i64 ((cutN n : Nat) : Int)) ∧ W = w' := by
  go_enter Tryd.func32, Tryd.ntmps32
  go_wp2_with fail
  go_loop [3] (fun v => ∃ e k : Nat, k = 2 ^ e ∧ (e = 0 ∨ k < n) ∧ v = .int .i64 (k : Int)) (fun v => n - (RowKit.intOf v).toNat)
  case atStart => exact ⟨0, 1, rfl, .inl rfl, rfl⟩
  case round =>
    obtain ⟨e, k, hk, hc, rfl⟩ := hrel
    have hp : 0 < k := by rw [hk]; exact Nat.two_pow_pos e
    have HK := Kept.mk (show k * 2 = 2 ^ (e + 1) from by rw [hk, Nat.pow_succ])
    have HK0 := Kept.mk hk
    clear hk
    by_cases h : k * 2 < n
    · have hi : (k : Int) * 2 < (n : Int) := by omega
      go_wp2_with fail
      go_round
      case rel => exact ⟨e + 1, k * 2, HK.out, .inr h, by push_cast; rfl⟩
      case measure => simp [RowKit.intOf]; omega
    · have hi : ¬ (k : Int) * 2 < (n : Int) := by omega
      have hcut : cutN n = k := by
        rcases hc with rfl | hc
        · have h1 : k = 1 := HK0.out
          rw [h1]
          exact cutN_small n (by omega)
        · have h2 := HK0.out
          have h3 := HK.out
          rw [h2]
          exact cutN_of n e (by omega) (by omega) (by omega)
      have HCUT := Kept.mk hcut
      have hkb : k ≤ 4611686018427387903 := by
        rcases hc with rfl | hc
        · have h1 : k = 1 := HK0.out
          omega
        · omega
      clear hc hcut
      go_wp2_with fail
      go_ret
      exact ⟨by rw [HCUT.out]; rfl, rfl⟩
end Go.Proofs.YtkkcakblphebjaaDoor
