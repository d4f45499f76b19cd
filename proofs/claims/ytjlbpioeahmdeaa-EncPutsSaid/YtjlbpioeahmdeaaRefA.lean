/- The functions of the reference for layer 1, each by a contract. -/
import Derived.Test.YtjlbpioeahmdeaaKit
import Derived.Test.YtjlbpioeahmdeaaEncB
namespace Go.Proofs.Ytjlbpioeahmdeaa
set_option linter.unusedVariables false
open Go.RowKit Go.Lib

/-- the lowest k bytes of n, the highest first -/
def beL : Nat → Int → List UInt8
  | 0, _ => []
  | k + 1, n => byt (n / 256 ^ k) :: beL k n
theorem beL_length (k : Nat) (n : Int) : (beL k n).length = k := by
  induction k with
  | zero => rfl
  | succ k ih => simp [beL, ih]

theorem one_any (n : Int) (w : World) :
    Calls Try.prog 27 #[.int .i64 n] w fun e w' => e = .returned (.string (str [byt n])) ∧ Below w.heap.size w w' := by
  have hcv := conv_one (P := Try.prog) 46 9 5 Try.underlying46 Try.underlying5 Try.underlying9 n w
  go_enter Try.func27, Try.ntmps27
  go_wp2
  go_ret
  exact ⟨rfl, (Below.refl _ _).alloc (Nat.le_refl _) _⟩

theorem div_pow (n : Int) (k : Nat) : n / 256 ^ k / 256 = n / 256 ^ (k + 1) := by
  rw [Int.ediv_ediv_of_nonneg (Int.le_of_lt (Int.pow_pos (by omega))), Int.pow_succ]

theorem div_range (n : Int) (k : Nat) (h0 : -9223372036854775808 ≤ n) (h1 : n ≤ 9223372036854775807) : -9223372036854775808 ≤ n / 256 ^ k ∧ n / 256 ^ k ≤ 9223372036854775807 := by
  have hp : (0 : Int) < 256 ^ k := Int.pow_pos (by omega)
  constructor
  · exact (Int.le_ediv_iff_mul_le hp).2 (by
      have : -9223372036854775808 * (256 : Int) ^ k ≤ -9223372036854775808 * 1 := Int.mul_le_mul_of_nonpos_left (by omega) (by omega)
      omega)
  · exact Int.le_trans (Int.ediv_le_ediv hp h1) (Int.ediv_le_self (256 ^ k) (show (0 : Int) ≤ 9223372036854775807 by decide))

set_option maxHeartbeats 400000 in
theorem refBytes_any (n : Int) (m : Nat) (w : World) (hm : m ≤ 100) (h0 : -9223372036854775808 ≤ n) (h1 : n ≤ 9223372036854775807) :
    Calls Try.prog 28 #[.int .i64 n, .int .i64 m] w fun e w' => e = .returned (.string (str (beL m n))) ∧ Below w.heap.size w w' := by
  go_enter Try.func28, Try.ntmps28
  go_wp2
  go_loopw [0, 5, 6] (fun a s i wr => ∃ k : Nat, k ≤ m ∧ a = .int .i64 (n / 256 ^ k) ∧ s = .string (str (beL k n)) ∧ i = .int .i64 k ∧ Below w.heap.size w wr) (fun _ _ i _ => m - (intOf i).toNat)
  case atStart => exact ⟨0, Nat.zero_le _, by simp, rfl, rfl, Below.refl _ _⟩
  case round =>
    obtain ⟨k, hk, rfl, rfl, rfl, hb⟩ := hrel
    by_cases hlt : k < m
    · have hq := div_pow n k
      have hr : -9223372036854775808 ≤ n / 256 ^ k ∧ n / 256 ^ k ≤ 9223372036854775807 := div_range n k h0 h1
      generalize hg : n / 256 ^ k = q at *
      have hgen := Kept.mk hg; clear hg
      have HQ := Kept.mk hq; clear hq
      obtain ⟨hr0, hr1⟩ := hr
      go_wp2_with fail
      refine (one_any _ _).mono ?_
      rintro e w' ⟨rfl, hb2⟩
      have hz1 : (str (beL k n)).size ≤ 100 := by rw [str_size, beL_length]; omega
      have hz2 : (str [byt (bits BinOp.and IntKind.i64 q 255)]).size ≤ 1 := Nat.le_refl _
      go_wp2
      have hk2 : str [byt (bits BinOp.and IntKind.i64 q 255)] ++ str (beL k n) = str (beL (k + 1) n) := by
        rw [str_append, and_255, byt_mod]; exact congrArg str (by rw [List.singleton_append, beL, hgen.out])
      rw [hk2]
      exact ⟨⟨k + 1, by omega, by rw [HQ.out], rfl, by go_num, below_two hb hb2 (below_le hb (Nat.le_refl _))⟩, by simp [intOf]; omega⟩
    · go_wp2
      go_ret
      have : k = m := by omega
      subst this
      exact ⟨rfl, hb⟩
end Go.Proofs.Ytjlbpioeahmdeaa
