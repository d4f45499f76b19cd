/- Trees by the number of their leaves: how many are on the left, the ways up. -/
import Derived.Test.YtkkcakblphebjaaDoorKit
import Derived.Lib.BitFns
namespace Go.Proofs.YtkkcakblphebjaaDoor
set_option linter.unusedVariables false
set_option linter.unusedSimpArgs false
open Go.RowKit Go.Lib
/-- how many leaves on the left -/
def cutN (n : Nat) : Nat := if n < 2 then 1 else 2 ^ (Nat.log2 (n - 1))
theorem cutN_lt (n : Nat) (h : 2 ≤ n) : cutN n < n := by
  rw [cutN, if_neg (by omega)]
  have := Nat.log2_self_le (n := n - 1) (by omega)
  omega
theorem cutN_pos (n : Nat) : 0 < cutN n := by
  unfold cutN
  split
  · decide
  · exact Nat.two_pow_pos _
theorem cutN_of (n e : Nat) (h0 : 2 ≤ n) (h1 : 2 ^ e < n) (h2 : n ≤ 2 ^ (e + 1)) : cutN n = 2 ^ e := by
  rw [cutN, if_neg (by omega)]
  congr 1
  exact (Nat.log2_eq_iff (by omega)).2 ⟨by omega, by omega⟩
theorem cutN_small (n : Nat) (h : n ≤ 2) : cutN n = 1 := by
  match n, h with
  | 0, _ => rfl
  | 1, _ => rfl
  | 2, _ => rfl
theorem bitLenAux_log (f x : Nat) (h : x < 2 ^ f) (h0 : 0 < x) : Lib.bitLenAux f x = Nat.log2 x + 1 := by
  induction f generalizing x with
  | zero => simp at h; omega
  | succ f ih =>
    rw [Lib.bitLenAux, if_neg (by omega), Nat.log2_def]
    by_cases h2 : 2 ≤ x
    · rw [if_pos h2, ih (x / 2) (by rw [Nat.pow_succ] at h; omega) (by omega)]; omega
    · rw [if_neg h2]
      have : x / 2 = 0 := by omega
      rw [this]
      cases f <;> simp [Lib.bitLenAux]
theorem bitLen_log (x : Nat) (h : x < 18446744073709551616) (h0 : 0 < x) : Lib.bitLen x = Nat.log2 x + 1 := bitLenAux_log 64 x h h0
theorem log2_62 (x : Nat) (h : x < 4611686018427387904) : Nat.log2 x ≤ 61 := by
  by_cases h0 : x = 0
  · subst h0; decide
  · have h1 := Nat.log2_self_le h0
    rcases Nat.lt_or_ge 61 (Nat.log2 x) with h2 | h2
    · have := Nat.pow_le_pow_right (n := 2) (by decide) h2
      have h3 : (2 : Nat) ^ (61 + 1) = 4611686018427387904 := by decide
      have h4 : 61 + 1 = Nat.succ 61 := rfl
      rw [← h4] at this
      omega
    · exact h2

/-- from the right? from leaf i of n up -/
def tWay (i n : Nat) : List Bool :=
  if h0 : n < 2 then [] else
  if i < cutN n then tWay i (cutN n) ++ [false] else tWay (i - cutN n) (n - cutN n) ++ [true]
termination_by n
decreasing_by
  · exact cutN_lt n (by omega)
  · have := cutN_pos n; omega
theorem tWay_short (i n : Nat) (h : n < 2) : tWay i n = [] := by rw [tWay, dif_pos h]
theorem tWay_left (i n : Nat) (h : 2 ≤ n) (hi : i < cutN n) : tWay i n = tWay i (cutN n) ++ [false] := by
  conv => lhs; rw [tWay]
  rw [dif_neg (by omega), if_pos hi]
theorem tWay_right (i n : Nat) (h : 2 ≤ n) (hi : ¬ i < cutN n) : tWay i n = tWay (i - cutN n) (n - cutN n) ++ [true] := by
  conv => lhs; rw [tWay]
  rw [dif_neg (by omega), if_neg hi]

theorem cutN_half (n : Nat) (h : 2 ≤ n) : n ≤ 2 * cutN n := by
  rw [cutN, if_neg (by omega)]
  have := Nat.lt_log2_self (n := n - 1)
  rw [Nat.pow_succ] at this
  omega
theorem cutN_le_pow (n k : Nat) (h : 2 ≤ n) (hk : n ≤ 2 ^ (k + 1)) : cutN n ≤ 2 ^ k := by
  rw [cutN, if_neg (by omega)]
  refine Nat.pow_le_pow_right (by decide) ?_
  have h1 := Nat.log2_self_le (n := n - 1) (by omega)
  rcases Nat.lt_or_ge k (Nat.log2 (n - 1)) with h2 | h2
  · have := Nat.pow_le_pow_right (n := 2) (by decide) h2
    have h4 : k + 1 = Nat.succ k := rfl
    rw [← h4] at this
    omega
  · exact h2
theorem tWay_le (k : Nat) : ∀ i n : Nat, n ≤ 2 ^ k → (tWay i n).length ≤ k := by
  induction k with
  | zero => intro i n h; rw [tWay_short _ _ (by simp at h; omega)]; simp
  | succ k ih =>
    intro i n h
    by_cases h2 : n < 2
    · rw [tWay_short _ _ h2]; simp
    · have hc := cutN_le_pow n k (by omega) h
      have hh := cutN_half n (by omega)
      by_cases hi : i < cutN n
      · rw [tWay_left _ _ (by omega) hi, List.length_append, List.length_singleton]
        have := ih i (cutN n) hc
        omega
      · rw [tWay_right _ _ (by omega) hi, List.length_append, List.length_singleton]
        have := ih (i - cutN n) (n - cutN n) (by omega)
        omega
/-- from the root down -/
def tDown (i n : Nat) : List Bool := (tWay i n).reverse
theorem tDown_short (i n : Nat) (h : n < 2) : tDown i n = [] := by rw [tDown, tWay_short _ _ h]; rfl
theorem tDown_left (i n : Nat) (h : 2 ≤ n) (hi : i < cutN n) : tDown i n = false :: tDown i (cutN n) := by
  rw [tDown, tWay_left _ _ h hi, List.reverse_append]; rfl
theorem tDown_right (i n : Nat) (h : 2 ≤ n) (hi : ¬ i < cutN n) : tDown i n = true :: tDown (i - cutN n) (n - cutN n) := by
  rw [tDown, tWay_right _ _ h hi, List.reverse_append]; rfl
theorem tDown_up (i n : Nat) : (tDown i n).reverse = tWay i n := by rw [tDown, List.reverse_reverse]
theorem tDown_length (i n : Nat) : (tDown i n).length = (tWay i n).length := by rw [tDown, List.length_reverse]
theorem tWay_length_left (i n : Nat) (h : 2 ≤ n) (hi : i < cutN n) : (tWay i n).length = 1 + (tWay i (cutN n)).length := by
  rw [tWay_left _ _ h hi, List.length_append, List.length_singleton]; omega
theorem tWay_length_right (i n : Nat) (h : 2 ≤ n) (hi : ¬ i < cutN n) : (tWay i n).length = 1 + (tWay (i - cutN n) (n - cutN n)).length := by
  rw [tWay_right _ _ h hi, List.length_append, List.length_singleton]; omega
end Go.Proofs.YtkkcakblphebjaaDoor
