/- Packed bits are read back: each bit, a number's lowest bits, a text, and the zeros at the end. -/
import Derived.Test.YtohdekokdljgjaaWrE
import Derived.Test.YtohdekokdljgjaaReD
namespace Go.Proofs.Ytohdekokdljgjaa
set_option linter.unusedVariables false
set_option linter.unusedSimpArgs false
open Go.RowKit Go.Lib
theorem bitAt (x i : Nat) : x / 2 ^ i % 2 = (x.testBit i).toNat := by
  rw [Nat.testBit_eq_decide_div_mod_eq]
  have := Nat.mod_lt (x / 2 ^ i) (show 0 < 2 by decide)
  rcases (show x / 2 ^ i % 2 = 0 ∨ x / 2 ^ i % 2 = 1 from by omega) with h | h <;> simp [h]
theorem or_at (x : UInt8) (b r i : Nat) (hb : b < 2) (hr : r < 8) (hx : x.toNat / 2 ^ r % 2 = 0) : (x ||| UInt8.ofNat (b * 2 ^ r)).toNat / 2 ^ i % 2 = if i = r then b else x.toNat / 2 ^ i % 2 := by
  have h7 : 2 ^ r ≤ 2 ^ 7 := Nat.pow_le_pow_right (by decide) (by omega)
  have h128 : (2 : Nat) ^ 7 = 128 := by decide
  have h2 : b * 2 ^ r ≤ 128 := by
    rcases (show b = 0 ∨ b = 1 from by omega) with rfl | rfl <;> omega
  have hmod : b * 2 ^ r % 2 ^ 8 = b * 2 ^ r := Nat.mod_eq_of_lt (by omega)
  rw [UInt8.toNat_or, UInt8.toNat_ofNat', hmod]
  rw [bitAt] at hx
  rw [bitAt, bitAt, Nat.testBit_or]
  rcases (show b = 0 ∨ b = 1 from by omega) with rfl | rfl
  · rw [Nat.zero_mul, Nat.zero_testBit, Bool.or_false]
    by_cases h : i = r
    · rw [if_pos h, h]; exact hx
    · rw [if_neg h]
  · rw [Nat.one_mul, Nat.testBit_two_pow]
    by_cases h : i = r
    · rw [if_pos h, h]; simp
    · rw [if_neg h]
      have : ¬ r = i := fun e => h e.symm
      simp [this]
theorem bt_put (ys : List UInt8) (n b : Nat) (hb : b < 2) (hl : ys.length = (n + 7) / 8) (h0 : ∀ p, n ≤ p → bt ys p = 0) (p : Nat) : bt (putBit ys n b) p = if p = n then b else bt ys p := by
  have hz : ∀ q, (if n % 8 = 0 then ys ++ [(0 : UInt8)] else ys).getD q 0 = ys.getD q 0 := by
    intro q
    by_cases h : n % 8 = 0
    · rw [if_pos h]
      rw [List.getD_eq_getElem?_getD, List.getD_eq_getElem?_getD]
      rcases Nat.lt_or_ge q ys.length with hq | hq
      · rw [List.getElem?_append_left hq]
      · rw [List.getElem?_append_right hq, List.getElem?_eq_none hq]
        rcases (show q - ys.length = 0 ∨ 0 < q - ys.length from by omega) with h1 | h1
        · rw [h1]; rfl
        · rw [List.getElem?_eq_none (by simp; omega)]
    · rw [if_neg h]
  have hzl : n / 8 < (if n % 8 = 0 then ys ++ [(0 : UInt8)] else ys).length := by
    by_cases h : n % 8 = 0
    · rw [if_pos h, List.length_append, List.length_singleton]; omega
    · rw [if_neg h]; omega
  have hn0 := h0 n (Nat.le_refl _)
  unfold bt putBit at *
  by_cases hp : p / 8 = n / 8
  · rw [hp, List.getD_eq_getElem?_getD (l := List.set _ _ _), List.getElem?_set_self hzl, Option.getD_some, hz]
    rw [or_at _ _ _ _ hb (Nat.mod_lt _ (by decide)) hn0]
    by_cases hpn : p = n
    · subst hpn; rw [if_pos rfl, if_pos rfl]
    · rw [if_neg (by omega), if_neg hpn]
  · rw [List.getD_eq_getElem?_getD (l := List.set _ _ _), List.getElem?_set_ne (by omega), ← List.getD_eq_getElem?_getD, hz, if_neg (fun e => hp (by rw [e]))]
theorem bt_pack (L : List Nat) (h : Two01 L) : ∀ k, k ≤ L.length → ∀ p, bt (packTo L k) p = if p < k then L.getD p 0 else 0
  | 0, _, p => by unfold bt packTo; simp
  | k + 1, hk, p => by
    have ih := bt_pack L h k (by omega)
    have hb : L.getD k 0 < 2 := by
      rw [List.getD_eq_getElem?_getD, List.getElem?_eq_getElem (by omega)]
      exact h _ (List.getElem_mem (by omega))
    rw [packTo, bt_put _ _ _ hb (packTo_length L k) (fun q hq => by rw [ih q, if_neg (by omega)]) p, ih p]
    by_cases h1 : p = k
    · subst h1; rw [if_pos rfl, if_pos (by omega)]
    · rw [if_neg h1]
      by_cases h2 : p < k
      · rw [if_pos h2, if_pos (by omega)]
      · rw [if_neg h2, if_neg (by omega)]
theorem bt_pk (L : List Nat) (h : Two01 L) (p : Nat) : bt (pk L) p = L.getD p 0 := by
  unfold pk
  rw [bt_pack L h _ (Nat.le_refl _) p]
  by_cases h1 : p < L.length
  · rw [if_pos h1]
  · rw [if_neg h1, List.getD_eq_getElem?_getD, List.getElem?_eq_none (by omega)]; rfl
theorem mod_next (V p : Int) (hp : 0 < p) : V % (p * 2) = V % p + (V / p % 2) * p := by
  have h1 := Int.emod_add_mul_ediv V p
  have h2 := Int.emod_nonneg V (show p ≠ 0 by omega)
  have h3 := Int.emod_lt_of_pos V hp
  generalize V % p = r at *
  generalize V / p = q at *
  have hq := Int.emod_add_mul_ediv q 2
  have hq0 := Int.emod_nonneg q (show (2 : Int) ≠ 0 by decide)
  have hq2 := Int.emod_lt_of_pos q (show (0 : Int) < 2 by decide)
  generalize q % 2 = s at *
  generalize q / 2 = t at *
  subst hq
  have e : V = (r + s * p) + p * 2 * t := by rw [← h1, Int.mul_add, Int.mul_comm p s]; rw [show p * (2 * t) = p * 2 * t from by rw [Int.mul_assoc]]; omega
  rw [e, Int.add_mul_emod_self_left]
  apply Int.emod_eq_of_lt
  · have := Int.mul_nonneg hq0 (show 0 ≤ p by omega); omega
  · have h4 : s * p ≤ 1 * p := Int.mul_le_mul_of_nonneg_right (by omega) (by omega)
    omega
theorem bv_low (l : List UInt8) (u : Nat) (V : Int) : ∀ n, (∀ i, i < n → bt l (u + i) = vb1 V i) → ((bv l u n : Nat) : Int) = V % 2 ^ n
  | 0, _ => by rw [bv_zero]; simp
  | n + 1, h => by
    rw [bv_snoc, h n (by omega), Int.natCast_add, bv_low l u V n (fun i hi => h i (by omega)), Int.natCast_mul, vb1_int, Int.natCast_pow, Int.pow_succ, mod_next V (2 ^ n) (Int.pow_pos (by decide))]
    rfl
theorem bv_none (l : List UInt8) (u : Nat) : ∀ n, (∀ i, i < n → bt l (u + i) = 0) → bv l u n = 0
  | 0, _ => bv_zero l u
  | n + 1, h => by rw [bv_snoc, h n (by omega), bv_none l u n (fun i hi => h i (by omega)), Nat.zero_mul]
theorem bv_one (l : List UInt8) (u : Nat) : bv l u 1 = bt l u := by rw [bv_step, bv_zero]; omega
theorem putBit_take (ys : List UInt8) (n b m : Nat) (hm : m ≤ n / 8) (hl : m ≤ ys.length) : (putBit ys n b).take m = ys.take m := by
  unfold putBit
  rw [List.take_set_of_le hm]
  by_cases h : n % 8 = 0
  · rw [if_pos h, List.take_append_of_le_length hl]
  · rw [if_neg h]
theorem packTo_take (L : List Nat) (m : Nat) : ∀ k, (packTo L (8 * m + k)).take m = packTo L (8 * m)
  | 0 => List.take_of_length_le (by rw [Nat.add_zero, packTo_length]; omega)
  | k + 1 => by
    show (putBit (packTo L (8 * m + k)) (8 * m + k) _).take m = _
    rw [putBit_take _ _ _ _ (by omega) (by rw [packTo_length]; omega), packTo_take L m k]
theorem pk_prefix (M R : List Nat) (h : M.length % 8 = 0) : (pk (M ++ R)).take (M.length / 8) = pk M := by
  have hM : M.length = 8 * (M.length / 8) := by omega
  generalize hm : M.length / 8 = m at hM
  unfold pk
  rw [List.length_append, hM, packTo_take, packTo_app M R _ (by omega)]
/-- a text that was put where the bits were aligned -/
theorem pk_mid (M R : List Nat) (s : List UInt8) (h : M.length % 8 = 0) : ((pk (M ++ txB s ++ R)).take (M.length / 8 + s.length)).drop (M.length / 8) = s := by
  have h1 : (M ++ txB s).length % 8 = 0 := by rw [List.length_append, txB_length]; omega
  have h2 : (M ++ txB s).length / 8 = M.length / 8 + s.length := by rw [List.length_append, txB_length]; omega
  rw [← h2, pk_prefix _ R h1, pk_text s M h, List.drop_append_of_le_length (by rw [pk_length]; omega), List.drop_of_length_le (by rw [pk_length]; omega)]
  rfl
theorem lowB_get (v : Int) (n i : Nat) (h : i < n) : (lowB v n).getD i 0 = vb1 v i := by
  unfold lowB; rw [List.getD_eq_getElem?_getD, List.getElem?_map, List.getElem?_range h]; rfl
theorem highB_get (v : Int) (n i : Nat) (h : i < n) : (highB v n).getD i 0 = vb1 v (n - 1 - i) := by
  unfold highB; rw [List.getD_eq_getElem?_getD, List.getElem?_map, List.getElem?_range h]; rfl
theorem mid_get (L M R : List Nat) (i : Nat) (h : i < M.length) : (L ++ M ++ R).getD (L.length + i) 0 = M.getD i 0 := by
  rw [List.getD_eq_getElem?_getD, List.getD_eq_getElem?_getD, List.append_assoc, List.getElem?_append_right (by omega), show L.length + i - L.length = i by omega, List.getElem?_append_left h]
end Go.Proofs.Ytohdekokdljgjaa
