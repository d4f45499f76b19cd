/- Numbers and their bytes: what is laid is read again, what is read is laid again. No program. -/
import Derived.Test.YtjlbpioeahmdeaaRefB
namespace Go.Proofs.Ytjlbpioeahmdeaa
set_option linter.unusedVariables false
open Go.RowKit Go.Lib

def bevN (l : List UInt8) : Int := l.foldl (fun n c => n * 256 + c.toNat) 0
theorem bevN_snoc (l : List UInt8) (c : UInt8) : bevN (l ++ [c]) = bevN l * 256 + c.toNat := by
  unfold bevN; rw [List.foldl_append]; rfl
theorem bev_snoc' (l : List UInt8) (c : UInt8) : bev (l ++ [c]) = wrap64 (bev l * 256 + c.toNat) := by
  unfold bev; rw [List.foldl_append]; rfl
theorem snoc_induct {α : Type} {P : List α → Prop} (h0 : P []) (h1 : ∀ l c, P l → P (l ++ [c])) (l : List α) : P l := by
  have : ∀ r : List α, P r.reverse := by
    intro r
    induction r with
    | nil => exact h0
    | cons c r ih => rw [List.reverse_cons]; exact h1 _ _ ih
  have h := this l.reverse
  rwa [List.reverse_reverse] at h
theorem bev_eq (l : List UInt8) : bev l = wrap64 (bevN l) := by
  induction l using snoc_induct with
  | h0 => show (0 : Int) = wrap64 0; unfold wrap64; omega
  | h1 l c ih => rw [bev_snoc', bevN_snoc, ih]; unfold wrap64; omega
theorem bevN_range (l : List UInt8) : 0 ≤ bevN l ∧ bevN l < 256 ^ l.length := by
  induction l using snoc_induct with
  | h0 => exact ⟨Int.le_refl _, by decide⟩
  | h1 l c ih =>
    have hc := byte_range c
    rw [bevN_snoc, List.length_append, List.length_singleton, Int.pow_succ]
    omega
theorem beL_snoc (k : Nat) (n : Int) : beL (k + 1) n = beL k (n / 256) ++ [byt n] := by
  induction k generalizing n with
  | zero => simp [beL]
  | succ k ih =>
    rw [beL, ih n, beL]
    have : n / 256 ^ (k + 1) = n / 256 / 256 ^ k := by
      rw [Int.ediv_ediv_of_nonneg (by omega), Int.pow_succ, Int.mul_comm]
    rw [this]; rfl
theorem beL_bevN (l : List UInt8) : beL l.length (bevN l) = l := by
  induction l using snoc_induct with
  | h0 => rfl
  | h1 l c ih =>
    have hc := byte_range c
    rw [List.length_append, List.length_singleton, beL_snoc, bevN_snoc]
    rw [show (bevN l * 256 + (c.toNat : Int)) / 256 = bevN l from by omega, ih]
    rw [byt_eq (show (bevN l * 256 + (c.toNat : Int)) % 256 = (c.toNat : Int) % 256 from by omega), byt_byte]
theorem bevN_beL (k : Nat) (n : Int) : bevN (beL k n) = n % 256 ^ k := by
  induction k generalizing n with
  | zero => simp [beL, bevN, Int.emod_one]
  | succ k ih =>
    rw [beL_snoc, bevN_snoc, ih, byt_toNat, Int.pow_succ]
    have hp : (0 : Int) < 256 ^ k := Int.pow_pos (by omega)
    generalize (256 : Int) ^ k = p at *
    have e1 := Int.mul_ediv_add_emod (n / 256) p
    have e2 := Int.mul_ediv_add_emod n (p * 256)
    have e3 := Int.emod_nonneg n (show p * 256 ≠ 0 by omega)
    have e4 := Int.emod_lt_of_pos n (show 0 < p * 256 by omega)
    have e5 : n / 256 / p = n / (p * 256) := by rw [Int.ediv_ediv_of_nonneg (by omega), Int.mul_comm]
    rw [e5] at e1
    generalize n / (p * 256) = q at *
    have e6 : p * 256 * q = 256 * (p * q) := by rw [Int.mul_comm p 256, Int.mul_assoc]
    rw [e6] at e2
    generalize p * q = r at *
    omega
theorem beL_congr (k : Nat) (n m : Int) (h : n % 256 ^ k = m % 256 ^ k) : beL k n = beL k m := by
  have h1 := beL_bevN (beL k n)
  have h2 := beL_bevN (beL k m)
  rw [beL_length, bevN_beL] at h1 h2
  rw [← h1, h, h2]
theorem pow_dvd (k : Nat) (hk : k ≤ 8) : (256 : Int) ^ k ∣ 18446744073709551616 := by
  have : k = 0 ∨ k = 1 ∨ k = 2 ∨ k = 3 ∨ k = 4 ∨ k = 5 ∨ k = 6 ∨ k = 7 ∨ k = 8 := by omega
  rcases this with rfl | rfl | rfl | rfl | rfl | rfl | rfl | rfl | rfl <;> simp only [Int.reducePow] <;> decide
theorem wrap_mod (n : Int) (k : Nat) (hk : k ≤ 8) : wrap64 n % 256 ^ k = n % 256 ^ k := by
  have h1 : wrap64 n % 18446744073709551616 = n % 18446744073709551616 := by unfold wrap64; omega
  rw [← Int.emod_emod_of_dvd (wrap64 n) (pow_dvd k hk), h1, Int.emod_emod_of_dvd n (pow_dvd k hk)]
theorem beL_bev (l : List UInt8) (k : Nat) (hl : l.length = k) (hk : k ≤ 8) : beL k (bev l) = l := by
  subst hl
  rw [bev_eq, beL_congr _ _ _ (wrap_mod (bevN l) l.length hk), beL_bevN]
theorem bev_beL (k : Nat) (n : Int) : bev (beL k n) = wrap64 (n % 256 ^ k) := by rw [bev_eq, bevN_beL]
theorem bev_small (l : List UInt8) (h : l.length ≤ 7) : bev l = bevN l := by
  rw [bev_eq]
  have h1 := bevN_range l
  have h2 := pow256_le l.length h
  exact wrap64_in _ (by omega) (by omega)

/-- the test of the reference is the program's -/
theorem put_test (l : List UInt8) (c : UInt8) (w : Nat) (hw : w ≤ 7) (hl : l.length = w) (hc : (c.toNat : Int) = 247 + w) :
    (put (bev l) = c :: l) ↔ ¬ (bev l ≤ 247 ∨ (wd (bev l) : Int) ≠ w) := by
  have hr := bevN_range l
  have hp := pow256_le l.length (by omega)
  rw [bev_small l (by omega)]
  generalize hn : bevN l = n at *
  by_cases h1 : n < 248
  · rw [put_low n h1]
    constructor
    · intro h
      have := congrArg List.length h
      have hl0 : l = [] := List.eq_nil_of_length_eq_zero (by simp only [List.length_cons, List.length_nil] at this; omega)
      have hn0 : n = 0 := by rw [← hn, hl0]; rfl
      rw [hl0] at hl
      rw [hl0, List.cons_eq_cons] at h
      have h2 := congrArg (fun c : UInt8 => (c.toNat : Int)) h.1
      simp only [byt_toNat] at h2
      (split at h2) <;> simp only [List.length_nil] at hl <;> omega
    · intro h; omega
  · rw [put_mid n (by omega) (by omega)]
    have hd := wd_le n
    constructor
    · intro h
      rw [List.cons_eq_cons] at h
      have h2 := congrArg (fun c : UInt8 => (c.toNat : Int)) h.1
      simp only [byt_toNat] at h2
      omega
    · intro h
      have hwn : wd n = w := by omega
      rw [hwn, ← hn, ← hl, beL_bevN, List.cons_eq_cons]
      refine ⟨?_, rfl⟩
      rw [hl, ← hc, byt_byte]

end Go.Proofs.Ytjlbpioeahmdeaa
