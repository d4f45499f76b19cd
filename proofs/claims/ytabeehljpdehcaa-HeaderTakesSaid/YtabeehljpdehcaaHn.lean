/- enc.Fixed, of the program and by definition, each by a contract; numbers and their bytes. -/
import Derived.Test.YtabeehljpdehcaaFix
import Derived.Deep.RegionWith
import Derived.Lib.SlicesS
import Derived.BigQuiet
import Derived.Deep.QuietTactic
namespace Go.Proofs.Ytabeehljpdehcaa
set_option linter.unusedVariables false
open Go.RowKit Go.Lib
theorem toList_size (s : ByteArray) : s.toList.length = s.size := by rw [ByteArray.toList_eq]; exact Array.length_toList
/-- what Take tells: the number, what is behind it, the error -/
def tkFix (s : ByteArray) (n : Int) : Int × ByteArray × Int :=
  if n < 1 ∨ 8 < n then (0, ByteArray.empty, 1) else if (s.size : Int) < n then (0, ByteArray.empty, 2)
  else (bev (s.extract 0 n.toNat).data.toList, s.extract n.toNat s.size, 0)
theorem one_any (n : Int) (w : World) :
    Calls Try.prog 27 #[.int .i64 n] w fun e w' => e = .returned (.string (str [byt n])) ∧ Below w.heap.size w w' := by
  have hcv := conv_one (P := Try.prog) 46 9 5 Try.underlying46 Try.underlying5 Try.underlying9 n w
  go_enter Try.func27, Try.ntmps27
  go_wp2
  go_ret
  exact ⟨rfl, (Below.refl _ _).alloc (Nat.le_refl _) _⟩
theorem div_pow (n : Int) (k : Nat) : n / 256 ^ k / 256 = n / 256 ^ (k + 1) := by
  rw [Int.ediv_ediv_of_nonneg (Int.le_of_lt (Int.pow_pos (by omega))), Int.pow_succ]
theorem div_range (n : Int) (k : Nat) (h0 : -9223372036854775808 ≤ n) (h1 : n ≤ 9223372036854775807) : -9223372036854775808 ≤ n / 256 ^ k ∧ n / 256 ^ k ≤ 9223372036854775807 := by
  have hp : (0 : Int) < 256 ^ k := Int.pow_pos (by omega)
  constructor
  · exact (Int.le_ediv_iff_mul_le hp).2 (by
      have : -9223372036854775808 * (256 : Int) ^ k ≤ -9223372036854775808 * 1 := Int.mul_le_mul_of_nonpos_left (by omega) (by omega)
      omega)
  · exact Int.le_trans (Int.ediv_le_ediv hp h1) (Int.ediv_le_self (256 ^ k) (show (0 : Int) ≤ 9223372036854775807 by decide))
set_option maxHeartbeats 400000 in
theorem refBytes_any (n : Int) (m : Nat) (w : World) (hm : m ≤ 100) (h0 : -9223372036854775808 ≤ n) (h1 : n ≤ 9223372036854775807) :
    Calls Try.prog 26 #[.int .i64 n, .int .i64 m] w fun e w' => e = .returned (.string (str (beL m n))) ∧ Below w.heap.size w w' := by
  go_enter Try.func26, Try.ntmps26
  go_wp2
  go_loopw [0, 5, 6] (fun a s i wr => ∃ k : Nat, k ≤ m ∧ a = .int .i64 (n / 256 ^ k) ∧ s = .string (str (beL k n)) ∧ i = .int .i64 k ∧ Below w.heap.size w wr) (fun _ _ i _ => m - (intOf i).toNat)
  case atStart => exact ⟨0, Nat.zero_le _, by simp, rfl, rfl, Below.refl _ _⟩
  case round =>
    obtain ⟨k, hk, rfl, rfl, rfl, hb⟩ := hrel
    by_cases hlt : k < m
    · have hq := div_pow n k
      have hr : -9223372036854775808 ≤ n / 256 ^ k ∧ n / 256 ^ k ≤ 9223372036854775807 := div_range n k h0 h1
      generalize hg : n / 256 ^ k = q at *
      have hgen := Kept.mk hg; clear hg
      have HQ := Kept.mk hq; clear hq
      obtain ⟨hr0, hr1⟩ := hr
      go_wp2_with fail
      refine (one_any _ _).mono ?_
      rintro e w' ⟨rfl, hb2⟩
      have hz1 : (str (beL k n)).size ≤ 100 := by rw [str_size, beL_length]; omega
      have hz2 : (str [byt (bits BinOp.and IntKind.i64 q 255)]).size ≤ 1 := Nat.le_refl _
      go_wp2
      have hk2 : str [byt (bits BinOp.and IntKind.i64 q 255)] ++ str (beL k n) = str (beL (k + 1) n) := by
        rw [str_append, and_255, byt_mod]; exact congrArg str (by rw [List.singleton_append, beL, hgen.out])
      rw [hk2]
      exact ⟨⟨k + 1, by omega, by rw [HQ.out], rfl, by go_num, below_two hb hb2 (below_le hb (Nat.le_refl _))⟩, by simp [intOf]; omega⟩
    · go_wp2
      go_ret
      have : k = m := by omega
      subst this
      exact ⟨rfl, hb⟩
set_option linter.unusedSimpArgs false
def bevN (l : List UInt8) : Int := l.foldl (fun n c => n * 256 + c.toNat) 0
theorem bevN_snoc (l : List UInt8) (c : UInt8) : bevN (l ++ [c]) = bevN l * 256 + c.toNat := by
  unfold bevN; rw [List.foldl_append]; rfl
theorem bev_snoc' (l : List UInt8) (c : UInt8) : bev (l ++ [c]) = wrap64 (bev l * 256 + c.toNat) := by
  unfold bev; rw [List.foldl_append]; rfl
theorem snoc_induct {α : Type} {P : List α → Prop} (h0 : P []) (h1 : ∀ l c, P l → P (l ++ [c])) (l : List α) : P l := by
  have : ∀ r : List α, P r.reverse := by
    intro r
    induction r with
    | nil => exact h0
    | cons c r ih => rw [List.reverse_cons]; exact h1 _ _ ih
  have h := this l.reverse
  rwa [List.reverse_reverse] at h
theorem bev_eq (l : List UInt8) : bev l = wrap64 (bevN l) := by
  induction l using snoc_induct with
  | h0 => show (0 : Int) = wrap64 0; unfold wrap64; omega
  | h1 l c ih => rw [bev_snoc', bevN_snoc, ih]; unfold wrap64; omega
theorem bevN_range (l : List UInt8) : 0 ≤ bevN l ∧ bevN l < 256 ^ l.length := by
  induction l using snoc_induct with
  | h0 => exact ⟨Int.le_refl _, by decide⟩
  | h1 l c ih =>
    have hc := byte_range c
    rw [bevN_snoc, List.length_append, List.length_singleton, Int.pow_succ]
    omega
theorem beL_snoc (k : Nat) (n : Int) : beL (k + 1) n = beL k (n / 256) ++ [byt n] := by
  induction k generalizing n with
  | zero => simp [beL]
  | succ k ih =>
    rw [beL, ih n, beL]
    have : n / 256 ^ (k + 1) = n / 256 / 256 ^ k := by
      rw [Int.ediv_ediv_of_nonneg (by omega), Int.pow_succ, Int.mul_comm]
    rw [this]; rfl
theorem beL_bevN (l : List UInt8) : beL l.length (bevN l) = l := by
  induction l using snoc_induct with
  | h0 => rfl
  | h1 l c ih =>
    have hc := byte_range c
    rw [List.length_append, List.length_singleton, beL_snoc, bevN_snoc]
    rw [show (bevN l * 256 + (c.toNat : Int)) / 256 = bevN l from by omega, ih]
    rw [byt_eq (show (bevN l * 256 + (c.toNat : Int)) % 256 = (c.toNat : Int) % 256 from by omega), byt_byte]
theorem bevN_beL (k : Nat) (n : Int) : bevN (beL k n) = n % 256 ^ k := by
  induction k generalizing n with
  | zero => simp [beL, bevN, Int.emod_one]
  | succ k ih =>
    rw [beL_snoc, bevN_snoc, ih, byt_toNat, Int.pow_succ]
    have hp : (0 : Int) < 256 ^ k := Int.pow_pos (by omega)
    generalize (256 : Int) ^ k = p at *
    have e1 := Int.mul_ediv_add_emod (n / 256) p
    have e2 := Int.mul_ediv_add_emod n (p * 256)
    have e3 := Int.emod_nonneg n (show p * 256 ≠ 0 by omega)
    have e4 := Int.emod_lt_of_pos n (show 0 < p * 256 by omega)
    have e5 : n / 256 / p = n / (p * 256) := by rw [Int.ediv_ediv_of_nonneg (by omega), Int.mul_comm]
    rw [e5] at e1
    generalize n / (p * 256) = q at *
    have e6 : p * 256 * q = 256 * (p * q) := by rw [Int.mul_comm p 256, Int.mul_assoc]
    rw [e6] at e2
    generalize p * q = r at *
    omega
theorem beL_congr (k : Nat) (n m : Int) (h : n % 256 ^ k = m % 256 ^ k) : beL k n = beL k m := by
  have h1 := beL_bevN (beL k n)
  have h2 := beL_bevN (beL k m)
  rw [beL_length, bevN_beL] at h1 h2
  rw [← h1, h, h2]
theorem pow_dvd (k : Nat) (hk : k ≤ 8) : (256 : Int) ^ k ∣ 18446744073709551616 := by
  have : k = 0 ∨ k = 1 ∨ k = 2 ∨ k = 3 ∨ k = 4 ∨ k = 5 ∨ k = 6 ∨ k = 7 ∨ k = 8 := by omega
  rcases this with rfl | rfl | rfl | rfl | rfl | rfl | rfl | rfl | rfl <;> simp only [Int.reducePow] <;> decide
theorem wrap_mod (n : Int) (k : Nat) (hk : k ≤ 8) : wrap64 n % 256 ^ k = n % 256 ^ k := by
  have h1 : wrap64 n % 18446744073709551616 = n % 18446744073709551616 := by unfold wrap64; omega
  rw [← Int.emod_emod_of_dvd (wrap64 n) (pow_dvd k hk), h1, Int.emod_emod_of_dvd n (pow_dvd k hk)]
theorem beL_bev (l : List UInt8) (k : Nat) (hl : l.length = k) (hk : k ≤ 8) : beL k (bev l) = l := by
  subst hl
  rw [bev_eq, beL_congr _ _ _ (wrap_mod (bevN l) l.length hk), beL_bevN]
theorem bev_beL (k : Nat) (n : Int) : bev (beL k n) = wrap64 (n % 256 ^ k) := by rw [bev_eq, bevN_beL]
theorem mul_add_wrap (n : Int) (c : UInt8) : wrap64 (wrap64 (n * 256) + (c.toNat : Int)) = wrap64 (n * 256 + c.toNat) := by
  unfold wrap64; omega
theorem bev_range64 (l : List UInt8) : -9223372036854775808 ≤ bev l ∧ bev l ≤ 9223372036854775807 := by
  have : ∀ (l : List UInt8) (n : Int), (-9223372036854775808 ≤ n ∧ n ≤ 9223372036854775807) → -9223372036854775808 ≤ l.foldl (fun n c => wrap64 (n * 256 + c.toNat)) n ∧ l.foldl (fun n c => wrap64 (n * 256 + c.toNat)) n ≤ 9223372036854775807 := by
    intro l
    induction l with
    | nil => intro n h; exact h
    | cons c r ih => intro n _; exact ih _ (wrap64_range _)
  exact this l 0 (by omega)
theorem extract_list (s : ByteArray) (a b : Nat) : (s.extract a b).data.toList = (s.data.toList.drop a).take (b - a) := by
  rw [ByteArray.data_extract, Array.toList_extract, List.extract]
theorem str_eq_iff (a : List UInt8) (s : ByteArray) : str a = s ↔ a = s.data.toList :=
  ⟨fun h => by rw [← h]; rfl, fun h => by rw [h, str_eta]⟩
set_option maxHeartbeats 400000 in
theorem refFixed_any (n b : Int) (w : World) (h0 : -9223372036854775808 ≤ n) (h1 : n ≤ 9223372036854775807) :
    Calls Try.prog 23 #[.int .i64 n, .int .i64 b] w fun e w' => e = .returned (.string (str (beL (fixLen b) n))) ∧ Below w.heap.size w w' := by
  by_cases hb : b < 0
  · have h : fixLen b = 0 := by unfold fixLen; rw [if_pos hb]
    rw [h]
    have hn : b ≤ 8 := by omega
    go_enter Try.func23, Try.ntmps23
    go_wp2_with fail
    refine (refBytes_any n 0 _ (by omega) h0 h1).mono ?_
    rintro e w1 ⟨rfl, hb1⟩
    go_wp2
    go_ret
    exact ⟨rfl, hb1⟩
  by_cases hc : 8 < b
  · have h : fixLen b = 8 := by unfold fixLen; rw [if_neg hb, if_pos hc]
    rw [h]
    go_enter Try.func23, Try.ntmps23
    go_wp2_with fail
    refine (refBytes_any n 8 _ (by omega) h0 h1).mono ?_
    rintro e w1 ⟨rfl, hb1⟩
    go_wp2
    go_ret
    exact ⟨rfl, hb1⟩
  · obtain ⟨m, rfl⟩ := Int.eq_ofNat_of_zero_le (show 0 ≤ b by omega)
    have h : fixLen (m : Int) = m := by unfold fixLen; rw [if_neg hb, if_neg hc]; omega
    rw [h]
    go_enter Try.func23, Try.ntmps23
    go_wp2_with fail
    refine (refBytes_any n m _ (by omega) h0 h1).mono ?_
    rintro e w1 ⟨rfl, hb1⟩
    go_wp2
    go_ret
    exact ⟨rfl, hb1⟩
theorem str_extract (l : List UInt8) (a b : Nat) : (str l).extract a b = str ((l.drop a).take (b - a)) := by
  have h := extract_list (str l) a b
  rw [str_data] at h
  rw [← h, str_eta]
theorem tkFix_back (n : Int) (k : Nat) (s : ByteArray) (hk : 1 ≤ k) (hk8 : k ≤ 8) : tkFix (str (beL k n) ++ s) k = (wrap64 (n % 256 ^ k), s, 0) := by
  have hl := beL_length k n
  have e : str (beL k n) ++ s = str (beL k n ++ s.data.toList) := by rw [← str_append, str_eta]
  have hz : (str (beL k n ++ s.data.toList)).size = k + s.size := by
    rw [str_size, List.length_append, hl, Array.length_toList]; rfl
  unfold tkFix
  rw [e, if_neg (by omega), if_neg (by rw [hz]; omega), hz, str_extract, str_extract, Int.toNat_natCast, str_data]
  rw [List.drop_zero, Nat.sub_zero, List.take_append_of_le_length (by omega), List.take_of_length_le (by omega), List.drop_append_of_le_length (by omega), List.drop_of_length_le (by omega), List.nil_append, List.take_of_length_le (by rw [Array.length_toList]; show s.size ≤ _; omega), str_eta, bev_beL]
theorem beL_wrap (k : Nat) (n : Int) (hk : k ≤ 8) : beL k (wrap64 (n % 256 ^ k)) = beL k n := by
  apply beL_congr
  rw [wrap_mod _ k hk, Int.emod_emod]
end Go.Proofs.Ytabeehljpdehcaa
