/- enc.Take, of the program and by definition, each by a contract. -/
import Derived.Test.YtabeehljpdehcaaHn
namespace Go.Proofs.Ytabeehljpdehcaa
set_option linter.unusedVariables false
set_option linter.unusedSimpArgs false
open Go.RowKit Go.Lib
set_option maxHeartbeats 400000 in
theorem number_any (s : ByteArray) (w : World) (hs : s.size ≤ maxLen) :
    Calls Try.prog 24 #[.string s] w fun e w' => e = .returned (.int .i64 (bev s.data.toList)) ∧ w = w' := by
  unfold maxLen at hs
  go_enter Try.func24, Try.ntmps24
  go_wp2
  refine wp_scope_jumps 0 (fun a' w' => w' = w ∧ ∃ (i : Nat) (u5 u6 u7 u8 u9 u10 u11 u12 u13 u14 u15 u16 u17 : Value), a' = { tmps := #[.string s, undef, .int .i64 0, .int .i64 (bev (s.data.toList.take i)), .int .i64 i, u5, u6, u7, u8, u9, u10, u11, u12, u13, u14, u15, u16, u17, undef], defers := [] } ∧ i ≤ s.size) (fun a' _ => s.size - (intOf (a'.tmps.getD 4 undef)).toNat) rfl ?_ ?_
  · go_wp2
    go_step3
    go_wp2
    · have hlt : 0 < s.size := by assumption
      go_step3
      have h := bev_snoc s 0 hlt
      simp only [List.take_zero, show bev [] = 0 from rfl, Nat.zero_add, Int.zero_mul] at h
      have h2 := shl8_or 0 s[0]
      simp only [Int.zero_mul, show wrap64 0 = 0 from by unfold wrap64; rfl] at h2
      rw [h2, ← h]
      exact ⟨rfl, rfl, 1, _, _, _, _, _, _, _, _, _, _, _, _, _, rfl, by omega⟩
    · have hge : ¬ 0 < s.size := by assumption
      simp only [Exit.jump]
      go_ret
      have hge : s.size = 0 := by omega
      have : s.data.toList = [] := List.eq_nil_of_length_eq_zero (by rw [Array.length_toList]; exact hge)
      exact ⟨ret_int (by rw [this]; rfl), rfl⟩
  · rintro a' w' ⟨rfl, i, u5, u6, u7, u8, u9, u10, u11, u12, u13, u14, u15, u16, u17, rfl, hi⟩
    have HS := Lib.hid (fun h : i < s.size => bev_snoc s i h)
    generalize hn : bev (s.data.toList.take i) = n at *
    have HN := Lib.hid hn; clear hn
    go_wp2
    · have hlt : i < s.size := by assumption
      go_step3
      rw [shl8_or, ← HS.out hlt]
      exact ⟨rfl, ⟨rfl, i + 1, _, _, _, _, _, _, _, _, _, _, _, _, _, rfl, by omega⟩, by simp [intOf]; omega⟩
    · have hge : ¬ i < s.size := by assumption
      simp only [Exit.jump]
      go_ret
      have : i = s.size := by omega
      exact ⟨ret_int (by rw [← HN.out, this, take_all]), rfl⟩
set_option maxHeartbeats 1000000 in
theorem take_any (s : ByteArray) (n : Int) (w : World) (hs : s.size ≤ maxLen) :
    Calls Try.prog 20 #[.string s, .int .i64 n] w fun e w' => e = .returned (.tuple #[.int .i64 (tkFix s n).1, .string (tkFix s n).2.1, .int .i64 (tkFix s n).2.2]) ∧ ∃ k, w' = w.drewN k := by
  unfold maxLen at hs
  go_enter Try.func20, Try.ntmps20
  go_wp2_with fail
  · have h : n < 1 ∨ 8 < n := by assumption
    go_ret3
    have e : tkFix s n = (0, ByteArray.empty, 1) := by unfold tkFix; rw [if_pos h]
    rw [e]; exact ⟨rfl, 0, rfl⟩
  · have h : 1 ≤ n ∧ n ≤ 8 := by assumption
    have h2 : (s.size : Int) < n := by assumption
    go_ret3
    have e : tkFix s n = (0, ByteArray.empty, 2) := by unfold tkFix; rw [if_neg (by omega), if_pos h2]
    rw [e]; exact ⟨rfl, 0, rfl⟩
  · have h : 1 ≤ n ∧ n ≤ 8 := by assumption
    have h2 : n ≤ (s.size : Int) := by assumption
    have e : tkFix s n = (bev (s.extract 0 n.toNat).data.toList, s.extract n.toNat s.size, 0) := by unfold tkFix; rw [if_neg (by omega), if_neg (by omega)]
    have E := Lib.hid e; clear e
    obtain ⟨m, rfl⟩ := Int.eq_ofNat_of_zero_le (show 0 ≤ n by omega)
    rw [Int.toNat_natCast] at E
    have hm : m ≤ s.size := by omega
    go_quiet ((go_at_call 24; exact Calls.quiet_of_same ((number_any _ _ (by unfold maxLen; rw [ByteArray.size_extract]; omega)).mono fun _ _ h => ⟨h.1, h.2.symm⟩)))
    go_wp2
    go_ret3
    rw [E.out]; exact ⟨rfl, _, rfl⟩
  · have h : n < 1 := by assumption
    go_ret3
    have e : tkFix s n = (0, ByteArray.empty, 1) := by unfold tkFix; rw [if_pos (Or.inl h)]
    rw [e]; exact ⟨rfl, 0, rfl⟩
set_option maxHeartbeats 400000 in
theorem refNumber_any (s : ByteArray) (w : World) (hs : s.size ≤ maxLen) :
    Calls Try.prog 25 #[.string s] w fun e w' => e = .returned (.int .i64 (bev s.data.toList)) ∧ w = w' := by
  unfold maxLen at hs
  go_enter Try.func25, Try.ntmps25
  go_wp2
  go_loop [3, 4] (fun n i => ∃ k : Nat, k ≤ s.size ∧ n = .int .i64 (bev (s.data.toList.take k)) ∧ i = .int .i64 k) (fun _ i => s.size - (intOf i).toNat)
  case atStart => exact ⟨0, Nat.zero_le _, rfl, rfl⟩
  case round =>
    obtain ⟨k, hk, rfl, rfl⟩ := hrel
    by_cases hlt : k < s.size
    · have hb := bev_snoc s k hlt
      have hm := mul_add_wrap (bev (s.data.toList.take k)) s[k]
      have hwb := wrap64_byte s[k]
      generalize bev (s.data.toList.take k) = n at *
      have HB := Kept.mk hb; clear hb
      have HM := Kept.mk hm; clear hm
      go_wp2
      refine ⟨⟨k + 1, by omega, ?_, by go_num⟩, by simp [intOf]; omega⟩
      rw [HB.out, ← HM.out]
    · go_wp2
      go_ret
      have : k = s.size := by omega
      subst this
      exact ⟨ret_int (by rw [take_all]), rfl⟩
set_option maxRecDepth 100000 in
set_option maxHeartbeats 1000000 in
theorem refTake_any (s : ByteArray) (n : Int) (w : World) (hs : s.size ≤ maxLen) :
    Calls Try.prog 21 #[.string s, .int .i64 n] w fun e w' => e = .returned (.tuple #[.int .i64 (tkFix s n).1, .string (tkFix s n).2.1, .int .i64 (tkFix s n).2.2]) ∧ Below w.heap.size w w' := by
  unfold maxLen at hs
  go_enter Try.func21, Try.ntmps21
  go_wp2_with fail
  · have h : n < 1 ∨ 8 < n := by assumption
    go_ret3
    have e : tkFix s n = (0, ByteArray.empty, 1) := by unfold tkFix; rw [if_pos h]
    rw [e]; exact ⟨rfl, Below.refl _ _⟩
  · have h : 1 ≤ n ∧ n ≤ 8 := by assumption
    have h2 : (s.size : Int) < n := by assumption
    go_ret3
    have e : tkFix s n = (0, ByteArray.empty, 2) := by unfold tkFix; rw [if_neg (by omega), if_pos h2]
    rw [e]; exact ⟨rfl, Below.refl _ _⟩
  · have h : 1 ≤ n ∧ n ≤ 8 := by assumption
    have h2 : n ≤ (s.size : Int) := by assumption
    have e : tkFix s n = (bev (s.extract 0 n.toNat).data.toList, s.extract n.toNat s.size, 0) := by unfold tkFix; rw [if_neg (by omega), if_neg (by omega)]
    have E := Kept.mk e; clear e
    obtain ⟨m, rfl⟩ := Int.eq_ofNat_of_zero_le (show 0 ≤ n by omega)
    rw [Int.toNat_natCast] at E
    have hm : m ≤ s.size := by omega
    go_quiet ((go_at_call 25; exact Calls.quiet_of_same ((refNumber_any _ _ (by unfold maxLen; rw [ByteArray.size_extract]; omega)).mono fun _ _ h => ⟨h.1, h.2.symm⟩)))
    go_wp2
    go_ret3
    rw [E.out]; exact ⟨rfl, below_drewN (Below.refl _ _) _⟩
  · have h : n < 1 := by assumption
    go_ret3
    have e : tkFix s n = (0, ByteArray.empty, 1) := by unfold tkFix; rw [if_pos (Or.inl h)]
    rw [e]; exact ⟨rfl, Below.refl _ _⟩
end Go.Proofs.Ytabeehljpdehcaa
