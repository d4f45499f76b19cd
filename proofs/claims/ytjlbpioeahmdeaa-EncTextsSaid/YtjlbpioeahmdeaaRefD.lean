/- The functions of the reference for layer 1: texts, fixed numbers, several numbers. -/
import Derived.Test.YtjlbpioeahmdeaaRefC
namespace Go.Proofs.Ytjlbpioeahmdeaa
set_option linter.unusedVariables false
open Go.RowKit Go.Lib
attribute [local irreducible] bev put wd beL str tkNum

set_option maxRecDepth 100000 in
set_option maxHeartbeats 1000000 in
theorem refTakeText_any (s : ByteArray) (most : Int) (w : World) (hs : s.size ≤ maxLen) :
    Calls Try.prog 17 #[.string s, .int .i64 most] w fun e w' => e = .returned (.tuple #[.string (tkText s most).1, .string (tkText s most).2.1, .int .i64 (tkText s most).2.2]) ∧ Below w.heap.size w w' := by
  go_enter Try.func17, Try.ntmps17
  go_wp2_with fail
  refine (refTakeNum_any s w hs).mono ?_
  rintro e w1 ⟨rfl, hb1⟩
  have hb : (tkNum s).2.1.size ≤ 9223372036854775807 := by have := tkNum_size s; unfold maxLen at hs; omega
  have ht : tkText s most = if (tkNum s).2.2 ≠ 0 then (ByteArray.empty, ByteArray.empty, (tkNum s).2.2) else if most < (tkNum s).1 then (ByteArray.empty, ByteArray.empty, 3)
      else if ((tkNum s).2.1.size : Int) < (tkNum s).1 then (ByteArray.empty, ByteArray.empty, 2) else ((tkNum s).2.1.extract 0 (tkNum s).1.toNat, (tkNum s).2.1.extract (tkNum s).1.toNat (tkNum s).2.1.size, 0) := rfl
  have h0 := tkNum_nonneg s
  generalize (tkNum s).1 = n at *
  generalize (tkNum s).2.1 = r at *
  generalize (tkNum s).2.2 = f at *
  have HT := Kept.mk ht; clear ht hs
  obtain ⟨m, rfl⟩ := Int.eq_ofNat_of_zero_le h0
  go_wp2
  · have h : (f != 0) = true := by assumption
    go_ret3
    rw [HT.out, if_pos (by simpa using h)]; exact ⟨rfl, hb1⟩
  · have h : (f != 0) = false := by assumption
    have h2 : most < (m : Int) := by assumption
    go_ret3
    rw [HT.out, if_neg (by simpa using h), if_pos h2]; exact ⟨rfl, hb1⟩
  · have h : (f != 0) = false := by assumption
    have h2 : (m : Int) ≤ most := by assumption
    have h3 : r.size < m := by assumption
    go_ret3
    rw [HT.out, if_neg (by simpa using h), if_neg (by omega), if_pos (by omega)]; exact ⟨rfl, hb1⟩
  · have h : (f != 0) = false := by assumption
    have h2 : (m : Int) ≤ most := by assumption
    have h3 : ¬ r.size < m := by assumption
    have hm : m ≤ r.size := by omega
    go_quiet (fail)
    go_wp2
    go_ret3
    rw [HT.out, if_neg (by simpa using h), if_neg (by omega), if_neg (by omega), Int.toNat_natCast]; exact ⟨rfl, below_drewN hb1 _⟩

set_option maxRecDepth 100000 in
set_option maxHeartbeats 1000000 in
theorem refTake_any (s : ByteArray) (n : Int) (w : World) (hs : s.size ≤ maxLen) :
    Calls Try.prog 22 #[.string s, .int .i64 n] w fun e w' => e = .returned (.tuple #[.int .i64 (tkFix s n).1, .string (tkFix s n).2.1, .int .i64 (tkFix s n).2.2]) ∧ Below w.heap.size w w' := by
  unfold maxLen at hs
  go_enter Try.func22, Try.ntmps22
  go_wp2_with fail
  · have h : n < 1 ∨ 8 < n := by assumption
    go_ret3
    have e : tkFix s n = (0, ByteArray.empty, 1) := by unfold tkFix; rw [if_pos h]
    rw [e]; exact ⟨rfl, Below.refl _ _⟩
  · have h : 1 ≤ n ∧ n ≤ 8 := by assumption
    have h2 : (s.size : Int) < n := by assumption
    go_ret3
    have e : tkFix s n = (0, ByteArray.empty, 2) := by unfold tkFix; rw [if_neg (by omega), if_pos h2]
    rw [e]; exact ⟨rfl, Below.refl _ _⟩
  · have h : 1 ≤ n ∧ n ≤ 8 := by assumption
    have h2 : n ≤ (s.size : Int) := by assumption
    have e : tkFix s n = (bev (s.extract 0 n.toNat).data.toList, s.extract n.toNat s.size, 0) := by unfold tkFix; rw [if_neg (by omega), if_neg (by omega)]
    have E := Kept.mk e; clear e
    obtain ⟨m, rfl⟩ := Int.eq_ofNat_of_zero_le (show 0 ≤ n by omega)
    rw [Int.toNat_natCast] at E
    have hm : m ≤ s.size := by omega
    go_quiet ((go_at_call 26; exact Calls.quiet_of_same ((refNumber_any _ _ (by unfold maxLen; rw [ByteArray.size_extract]; omega)).mono fun _ _ h => ⟨h.1, h.2.symm⟩)))
    go_wp2
    go_ret3
    rw [E.out]; exact ⟨rfl, below_drewN (Below.refl _ _) _⟩
  · have h : n < 1 := by assumption
    go_ret3
    have e : tkFix s n = (0, ByteArray.empty, 1) := by unfold tkFix; rw [if_pos (Or.inl h)]
    rw [e]; exact ⟨rfl, Below.refl _ _⟩

/-- how many bytes there are of so many -/
def fixLen (b : Int) : Nat := if b < 0 then 0 else if 8 < b then 8 else b.toNat
theorem fixLen_le (b : Int) : fixLen b ≤ 8 := by unfold fixLen; (repeat' split) <;> omega

set_option maxHeartbeats 400000 in
theorem refFixed_any (n b : Int) (w : World) (h0 : -9223372036854775808 ≤ n) (h1 : n ≤ 9223372036854775807) :
    Calls Try.prog 23 #[.int .i64 n, .int .i64 b] w fun e w' => e = .returned (.string (str (beL (fixLen b) n))) ∧ Below w.heap.size w w' := by
  by_cases hb : b < 0
  · have h : fixLen b = 0 := by unfold fixLen; rw [if_pos hb]
    rw [h]
    have hn : b ≤ 8 := by omega
    go_enter Try.func23, Try.ntmps23
    go_wp2_with fail
    refine (refBytes_any n 0 _ (by omega) h0 h1).mono ?_
    rintro e w1 ⟨rfl, hb1⟩
    go_wp2
    go_ret
    exact ⟨rfl, hb1⟩
  by_cases hc : 8 < b
  · have h : fixLen b = 8 := by unfold fixLen; rw [if_neg hb, if_pos hc]
    rw [h]
    go_enter Try.func23, Try.ntmps23
    go_wp2_with fail
    refine (refBytes_any n 8 _ (by omega) h0 h1).mono ?_
    rintro e w1 ⟨rfl, hb1⟩
    go_wp2
    go_ret
    exact ⟨rfl, hb1⟩
  · obtain ⟨m, rfl⟩ := Int.eq_ofNat_of_zero_le (show 0 ≤ b by omega)
    have h : fixLen (m : Int) = m := by unfold fixLen; rw [if_neg hb, if_neg hc]; omega
    rw [h]
    go_enter Try.func23, Try.ntmps23
    go_wp2_with fail
    refine (refBytes_any n m _ (by omega) h0 h1).mono ?_
    rintro e w1 ⟨rfl, hb1⟩
    go_wp2
    go_ret
    exact ⟨rfl, hb1⟩

/-- a text as it is laid -/
def putText (s : ByteArray) : ByteArray := str (put s.size) ++ s

set_option maxHeartbeats 400000 in
theorem refPutText_any (s : ByteArray) (w : World) (hs : s.size ≤ 4611686018427387904) :
    Calls Try.prog 19 #[.string s] w fun e w' => e = .returned (.string (putText s)) ∧ Below w.heap.size w w' := by
  have hz := put_size s.size
  go_enter Try.func19, Try.ntmps19
  go_wp2_with fail
  refine (refPut_any _ _).mono ?_
  rintro e w1 ⟨rfl, hb1⟩
  go_wp2
  go_ret
  exact ⟨rfl, hb1⟩

/-- numbers, one behind the other -/
def putAll (l : List Int) : List UInt8 := l.flatMap put
theorem putAll_snoc (l : List Int) (n : Int) : putAll (l ++ [n]) = putAll l ++ put n := by
  unfold putAll; simp
theorem putAll_length (l : List Int) : (putAll l).length ≤ 8 * l.length := by
  induction l with
  | nil => simp [putAll]
  | cons n r ih =>
    have := (put_length n).2
    unfold putAll at *
    simp only [List.flatMap_cons, List.length_append, List.length_cons]
    omega

set_option maxHeartbeats 400000 in
theorem refPutAll_any (A : Option Addr) (c : Nat) (zs : List Int) (w : World) (hl : zs.length ≤ 1000) (hr : RowAt w A (ints zs)) :
    Calls Try.prog 11 #[.slice A zs.length c] w fun e w' => e = .returned (.string (str (putAll zs))) ∧ Below w.heap.size w w' := by
  go_enter Try.func11, Try.ntmps11
  go_wp2
  go_loopw [3, 4] (fun s i wr => ∃ k : Nat, k ≤ zs.length ∧ s = .string (str (putAll (zs.take k))) ∧ i = .int .i64 k ∧ Below w.heap.size w wr) (fun _ i _ => zs.length - (intOf i).toNat)
  case atStart => exact ⟨0, Nat.zero_le _, by simp [putAll, str], rfl, Below.refl _ _⟩
  case round =>
    obtain ⟨k, hk, rfl, rfl, hb⟩ := hrel
    by_cases hlt : k < zs.length
    · obtain ⟨ad, rfl, had, hc⟩ := (hr.below hb).get (k := k) (by rw [ints_length]; exact hlt)
      simp only [ints, List.getElem_map] at hc
      have hs := putAll_snoc (zs.take k) zs[k]
      rw [← List.take_succ_eq_append_getElem hlt] at hs
      have hz := put_size zs[k]
      have hz2 : (str (putAll (zs.take k))).size ≤ 8000 := by
        have h1 := putAll_length (zs.take k)
        have h2 : (zs.take k).length ≤ k := List.length_take_le _ _
        rw [str_size]; omega
      have HS := Kept.mk hs; clear hs
      generalize zs[k] = z at *
      go_wp2_with fail
      refine (refPut_any _ _).mono ?_
      rintro e w1 ⟨rfl, hb1⟩
      go_wp2
      rw [str_append, ← HS.out]
      exact ⟨⟨k + 1, by omega, rfl, by go_num, below_two hb hb1 hb.size⟩, by simp [intOf]; omega⟩
    · go_wp2
      go_ret
      have : k = zs.length := by omega
      subst this
      exact ⟨ret_str (by rw [List.take_length]), hb⟩
end Go.Proofs.Ytjlbpioeahmdeaa
