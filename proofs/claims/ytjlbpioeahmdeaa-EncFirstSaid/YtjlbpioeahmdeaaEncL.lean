/- The laws of layer 1, each walked by the contracts. -/
import Derived.Test.YtjlbpioeahmdeaaEncE
import Derived.Test.YtjlbpioeahmdeaaEncN
namespace Go.Proofs.Ytjlbpioeahmdeaa
set_option linter.unusedVariables false
open Go.RowKit Go.Lib
attribute [local irreducible] bev put wd str tkNum beL putAll putText fixLen tkText tkFix

theorem tkNum_err (s : ByteArray) : 0 ≤ (tkNum s).2.2 ∧ (tkNum s).2.2 ≤ 3 := by
  rcases tkNum_only s with h | ⟨h, _⟩ <;> rw [h] <;> decide

set_option maxRecDepth 100000 in
set_option maxHeartbeats 1000000 in
theorem encTakes_walk (s : ByteArray) (hs : s.size ≤ maxLen) (_zs : s.size ≤ 140737488351232) (w : World) :
    Calls Try.prog 4 #[.string s] w fun e w' => e = .returned (.bool true) ∧ Below w.heap.size w w' := by
  go_enter Try.func4, Try.ntmps4
  go_wp2_with fail
  refine (takeNum_b s _ hs).mono ?_
  rintro e w1 ⟨rfl, hb1⟩
  go_wp2_with fail
  refine (refTakeNum_any s _ hs).mono ?_
  rintro e w2 ⟨rfl, hb2⟩
  have hb2 := hb1.trans (hb2.mono hb1.size)
  clear hb1
  obtain ⟨he0, he1⟩ := tkNum_err s
  generalize (tkNum s).1 = n at *
  generalize (tkNum s).2.1 = r at *
  generalize (tkNum s).2.2 = f at *
  go_wp2_with fail
  refine (awake_any _).mono ?_
  rintro e w3 ⟨rfl, hb3⟩
  go_wp2
  go_ret
  exact ⟨rfl, hb2.trans (hb3.mono hb2.size)⟩

set_option maxRecDepth 100000 in
set_option maxHeartbeats 1000000 in
theorem encOnly_walk (s : ByteArray) (hs : s.size ≤ maxLen) (_zs : s.size ≤ 140737488351232) (w : World) :
    Calls Try.prog 6 #[.string s] w fun e w' => e = .returned (.bool true) ∧ Below w.heap.size w w' := by
  have hsz : s.size ≤ 9223372036854775807 := hs
  rcases tkNum_only s with ht | ⟨ht, h0, h1, h2⟩
  · go_enter Try.func6, Try.ntmps6
    go_wp2_with fail
    refine (takeNum_b s _ hs).mono ?_
    rintro e w1 ⟨rfl, hb1⟩
    rw [ht]
    clear ht
    go_wp2_with fail
    refine (awake_any _).mono ?_
    rintro e w3 ⟨rfl, hb3⟩
    go_wp2
    go_ret
    exact ⟨rfl, hb1.trans (hb3.mono hb1.size)⟩
  · have hz : (str (put (tkNum s).1)).size + (tkNum s).2.1.size ≤ 9223372036854775807 := by
      have := congrArg ByteArray.size h2
      rw [ByteArray.size_append] at this
      omega
    go_enter Try.func6, Try.ntmps6
    go_wp2_with fail
    refine (takeNum_b s _ hs).mono ?_
    rintro e w1 ⟨rfl, hb1⟩
    rw [ht]
    clear ht
    have H2 := Kept.mk h2; clear h2
    generalize (tkNum s).1 = n at *
    generalize (tkNum s).2.1 = r at *
    go_wp2_with fail
    refine (putNum_one n _).mono ?_
    rintro e w2 ⟨rfl, hb2⟩
    have hb2 := hb1.trans (hb2.mono hb1.size)
    clear hb1
    have h2 := H2.out
    go_wp2_with fail
    refine (awake_any _).mono ?_
    rintro e w3 ⟨rfl, hb3⟩
    go_wp2
    go_ret
    exact ⟨rfl, hb2.trans (hb3.mono hb2.size)⟩

set_option maxRecDepth 100000 in
set_option maxHeartbeats 1000000 in
theorem encBack_walk (n : Int) (s : ByteArray) (_hn : (Lit.int .i64 n).wf = true) (hs : s.size ≤ maxLen) (_zs : s.size ≤ 140737488351232) (w : World) :
    Calls Try.prog 5 #[.int .i64 n, .string s] w fun e w' => e = .returned (.bool true) ∧ Below w.heap.size w w' := by
  have hz := put_size n
  by_cases hc : n < 0 ∨ 72057594037927935 < n ∨ 100000 < (s.size : Int)
  · go_enter Try.func5, Try.ntmps5
    go_wp2_with fail
    all_goals
      refine (awake_any _).mono ?_
      rintro e w9 ⟨rfl, hb9⟩
      go_wp2
      go_ret
      exact ⟨rfl, hb9⟩
  · have ht := tkNum_put n (by omega) (by omega) s.data.toList
    rw [← str_append, str_eta] at ht
    have HT := Kept.mk ht; clear ht
    have h0 : 0 ≤ n := by omega
    have h1 : n ≤ 72057594037927935 := by omega
    have h2 : (s.size : Int) ≤ 100000 := by omega
    clear hc
    go_enter Try.func5, Try.ntmps5
    go_wp2_with fail
    refine (putNum_one n _).mono ?_
    rintro e w1 ⟨rfl, hb1⟩
    have hz2 : (str (put n) ++ s).size ≤ 100008 := by rw [ByteArray.size_append]; omega
    go_wp2_with fail
    refine (takeNum_b _ _ (by unfold maxLen; omega)).mono ?_
    rintro e w2 ⟨rfl, hb2⟩
    have hb2 := hb1.trans (hb2.mono hb1.size)
    clear hb1
    rw [HT.out]
    go_wp2_with fail
    refine (awake_any _).mono ?_
    rintro e w3 ⟨rfl, hb3⟩
    go_wp2
    go_ret
    exact ⟨rfl, hb2.trans (hb3.mono hb2.size)⟩

theorem take_ne (n m : Int) (h : put n ≠ put m) (hl : (str (put n)).size ≤ (str (put m)).size) : (((str (put m)).extract 0 (str (put n)).size).toList == (str (put n)).toList) = false := by
  rw [str_size, str_size] at hl
  rw [bytes_beq_false_iff, str_extract, str_size]
  intro e
  have e2 := str_inj e
  simp only [List.drop_zero, Nat.sub_zero] at e2
  exact h (put_first n m hl e2)

set_option maxRecDepth 100000 in
set_option maxHeartbeats 1000000 in
theorem encFirst_walk (n m : Int) (_hn : (Lit.int .i64 n).wf = true) (_hm : (Lit.int .i64 m).wf = true) (w : World) :
    Calls Try.prog 7 #[.int .i64 n, .int .i64 m] w fun e w' => e = .returned (.bool true) ∧ Below w.heap.size w w' := by
  have hz := put_size n
  have hz2 := put_size m
  have hpn : 1 ≤ (str (put n)).size := by rw [str_size]; exact (put_length n).1
  have hpm : 1 ≤ (str (put m)).size := by rw [str_size]; exact (put_length m).1
  by_cases he : put n = put m
  · have hq : ((str (put n)).toList == (str (put m)).toList) = true := by rw [he]; exact beq_self_eq_true _
    clear he
    go_enter Try.func7, Try.ntmps7
    go_wp2_with fail
    refine (putNum_one n _).mono ?_
    rintro e w1 ⟨rfl, hb1⟩
    go_wp2_with fail
    refine (putNum_one m _).mono ?_
    rintro e w2 ⟨rfl, hb2⟩
    have hb2 := hb1.trans (hb2.mono hb1.size)
    clear hb1
    go_wp2_with fail
    refine (refPut_any n _).mono ?_
    rintro e w3 ⟨rfl, hb3⟩
    have hb3 := hb2.trans (hb3.mono hb2.size)
    clear hb2
    go_wp2_with fail
    refine (refPut_any m _).mono ?_
    rintro e w4 ⟨rfl, hb4⟩
    have hb4 := hb3.trans (hb4.mono hb3.size)
    clear hb3
    go_wp2_with fail
    refine (awake_any _).mono ?_
    rintro e w5 ⟨rfl, hb5⟩
    go_wp2
    go_ret
    exact ⟨rfl, hb4.trans (hb5.mono hb4.size)⟩
  · have hq : ((str (put n)).toList == (str (put m)).toList) = false := by rw [bytes_beq_false_iff]; exact fun h => he (str_inj h)
    by_cases hl : (str (put m)).size < (str (put n)).size
    · have hne := take_ne m n (fun h => he h.symm) (Nat.le_of_lt hl)
      have HN := Kept.mk hne; clear hne he
      go_enter Try.func7, Try.ntmps7
      go_wp2_with fail
      refine (putNum_one n _).mono ?_
      rintro e w1 ⟨rfl, hb1⟩
      go_wp2_with fail
      refine (putNum_one m _).mono ?_
      rintro e w2 ⟨rfl, hb2⟩
      have hb2 := hb1.trans (hb2.mono hb1.size)
      clear hb1
      go_wp2_with fail
      refine (refPut_any n _).mono ?_
      rintro e w3 ⟨rfl, hb3⟩
      have hb3 := hb2.trans (hb3.mono hb2.size)
      clear hb2
      go_wp2_with fail
      refine (refPut_any m _).mono ?_
      rintro e w4 ⟨rfl, hb4⟩
      have hb4 := hb3.trans (hb4.mono hb3.size)
      clear hb3
      have hne := HN.out
      go_wp2_with fail
      refine (awake_any _).mono ?_
      rintro e w5 ⟨rfl, hb5⟩
      go_wp2
      go_ret
      exact ⟨rfl, hb4.trans (hb5.mono hb4.size)⟩
    · have hl2 : (str (put n)).size ≤ (str (put m)).size := by omega
      have hne := take_ne n m he hl2
      have HN := Kept.mk hne; clear hne he
      go_enter Try.func7, Try.ntmps7
      go_wp2_with fail
      refine (putNum_one n _).mono ?_
      rintro e w1 ⟨rfl, hb1⟩
      go_wp2_with fail
      refine (putNum_one m _).mono ?_
      rintro e w2 ⟨rfl, hb2⟩
      have hb2 := hb1.trans (hb2.mono hb1.size)
      clear hb1
      go_wp2_with fail
      refine (refPut_any n _).mono ?_
      rintro e w3 ⟨rfl, hb3⟩
      have hb3 := hb2.trans (hb3.mono hb2.size)
      clear hb2
      go_wp2_with fail
      refine (refPut_any m _).mono ?_
      rintro e w4 ⟨rfl, hb4⟩
      have hb4 := hb3.trans (hb4.mono hb3.size)
      clear hb3
      have hne := HN.out
      go_wp2_with fail
      refine (awake_any _).mono ?_
      rintro e w5 ⟨rfl, hb5⟩
      go_wp2
      go_ret
      exact ⟨rfl, hb4.trans (hb5.mono hb4.size)⟩

theorem tkText_err (s : ByteArray) (most : Int) : 0 ≤ (tkText s most).2.2 ∧ (tkText s most).2.2 ≤ 3 := by
  have h := tkNum_err s
  unfold tkText
  dsimp only
  (repeat' split) <;> dsimp only <;> omega
theorem putText_size (s : ByteArray) : (putText s).size ≤ 8 + s.size := by
  unfold putText
  rw [ByteArray.size_append]
  have := put_size s.size
  omega

set_option maxRecDepth 100000 in
set_option maxHeartbeats 1000000 in
theorem encTexts_walk (s b : ByteArray) (most : Int) (hs : s.size ≤ maxLen) (zs : s.size ≤ 140737488351232) (_hb : b.size ≤ maxLen) (zb : b.size ≤ 140737488351232) (_hm : (Lit.int .i64 most).wf = true) (w : World) :
    Calls Try.prog 8 #[.string s, .string b, .int .i64 most] w fun e w' => e = .returned (.bool true) ∧ Below w.heap.size w w' := by
  by_cases hc : 100000 < (s.size : Int) + b.size
  · go_enter Try.func8, Try.ntmps8
    go_wp2_with fail
    refine (awake_any _).mono ?_
    rintro e w9 ⟨rfl, hb9⟩
    go_wp2
    go_ret
    exact ⟨rfl, hb9⟩
  · have h1 : (s.size : Int) + b.size ≤ 100000 := by omega
    clear hc
    have ht := tkText_put s b most (by omega)
    have hz := putText_size s
    have hz2 : (putText s ++ b).size ≤ 100008 := by rw [ByteArray.size_append]; omega
    obtain ⟨he0, he1⟩ := tkText_err s most
    by_cases hlt : most < (s.size : Int)
    all_goals
      first | rw [if_pos hlt] at ht | rw [if_neg hlt] at ht
      have HT := Kept.mk ht; clear ht
      go_enter Try.func8, Try.ntmps8
      go_wp2_with fail
      refine (takeText_b s most _ hs).mono ?_
      rintro e w1 ⟨rfl, hb1⟩
      go_wp2_with fail
      refine (refTakeText_any s most _ hs).mono ?_
      rintro e w2 ⟨rfl, hb2⟩
      have hb2 := hb1.trans (hb2.mono hb1.size)
      clear hb1
      generalize (tkText s most).1 = n at *
      generalize (tkText s most).2.1 = r at *
      generalize (tkText s most).2.2 = f at *
      go_wp2_with fail
      refine (putText_any s _ (by omega)).mono ?_
      rintro e w3 ⟨rfl, hb3⟩
      have hb3 := hb2.trans (hb3.mono hb2.size)
      clear hb2
      go_wp2_with fail
      refine (takeText_b _ most _ (by unfold maxLen; omega)).mono ?_
      rintro e w4 ⟨rfl, hb4⟩
      have hb4 := hb3.trans (hb4.mono hb3.size)
      clear hb3
      rw [HT.out]
      go_wp2_with fail
      refine (putText_any s _ (by omega)).mono ?_
      rintro e w5 ⟨rfl, hb5⟩
      have hb5 := hb4.trans (hb5.mono hb4.size)
      clear hb4
      go_wp2_with fail
      refine (refPutText_any s _ (by omega)).mono ?_
      rintro e w6 ⟨rfl, hb6⟩
      have hb6 := hb5.trans (hb6.mono hb5.size)
      clear hb5
      go_wp2_with fail
      refine (awake_any _).mono ?_
      rintro e w7 ⟨rfl, hb7⟩
      go_wp2
      go_ret
      exact ⟨rfl, hb6.trans (hb7.mono hb6.size)⟩

theorem refFixed_nat (n : Int) (m : Nat) (w : World) (hm : m ≤ 8) (h0 : -9223372036854775808 ≤ n) (h1 : n ≤ 9223372036854775807) :
    Calls Try.prog 23 #[.int .i64 n, .int .i64 (m : Int)] w fun e w' => e = .returned (.string (str (beL m n))) ∧ Below w.heap.size w w' := by
  have h := refFixed_any n m w h0 h1
  rwa [fixLen_of m hm] at h
theorem tkFix_err (s : ByteArray) (n : Int) : 0 ≤ (tkFix s n).2.2 ∧ (tkFix s n).2.2 ≤ 3 := by
  unfold tkFix
  (repeat' split) <;> dsimp only <;> omega
theorem beS_size (k : Nat) (n : Int) : (str (beL k n)).size = k := by rw [str_size, beL_length]
theorem tkFix_num (s : ByteArray) (n : Int) : -9223372036854775808 ≤ (tkFix s n).1 ∧ (tkFix s n).1 ≤ 9223372036854775807 := by
  unfold tkFix
  (repeat' split) <;> dsimp only
  · omega
  · omega
  · exact bev_range64 _
theorem wf_i64 {n : Int} (h : (Lit.int .i64 n).wf = true) : -9223372036854775808 ≤ n ∧ n ≤ 9223372036854775807 := bounds_i64 h

set_option maxRecDepth 100000 in
set_option maxHeartbeats 1000000 in
theorem encFixed_walk (n b : Int) (s : ByteArray) (hn : (Lit.int .i64 n).wf = true) (_hb : (Lit.int .i64 b).wf = true) (hs : s.size ≤ maxLen) (_zs : s.size ≤ 140737488351232) (w : World) :
    Calls Try.prog 9 #[.int .i64 n, .int .i64 b, .string s] w fun e w' => e = .returned (.bool true) ∧ Below w.heap.size w w' := by
  obtain ⟨n0, n1⟩ := wf_i64 hn
  obtain ⟨he0, he1⟩ := tkFix_err s b
  have hz := fixLen_le b
  have hz2 := beS_size (fixLen b) n
  by_cases hc : b < 1 ∨ 8 < b ∨ 100000 < (s.size : Int)
  · go_enter Try.func9, Try.ntmps9
    go_wp2_with fail
    refine (fixed_any n b _ n0 n1).mono ?_
    rintro e w1 ⟨rfl, hb1⟩
    go_wp2_with fail
    refine (take_b s b _ hs).mono ?_
    rintro e w2 ⟨rfl, hb2⟩
    have hb2 := hb1.trans (hb2.mono hb1.size)
    clear hb1
    go_wp2_with fail
    refine (refTake_any s b _ hs).mono ?_
    rintro e w3 ⟨rfl, hb3⟩
    have hb3 := hb2.trans (hb3.mono hb2.size)
    clear hb2
    generalize (tkFix s b).1 = x at *
    generalize (tkFix s b).2.1 = r at *
    generalize (tkFix s b).2.2 = f at *
    go_wp2_with fail
    refine (refFixed_any n b _ n0 n1).mono ?_
    rintro e w4 ⟨rfl, hb4⟩
    have hb4 := hb3.trans (hb4.mono hb3.size)
    clear hb3
    clear hz2
    go_wp2_with fail
    all_goals
      refine (awake_any _).mono ?_
      rintro e w5 ⟨rfl, hb5⟩
      go_wp2
      go_ret
      exact ⟨rfl, hb4.trans (hb5.mono hb4.size)⟩
  · obtain ⟨k, rfl⟩ := Int.eq_ofNat_of_zero_le (show 0 ≤ b by omega)
    have hk1 : 1 ≤ k := by omega
    have hk8 : k ≤ 8 := by omega
    have hs1 : (s.size : Int) ≤ 100000 := by omega
    clear hc
    rw [fixLen_of k hk8] at hz hz2
    have ht := tkFix_back n k s hk1 hk8
    have hd := beL_wrap k n hk8
    have hr := wrap64_range (n % 256 ^ k)
    have h8 : k = 8 → wrap64 (n % 256 ^ k) = n := fun h => by rw [h]; exact fix_eight n n0 n1
    generalize wrap64 (n % 256 ^ k) = d at *
    have HT := Kept.mk ht; clear ht
    have HD := Kept.mk hd; clear hd
    have hz3 : (str (beL k n) ++ s).size ≤ 100008 := by rw [ByteArray.size_append, hz2]; omega
    have hz4 : (str (beL k n)).size ≤ 8 := by omega
    clear hz2
    obtain ⟨hr0, hr1⟩ := hr
    obtain ⟨hx, hxe⟩ : ∃ q : Bool, ((k : Int) < 8 ∧ q = true) ∨ (8 ≤ (k : Int) ∧ d = n) := by
      by_cases h : k < 8
      · exact ⟨true, Or.inl ⟨by omega, rfl⟩⟩
      · exact ⟨true, Or.inr ⟨by omega, h8 (by omega)⟩⟩
    clear h8
    rcases hxe with ⟨hq, _⟩ | ⟨hq, rfl⟩
    all_goals
      go_enter Try.func9, Try.ntmps9
      go_wp2_with fail
      refine (fixed_nat _ k _ hk8 n0 n1).mono ?_
      rintro e w1 ⟨rfl, hb1⟩
      go_wp2_with fail
      refine (take_b s k _ hs).mono ?_
      rintro e w2 ⟨rfl, hb2⟩
      have hb2 := hb1.trans (hb2.mono hb1.size)
      clear hb1
      go_wp2_with fail
      refine (refTake_any s k _ hs).mono ?_
      rintro e w3 ⟨rfl, hb3⟩
      have hb3 := hb2.trans (hb3.mono hb2.size)
      clear hb2
      generalize (tkFix s k).1 = x at *
      generalize (tkFix s k).2.1 = r at *
      generalize (tkFix s k).2.2 = f at *
      go_wp2_with fail
      refine (refFixed_nat _ k _ hk8 n0 n1).mono ?_
      rintro e w4 ⟨rfl, hb4⟩
      have hb4 := hb3.trans (hb4.mono hb3.size)
      clear hb3
      go_wp2_with fail
      refine (take_b _ k _ (by unfold maxLen; omega)).mono ?_
      rintro e w5 ⟨rfl, hb5⟩
      have hb5 := hb4.trans (hb5.mono hb4.size)
      clear hb4
      rw [HT.out]
      go_wp2_with fail
      refine (fixed_nat _ k _ hk8 hr0 hr1).mono ?_
      rintro e w6 ⟨rfl, hb6⟩
      have hb6 := hb5.trans (hb6.mono hb5.size)
      clear hb5
      try rw [HD.out]
      go_wp2_with fail
      refine (awake_any _).mono ?_
      rintro e w7 ⟨rfl, hb7⟩
      go_wp2
      go_ret
      exact ⟨rfl, hb6.trans (hb7.mono hb6.size)⟩

set_option maxRecDepth 100000 in
set_option maxHeartbeats 1000000 in
theorem encPuts_walk (A : Option Addr) (len cap : Nat) (zs : List Int) (w : World) (hl : len ≤ cap) (hz : len ≤ zs.length) (hc : cap ≤ maxLen) (hr : RowAt w A (ints zs)) :
    Calls Try.prog 3 #[.slice A len cap] w fun e w' => e = .returned (.bool true) ∧ Below w.heap.size w w' := by
  unfold maxLen at hc
  by_cases h : 1000 < len
  · obtain ⟨ad, rfl, _, _⟩ := hr (by rw [ints_length]; omega)
    have hr2 := hr.take 1000
    rw [ints_take] at hr2
    have hlen : (zs.take 1000).length = 1000 := by rw [List.length_take]; omega
    generalize zs.take 1000 = l at *
    have HL := Kept.mk hlen; clear hlen
    go_enter Try.func3, Try.ntmps3
    go_wp2_with fail
    have h1 := putNum_any (some ad) cap l w (by have := HL.out; omega) hr2
    rw [HL.out] at h1
    refine h1.mono ?_
    rintro e w1 ⟨rfl, hb1⟩
    clear h1
    go_wp2_with fail
    have h1 := refPutAll_any (some ad) cap l w1 (by have := HL.out; omega) (hr2.below hb1)
    rw [HL.out] at h1
    refine h1.mono ?_
    rintro e w2 ⟨rfl, hb2⟩
    clear h1
    have hb2 := hb1.trans (hb2.mono hb1.size)
    clear hb1
    go_wp2_with fail
    refine (awake_any _).mono ?_
    rintro e w3 ⟨rfl, hb3⟩
    go_wp2
    go_ret
    exact ⟨rfl, hb2.trans (hb3.mono hb2.size)⟩
  · have hr2 := hr.take len
    rw [ints_take] at hr2
    have hlen : (zs.take len).length = len := by rw [List.length_take]; omega
    generalize zs.take len = l at *
    subst hlen
    have h2 : (l.length : Int) ≤ 1000 := by omega
    go_enter Try.func3, Try.ntmps3
    go_wp2_with fail
    refine (putNum_any A cap l _ (by omega) hr2).mono ?_
    rintro e w1 ⟨rfl, hb1⟩
    go_wp2_with fail
    refine (refPutAll_any A cap l _ (by omega) (hr2.below hb1)).mono ?_
    rintro e w2 ⟨rfl, hb2⟩
    have hb2 := hb1.trans (hb2.mono hb1.size)
    clear hb1
    go_wp2_with fail
    refine (awake_any _).mono ?_
    rintro e w3 ⟨rfl, hb3⟩
    go_wp2
    go_ret
    exact ⟨rfl, hb2.trans (hb3.mono hb2.size)⟩

end Go.Proofs.Ytjlbpioeahmdeaa
