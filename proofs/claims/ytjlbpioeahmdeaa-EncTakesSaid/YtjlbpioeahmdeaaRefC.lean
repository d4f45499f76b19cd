/- The functions of the reference for layer 1: those that read. -/
import Derived.Test.YtjlbpioeahmdeaaEncM
import Derived.Test.YtjlbpioeahmdeaaEncB
import Derived.Deep.RegionWith
import Derived.Lib.SlicesS
namespace Go.Proofs.Ytjlbpioeahmdeaa
set_option linter.unusedVariables false
open Go.RowKit Go.Lib

theorem mul_add_wrap (n : Int) (c : UInt8) : wrap64 (wrap64 (n * 256) + (c.toNat : Int)) = wrap64 (n * 256 + c.toNat) := by
  unfold wrap64; omega
theorem bev_range64 (l : List UInt8) : -9223372036854775808 ≤ bev l ∧ bev l ≤ 9223372036854775807 := by
  have : ∀ (l : List UInt8) (n : Int), (-9223372036854775808 ≤ n ∧ n ≤ 9223372036854775807) → -9223372036854775808 ≤ l.foldl (fun n c => wrap64 (n * 256 + c.toNat)) n ∧ l.foldl (fun n c => wrap64 (n * 256 + c.toNat)) n ≤ 9223372036854775807 := by
    intro l
    induction l with
    | nil => intro n h; exact h
    | cons c r ih => intro n _; exact ih _ (wrap64_range _)
  exact this l 0 (by omega)

set_option maxHeartbeats 400000 in
theorem refNumber_any (s : ByteArray) (w : World) (hs : s.size ≤ maxLen) :
    Calls Try.prog 26 #[.string s] w fun e w' => e = .returned (.int .i64 (bev s.data.toList)) ∧ w = w' := by
  unfold maxLen at hs
  go_enter Try.func26, Try.ntmps26
  go_wp2
  go_loop [3, 4] (fun n i => ∃ k : Nat, k ≤ s.size ∧ n = .int .i64 (bev (s.data.toList.take k)) ∧ i = .int .i64 k) (fun _ i => s.size - (intOf i).toNat)
  case atStart => exact ⟨0, Nat.zero_le _, rfl, rfl⟩
  case round =>
    obtain ⟨k, hk, rfl, rfl⟩ := hrel
    by_cases hlt : k < s.size
    · have hb := bev_snoc s k hlt
      have hm := mul_add_wrap (bev (s.data.toList.take k)) s[k]
      have hwb := wrap64_byte s[k]
      generalize bev (s.data.toList.take k) = n at *
      have HB := Kept.mk hb; clear hb
      have HM := Kept.mk hm; clear hm
      go_wp2
      refine ⟨⟨k + 1, by omega, ?_, by go_num⟩, by simp [intOf]; omega⟩
      rw [HB.out, ← HM.out]
    · go_wp2
      go_ret
      have : k = s.size := by omega
      subst this
      exact ⟨ret_int (by rw [take_all]), rfl⟩

theorem put_size (n : Int) : (str (put n)).size ≤ 8 := (put_length n).2
theorem extract_list (s : ByteArray) (a b : Nat) : (s.extract a b).data.toList = (s.data.toList.drop a).take (b - a) := by
  rw [ByteArray.data_extract, Array.toList_extract, List.extract]
theorem str_eq_iff (a : List UInt8) (s : ByteArray) : str a = s ↔ a = s.data.toList :=
  ⟨fun h => by rw [← h]; rfl, fun h => by rw [h, str_eta]⟩
theorem list_cons (s : ByteArray) (h : 0 < s.size) : s.data.toList = s[0] :: s.data.toList.drop 1 := by
  have : s.data.toList ≠ [] := by
    intro e
    have := congrArg List.length e
    rw [Array.length_toList] at this
    simp only [List.length_nil] at this
    have e2 : s.size = s.data.size := rfl
    omega
  cases hs : s.data.toList with
  | nil => exact absurd hs this
  | cons a b =>
    have h2 : s.data.toList[0]? = some s[0] := by
      rw [Array.getElem?_toList]; exact Array.getElem?_eq_getElem h
    rw [hs] at h2
    simp at h2
    rw [h2]; rfl
theorem put_ne (s : ByteArray) (w : Nat) (hw : w ≤ 7) (hs : 1 + w ≤ s.size) (h0 : 0 < s.size) (hc : (s[0].toNat : Int) = 247 + w) :
    (!((str (put (bev (s.extract 1 (1 + w)).data.toList))).toList == (s.extract 0 (1 + w)).toList)) = decide (bev (s.extract 1 (1 + w)).data.toList ≤ 247 ∨ (wd (bev (s.extract 1 (1 + w)).data.toList) : Int) ≠ w) := by
  have hl : (s.extract 1 (1 + w)).data.toList.length = w := by
    rw [Array.length_toList]; show (s.extract 1 (1 + w)).size = w; rw [ByteArray.size_extract]; omega
  have ht := put_test (s.extract 1 (1 + w)).data.toList s[0] w hw hl hc
  have he : (s.extract 0 (1 + w)).data.toList = s[0] :: (s.extract 1 (1 + w)).data.toList := by
    rw [extract_list, extract_list, List.drop_zero, Nat.sub_zero, Nat.add_comm 1 w, list_cons s h0, List.take_succ_cons]
    rfl
  rw [Bool.eq_iff_iff, Bool.not_eq_true', bytes_beq_false_iff, decide_eq_true_iff, Ne, str_eq_iff, he, ht, Classical.not_not]

theorem tkNum_mid (s : ByteArray) (hp : 0 < s.size) (h1 : s[0].toNat ≠ 255) (h2 : ¬ (s[0].toNat : Int) < 248) (h3 : ¬ (s.size : Int) < (1 : Int) + ((s[0].toNat : Int) - (247 : Int))) :
    tkNum s = if bev (s.extract 1 (1 + (s[0].toNat - 247))).data.toList ≤ 247 ∨ (wd (bev (s.extract 1 (1 + (s[0].toNat - 247))).data.toList) : Int) ≠ ((s[0].toNat - 247 : Nat) : Int) then ((0 : Int), ByteArray.empty, (2 : Int))
    else (bev (s.extract 1 (1 + (s[0].toNat - 247))).data.toList, s.extract (1 + (s[0].toNat - 247)) s.size, 0) := by
  have hc := byte_range s[0]
  rw [tkNum_long hp ⟨List.isEmpty_eq_false_iff.2 (fun h => by have := toList_nil h; omega), by omega⟩ (by omega) (by omega)]
  rw [show ((s[0].toNat - 247 : Nat) : Int) = (s[0].toNat : Int) - 247 from by omega]

attribute [local irreducible] bev put wd beL str tkNum

set_option maxRecDepth 100000 in
set_option maxHeartbeats 1000000 in
theorem refTakeNum_any (s : ByteArray) (w : World) (hs : s.size ≤ maxLen) :
    Calls Try.prog 14 #[.string s] w fun e w' => e = .returned (.tuple #[.int .i64 (tkNum s).1, .string (tkNum s).2.1, .int .i64 (tkNum s).2.2]) ∧ Below w.heap.size w w' := by
  unfold maxLen at hs
  by_cases h0 : s.size = 0
  · have hk : tkNum s = (0, ByteArray.empty, 2) := by unfold tkNum; rw [dif_neg (by omega)]
    have HK := Kept.mk hk; clear hk
    have hb : ((s.size : Int) == 0) = true := by simp [h0]
    go_enter Try.func14, Try.ntmps14
    go_wp2
    go_ret3
    exact ⟨by rw [HK.out]; rfl, Below.refl _ _⟩
  have hp : 0 < s.size := by omega
  have hb : ((s.size : Int) == 0) = false := by simp [h0]
  obtain ⟨hc0, hc1⟩ := byte_range s[0]
  have hne : s.toList.isEmpty = false := List.isEmpty_eq_false_iff.2 (fun h => by have := toList_nil h; omega)
  by_cases h1 : s[0].toNat = 255
  · have hk : tkNum s = (0, ByteArray.empty, 2) := tkNum_high hp (Or.inr (by omega))
    have HK := Kept.mk hk; clear hk
    have hb2 : ((s[0].toNat : Int) == 255) = true := by rw [h1]; rfl
    clear h1
    go_enter Try.func14, Try.ntmps14
    go_wp2
    go_ret3
    exact ⟨by rw [HK.out]; rfl, Below.refl _ _⟩
  have hb2 : ((s[0].toNat : Int) == 255) = false := by rw [beq_eq_false_iff_ne]; omega
  have H1 := Kept.mk h1
  by_cases h2 : (s[0].toNat : Int) < 248
  · have hk := tkNum_low hp ⟨hne, by omega⟩ (by omega)
    have HK := Kept.mk hk; clear hk h1
    go_enter Try.func14, Try.ntmps14
    go_wp2
    go_quiet (fail)
    go_wp2
    go_ret3
    exact ⟨by rw [HK.out]; rfl, below_drewN (Below.refl _ _) _⟩
  by_cases h3 : (s.size : Int) < (1 : Int) + ((s[0].toNat : Int) - (247 : Int))
  · have hk := tkNum_short hp ⟨hne, by omega⟩ (by omega) h3
    have HK := Kept.mk hk; clear hk h1
    go_enter Try.func14, Try.ntmps14
    go_wp2
    go_ret3
    exact ⟨by rw [HK.out]; rfl, Below.refl _ _⟩
  have hf := tkNum_mid s hp h1 h2 h3
  have hn := put_ne s (s[0].toNat - 247) (by omega) (by omega) hp (by omega)
  have HF := Kept.mk hf; clear hf
  have HN := Kept.mk hn; clear hn
  clear h1 hne
  have h2' : 248 ≤ (s[0].toNat : Int) := by omega
  have h3' : (1 : Int) + ((s[0].toNat : Int) - (247 : Int)) ≤ (s.size : Int) := by omega
  clear h2 h3
  have hz := put_size (bev (s.extract 1 (1 + (s[0].toNat - 247))).data.toList)
  by_cases hd : bev (s.extract 1 (1 + (s[0].toNat - 247))).data.toList ≤ 247 ∨ (wd (bev (s.extract 1 (1 + (s[0].toNat - 247))).data.toList) : Int) ≠ ((s[0].toNat - 247 : Nat) : Int)
  · have ht := HN.out
    rw [decide_eq_true hd] at ht
    have hf := HF.out
    rw [if_pos hd] at hf
    have HT := Kept.mk ht; clear ht hd
    clear HF
    have HF := Kept.mk hf
    clear hf HN
    go_enter Try.func14, Try.ntmps14
    go_wp2_with fail
    refine (refNumber_any _ _ (by unfold maxLen; rw [ByteArray.size_extract]; omega)).mono ?_
    rintro e w1 ⟨rfl, rfl⟩
    generalize bev (s.extract 1 (1 + (s[0].toNat - 247))).data.toList = n at *
    go_wp2_with fail
    have e2 : (0 : Int) ≤ (1 : Int) + ((s[0].toNat : Int) - (247 : Int)) := by omega
    have e3 : ((1 : Int) + ((s[0].toNat : Int) - (247 : Int))).toNat = 1 + (s[0].toNat - 247) := by omega
    have e1 : IntKind.i64.wrap ((1 : Int) + ((s[0].toNat : Int) - (247 : Int))) = (1 : Int) + ((s[0].toNat : Int) - (247 : Int)) := wrap_i64_small _ (by omega) (by omega)
    have ht := HT.out
    simp only [Bool.not_eq_true'] at ht
    go_region_with (go_at_call 15; refine (refPut_any _ _).mono ?_; rintro e w1 ⟨rfl, hb1⟩)
    clear ht e1 e2 e3
    go_wp2
    go_ret3
    exact ⟨by rw [HF.out]; rfl, ((Below.refl w.heap.size w).drew).trans hb1⟩
  · have ht := HN.out
    rw [decide_eq_false hd] at ht
    have hf := HF.out
    rw [if_neg hd] at hf
    have HT := Kept.mk ht; clear ht hd
    clear HF
    have HF := Kept.mk hf
    clear hf HN
    go_enter Try.func14, Try.ntmps14
    go_wp2_with fail
    refine (refNumber_any _ _ (by unfold maxLen; rw [ByteArray.size_extract]; omega)).mono ?_
    rintro e w1 ⟨rfl, rfl⟩
    generalize bev (s.extract 1 (1 + (s[0].toNat - 247))).data.toList = n at *
    go_wp2_with fail
    have e2 : (0 : Int) ≤ (1 : Int) + ((s[0].toNat : Int) - (247 : Int)) := by omega
    have e3 : ((1 : Int) + ((s[0].toNat : Int) - (247 : Int))).toNat = 1 + (s[0].toNat - 247) := by omega
    have e1 : IntKind.i64.wrap ((1 : Int) + ((s[0].toNat : Int) - (247 : Int))) = (1 : Int) + ((s[0].toNat : Int) - (247 : Int)) := wrap_i64_small _ (by omega) (by omega)
    have ht := HT.out
    simp only [Bool.not_eq_false'] at ht
    go_region_with (go_at_call 15; refine (refPut_any _ _).mono ?_; rintro e w1 ⟨rfl, hb1⟩)
    clear ht
    go_wp2
    go_quiet (fail)
    clear e1 e2 e3
    go_wp2
    go_ret3
    exact ⟨by rw [HF.out]; rfl, below_drewN (((Below.refl w.heap.size w).drew).trans hb1) _⟩

end Go.Proofs.Ytjlbpioeahmdeaa
