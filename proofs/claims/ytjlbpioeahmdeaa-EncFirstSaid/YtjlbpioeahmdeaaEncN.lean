/- Laying and taking numbers: what the laws of layer 1 say, of the functions that the contracts name. No program. -/
import Derived.Test.YtjlbpioeahmdeaaRefD
namespace Go.Proofs.Ytjlbpioeahmdeaa
set_option linter.unusedVariables false
open Go.RowKit Go.Lib

theorem str_extract (l : List UInt8) (a b : Nat) : (str l).extract a b = str ((l.drop a).take (b - a)) := by
  have h := extract_list (str l) a b
  rw [str_data] at h
  rw [← h, str_eta]
theorem tkNum_empty : tkNum (str []) = (0, ByteArray.empty, 2) := rfl
theorem tkNum_cons (c : UInt8) (r : List UInt8) : tkNum (str (c :: r)) =
    if 254 < (c.toNat : Int) then ((0 : Int), ByteArray.empty, (2 : Int))
    else if (c.toNat : Int) ≤ 247 then ((c.toNat : Int), str r, 0)
    else if r.length < c.toNat - 247 then (0, ByteArray.empty, 2)
    else if bev (r.take (c.toNat - 247)) ≤ 247 ∨ wd (bev (r.take (c.toNat - 247))) ≠ c.toNat - 247 then (0, ByteArray.empty, 2)
    else (bev (r.take (c.toNat - 247)), str (r.drop (c.toNat - 247)), 0) := by
  have hp : 0 < (str (c :: r)).size := by rw [str_size]; simp
  have hsz : (str (c :: r)).size = r.length + 1 := by rw [str_size]; rfl
  unfold tkNum
  rw [dif_pos hp]
  have hh : (str (c :: r))[0]'hp = c := rfl
  rw [hh]
  rw [str_extract, str_extract, str_extract, hsz]
  rw [show ((254 : Nat) : Int) = 254 from rfl, show ((1 : Nat) : Int) = 1 from rfl]
  have e1 : List.take (r.length + 1 - 1) (List.drop 1 (c :: r)) = r := by simp
  rw [e1]
  by_cases h1 : 254 < (c.toNat : Int)
  · rw [if_pos h1, if_pos h1]
  rw [if_neg h1, if_neg h1]
  by_cases h2 : (c.toNat : Int) ≤ 247
  · rw [if_pos h2, if_pos h2]
  rw [if_neg h2, if_neg h2]
  by_cases h3 : r.length < c.toNat - 247
  · rw [if_pos h3, if_pos (by omega)]
  rw [if_neg h3, if_neg (by omega)]
  have e2 : List.take (1 + (c.toNat - 247) - 1) (List.drop 1 (c :: r)) = r.take (c.toNat - 247) := by
    rw [show 1 + (c.toNat - 247) - 1 = c.toNat - 247 from by omega]; rfl
  have e3 : List.take (r.length + 1 - (1 + (c.toNat - 247))) (List.drop (1 + (c.toNat - 247)) (c :: r)) = r.drop (c.toNat - 247) := by
    rw [Nat.add_comm 1, List.drop_succ_cons]
    exact List.take_of_length_le (by rw [List.length_drop]; omega)
  rw [e2, e3, str_data]
  by_cases h4 : bev (r.take (c.toNat - 247)) ≤ 247 ∨ wd (bev (r.take (c.toNat - 247))) ≠ c.toNat - 247
  · rw [if_pos h4, if_pos (by rcases h4 with h | h; exact Or.inl h; right; omega)]
  · rw [if_neg h4, if_neg (by intro h; apply h4; rcases h with h | h; exact Or.inl h; right; omega)]

theorem tkNum_put (n : Int) (h0 : 0 ≤ n) (h1 : n ≤ 72057594037927935) (l : List UInt8) : tkNum (str (put n ++ l)) = (n, str l, 0) := by
  by_cases h : n < 248
  · rw [put_low n h, if_neg (by omega), List.singleton_append, tkNum_cons]
    have := byt_toNat n
    rw [if_neg (by omega), if_pos (by omega)]
    rw [this, show n % 256 = n from by omega]
  · rw [put_mid n (by omega) h1, List.cons_append, tkNum_cons]
    have hw := wd_le n
    have hc := byt_toNat (247 + wd n)
    have hc2 : (byt (247 + wd n)).toNat = 247 + wd n := by omega
    rw [hc2, show 247 + wd n - 247 = wd n from by omega]
    have hl := beL_length (wd n) n
    have ht : (beL (wd n) n ++ l).take (wd n) = beL (wd n) n := by rw [List.take_append_of_le_length (by omega), List.take_of_length_le (by omega)]
    have hd : (beL (wd n) n ++ l).drop (wd n) = l := by rw [List.drop_append_of_le_length (by omega), List.drop_of_length_le (by omega)]; rfl
    have hb : bev (beL (wd n) n) = n := by
      rw [bev_beL]
      have hs := wd_spec n
      have : n % 256 ^ wd n = n := Int.emod_eq_of_lt h0 (by
        rcases hs with ⟨a, b⟩ | ⟨_, a, b⟩ | ⟨_, a, b⟩ | ⟨_, a, b⟩ | ⟨_, a, b⟩ | ⟨_, a, b⟩ | ⟨a, b⟩ <;> rw [b] <;> simp only [Int.reducePow] <;> omega)
      rw [this]; exact wrap64_in _ (by omega) (by omega)
    rw [ht, hd, hb, if_neg (by omega), if_neg (by omega), if_neg (by rw [List.length_append]; omega), if_neg (by omega)]

theorem list_or (s : ByteArray) : s = str [] ∨ ∃ c r, s = str (c :: r) := by
  rcases h : s.data.toList with _ | ⟨c, r⟩
  · left; rw [← h, str_eta]
  · right; exact ⟨c, r, by rw [← h, str_eta]⟩

theorem tkNum_only (s : ByteArray) : (tkNum s = (0, ByteArray.empty, 2)) ∨ ((tkNum s).2.2 = 0 ∧ 0 ≤ (tkNum s).1 ∧ (tkNum s).1 ≤ 72057594037927935 ∧ str (put (tkNum s).1) ++ (tkNum s).2.1 = s) := by
  rcases list_or s with rfl | ⟨c, r, rfl⟩
  · exact Or.inl tkNum_empty
  rw [tkNum_cons]
  have hc := byte_range c
  by_cases h1 : 254 < (c.toNat : Int)
  · rw [if_pos h1]; exact Or.inl rfl
  rw [if_neg h1]
  by_cases h2 : (c.toNat : Int) ≤ 247
  · rw [if_pos h2]
    right
    refine ⟨rfl, hc.1, by show (c.toNat : Int) ≤ _; omega, ?_⟩
    show str (put (c.toNat : Int)) ++ str r = _
    rw [put_low _ (by omega), if_neg (by omega), byt_byte, str_append]; rfl
  rw [if_neg h2]
  by_cases h3 : r.length < c.toNat - 247
  · rw [if_pos h3]; exact Or.inl rfl
  rw [if_neg h3]
  by_cases h4 : bev (r.take (c.toNat - 247)) ≤ 247 ∨ wd (bev (r.take (c.toNat - 247))) ≠ c.toNat - 247
  · rw [if_pos h4]; exact Or.inl rfl
  rw [if_neg h4]
  right
  have hl : (r.take (c.toNat - 247)).length = c.toNat - 247 := by rw [List.length_take]; omega
  have hsm := bev_small (r.take (c.toNat - 247)) (by omega)
  have hr := bevN_range (r.take (c.toNat - 247))
  have hp := pow256_le (r.take (c.toNat - 247)).length (by omega)
  have ht := (put_test (r.take (c.toNat - 247)) c (c.toNat - 247) (by omega) hl (by omega)).2 (by intro h; apply h4; rcases h with h | h; exact Or.inl h; right; omega)
  dsimp only
  refine ⟨rfl, by omega, by omega, ?_⟩
  rw [ht, str_append, List.cons_append, List.take_append_drop]

theorem put_cl (n : Int) : put (cl n) = put n := by
  obtain ⟨h0, h1⟩ := cl_range n
  have h : cl (cl n) = cl n := cl_of _ h0 h1
  unfold put
  rw [h]
/-- no number's bytes are the beginning of another one's -/
theorem put_first (n m : Int) (hl : (put n).length ≤ (put m).length) (h : (put m).take (put n).length = put n) : put n = put m := by
  have hn := cl_range n
  have hm := cl_range m
  have pn := put_cl n
  have pm := put_cl m
  generalize cl n = a at *
  generalize cl m = b at *
  have e : put m = put n ++ (put m).drop (put n).length := by
    conv => lhs; rw [← List.take_append_drop (put n).length (put m), h]
  have h1 := tkNum_put b hm.1 hm.2 []
  have h2 := tkNum_put a hn.1 hn.2 ((put m).drop (put n).length)
  rw [pn, ← e] at h2
  rw [pm, List.append_nil, h2] at h1
  have h3 : a = b := congrArg (fun x => x.1) h1
  rw [← pn, ← pm, h3]

theorem tkText_put (s b : ByteArray) (most : Int) (h : s.size ≤ 100000) : tkText (putText s ++ b) most = if most < (s.size : Int) then (ByteArray.empty, ByteArray.empty, 3) else (s, b, 0) := by
  have e : putText s ++ b = str (put s.size ++ (s.data.toList ++ b.data.toList)) := by
    unfold putText
    rw [← str_append, ← str_append, str_eta, str_eta, ByteArray.append_assoc]
  have ht := tkNum_put (s.size : Int) (by omega) (by omega) (s.data.toList ++ b.data.toList)
  have hz : (str (s.data.toList ++ b.data.toList)).size = s.size + b.size := by
    rw [str_size, List.length_append, Array.length_toList, Array.length_toList]; rfl
  have hlen : s.data.toList.length = s.size := by rw [Array.length_toList]; rfl
  unfold tkText
  rw [e, ht]
  simp only [ne_eq, not_true_eq_false, if_false]
  by_cases h1 : most < (s.size : Int)
  · rw [if_pos h1, if_pos h1]
  rw [if_neg h1, if_neg h1, if_neg (by rw [hz]; omega), hz, str_extract, str_extract, Int.toNat_natCast]
  rw [List.drop_zero, Nat.sub_zero, List.take_append_of_le_length (by omega), List.take_of_length_le (by omega), List.drop_append_of_le_length (by omega), List.drop_of_length_le (by omega), List.nil_append, List.take_of_length_le (by rw [Array.length_toList]; show b.size ≤ _; omega), str_eta, str_eta]

theorem tkFix_back (n : Int) (k : Nat) (s : ByteArray) (hk : 1 ≤ k) (hk8 : k ≤ 8) : tkFix (str (beL k n) ++ s) k = (wrap64 (n % 256 ^ k), s, 0) := by
  have hl := beL_length k n
  have e : str (beL k n) ++ s = str (beL k n ++ s.data.toList) := by rw [← str_append, str_eta]
  have hz : (str (beL k n ++ s.data.toList)).size = k + s.size := by
    rw [str_size, List.length_append, hl, Array.length_toList]; rfl
  unfold tkFix
  rw [e, if_neg (by omega), if_neg (by rw [hz]; omega), hz, str_extract, str_extract, Int.toNat_natCast, str_data]
  rw [List.drop_zero, Nat.sub_zero, List.take_append_of_le_length (by omega), List.take_of_length_le (by omega), List.drop_append_of_le_length (by omega), List.drop_of_length_le (by omega), List.nil_append, List.take_of_length_le (by rw [Array.length_toList]; show s.size ≤ _; omega), str_eta, bev_beL]
theorem beL_wrap (k : Nat) (n : Int) (hk : k ≤ 8) : beL k (wrap64 (n % 256 ^ k)) = beL k n := by
  apply beL_congr
  rw [wrap_mod _ k hk, Int.emod_emod]
theorem fix_eight (n : Int) (h0 : -9223372036854775808 ≤ n) (h1 : n ≤ 9223372036854775807) : wrap64 (n % 256 ^ 8) = n := by
  have : (256 : Int) ^ 8 = 18446744073709551616 := by decide
  rw [this]; unfold wrap64; omega
end Go.Proofs.Ytjlbpioeahmdeaa
