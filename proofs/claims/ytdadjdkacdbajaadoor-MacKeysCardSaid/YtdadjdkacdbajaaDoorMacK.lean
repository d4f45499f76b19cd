/- HMAC-SHA-256: a key that is too long has the tags of its sum, one that is short those of itself with a zero behind it: walked by the contracts. -/
import Derived.Test.YtdadjdkacdbajaaDoorRfD
import Derived.Test.YtdadjdkacdbajaaDoorMacC
namespace Go.Proofs.YtdadjdkacdbajaaDoor
set_option linter.unusedVariables false
set_option linter.unusedSimpArgs false
open Go.RowKit Go.Lib
theorem mTag_sum (k m : List UInt8) (h : 64 < k.length) : mTag (sSum k) m = mTag k m := by
  rw [← mTag_eq, ← mTag_eq, mKey_short (k := sSum k) (by rw [sSum_length]; omega), mKey_long h]
theorem mTag_zero (k m : List UInt8) (h : k.length < 64) : mTag (k ++ [0]) m = mTag k m := by
  have e : mPad (k ++ [0]) = mPad k := by
    unfold mPad
    rw [List.length_append, List.append_assoc]
    congr 1
    rw [show 64 - k.length = (64 - (k.length + [(0 : UInt8)].length)) + 1 by simp; omega, List.replicate_succ]
    rfl
  rw [← mTag_eq, ← mTag_eq, mKey_short (k := k ++ [0]) (by rw [List.length_append]; simp; omega), mKey_short (k := k) (by omega), e]
theorem str_zero (k : List UInt8) : str k ++ ({ data := #[0] } : ByteArray) = str (k ++ [0]) := str_append k [0]
attribute [local irreducible] str sSum mTag

set_option maxRecDepth 100000 in
set_option maxHeartbeats 2000000 in
theorem macKeys_long (x y : List UInt8) (w : World) (hx : x.length ≤ 140737488351232) (hy : y.length ≤ 140737488351232) (hk : KAt w) (hc : 64 < (x.take 5000).length) :
    Calls Tryd.prog 11 #[.string (str x), .string (str y)] w fun e w' => e = .returned (.bool true) ∧ Below w.heap.size w w' := by
  go_enter Tryd.func11, Tryd.ntmps11
  go_wp2_with fail
  refine (cut_5000 x w hx).mono ?_
  rintro e w1 ⟨rfl, hb1⟩
  have HB := Kept.mk hb1
  have ha : (x.take 5000).length ≤ 5000 := by rw [List.length_take]; omega
  generalize x.take 5000 = a at *
  clear hb1 hx
  go_wp2_with fail
  refine (cut_5000 y _ hy).mono ?_
  rintro e w2 ⟨rfl, hb2⟩
  have HB2 := Kept.mk (HB.out.trans (hb2.mono HB.out.size))
  have hb : (y.take 5000).length ≤ 5000 := by rw [List.length_take]; omega
  generalize y.take 5000 = b at *
  clear hb2 hy HB
  have sa := str_size a
  have HK2 := Kept.mk (hk.below HB2.out)
  have hT := mTag_length a b
  have sT := str_size (mTag a b)
  have HC := Kept.mk hc
  clear hk
  have hz := mTag_sum a b hc
  have hi : (64 : Int) < (a.length : Int) := by omega
  have hsl := sSum_length a
  go_wp2_with fail
  refine (tag_one a b w2 HK2.out _ (by omega) (by omega)).mono ?_
  rintro e w3 ⟨rfl, hb3⟩
  have HK3 := Kept.mk (HK2.out.below hb3)
  have HB3 := Kept.mk (HB2.out.trans (hb3.mono HB2.out.size))
  clear hb3
  generalize hTT : mTag a b = T at *
  go_wp2_with fail
  refine (refSum_any a w3 (by omega)).mono ?_
  rintro e w4 ⟨rfl, hb4⟩
  have HK4 := Kept.mk (HK3.out.below hb4)
  have HB4 := Kept.mk (HB3.out.trans (hb4.mono HB3.out.size))
  clear hb4
  go_wp2_with fail
  refine (tag_one (sSum a) b w4 HK4.out _ (by omega) (by omega)).mono ?_
  rintro e w5 ⟨rfl, hb5⟩
  rw [hz]
  have HK5 := Kept.mk (HK4.out.below hb5)
  have HB5 := Kept.mk (HB4.out.trans (hb5.mono HB4.out.size))
  clear hb5 hz hTT
  go_wp2_with fail
  refine (macAwake_any w5 HK5.out).mono ?_
  rintro e w9 ⟨rfl, hb9⟩
  have HB9 := Kept.mk (HB5.out.trans (hb9.mono HB5.out.size))
  clear hb9
  go_wp2_with fail
  go_ret
  exact ⟨rfl, HB9.out⟩

set_option maxRecDepth 100000 in
set_option maxHeartbeats 2000000 in
theorem macKeys_short (x y : List UInt8) (w : World) (hx : x.length ≤ 140737488351232) (hy : y.length ≤ 140737488351232) (hk : KAt w) (hc : (x.take 5000).length < 64) :
    Calls Tryd.prog 11 #[.string (str x), .string (str y)] w fun e w' => e = .returned (.bool true) ∧ Below w.heap.size w w' := by
  go_enter Tryd.func11, Tryd.ntmps11
  go_wp2_with fail
  refine (cut_5000 x w hx).mono ?_
  rintro e w1 ⟨rfl, hb1⟩
  have HB := Kept.mk hb1
  have ha : (x.take 5000).length ≤ 5000 := by rw [List.length_take]; omega
  generalize x.take 5000 = a at *
  clear hb1 hx
  go_wp2_with fail
  refine (cut_5000 y _ hy).mono ?_
  rintro e w2 ⟨rfl, hb2⟩
  have HB2 := Kept.mk (HB.out.trans (hb2.mono HB.out.size))
  have hb : (y.take 5000).length ≤ 5000 := by rw [List.length_take]; omega
  generalize y.take 5000 = b at *
  clear hb2 hy HB
  have sa := str_size a
  have HK2 := Kept.mk (hk.below HB2.out)
  have hT := mTag_length a b
  have sT := str_size (mTag a b)
  have HC := Kept.mk hc
  clear hk
  have hz := mTag_zero a b hc
  have hi : (a.length : Int) < 64 := by omega
  have hi2 : ¬ (64 : Int) < (a.length : Int) := by omega
  have hap := str_zero a
  have hal : (a ++ [0]).length ≤ 5001 := by simp; omega
  go_wp2_with fail
  refine (tag_one a b w2 HK2.out _ (by omega) (by omega)).mono ?_
  rintro e w3 ⟨rfl, hb3⟩
  have HK3 := Kept.mk (HK2.out.below hb3)
  have HB3 := Kept.mk (HB2.out.trans (hb3.mono HB2.out.size))
  clear hb3
  generalize hTT : mTag a b = T at *
  generalize hA0 : a ++ [0] = a0 at *
  clear hA0
  go_wp2_with fail
  refine (tag_one a0 b w3 HK3.out _ (by omega) (by omega)).mono ?_
  rintro e w5 ⟨rfl, hb5⟩
  rw [hz]
  have HK5 := Kept.mk (HK3.out.below hb5)
  have HB5 := Kept.mk (HB3.out.trans (hb5.mono HB3.out.size))
  clear hb5 hz hTT hap
  go_wp2_with fail
  refine (macAwake_any w5 HK5.out).mono ?_
  rintro e w9 ⟨rfl, hb9⟩
  have HB9 := Kept.mk (HB5.out.trans (hb9.mono HB5.out.size))
  clear hb9
  go_wp2_with fail
  go_ret
  exact ⟨rfl, HB9.out⟩

set_option maxRecDepth 100000 in
set_option maxHeartbeats 2000000 in
theorem macKeys_same (x y : List UInt8) (w : World) (hx : x.length ≤ 140737488351232) (hy : y.length ≤ 140737488351232) (hk : KAt w) (hc : (x.take 5000).length = 64) :
    Calls Tryd.prog 11 #[.string (str x), .string (str y)] w fun e w' => e = .returned (.bool true) ∧ Below w.heap.size w w' := by
  go_enter Tryd.func11, Tryd.ntmps11
  go_wp2_with fail
  refine (cut_5000 x w hx).mono ?_
  rintro e w1 ⟨rfl, hb1⟩
  have HB := Kept.mk hb1
  have ha : (x.take 5000).length ≤ 5000 := by rw [List.length_take]; omega
  generalize x.take 5000 = a at *
  clear hb1 hx
  go_wp2_with fail
  refine (cut_5000 y _ hy).mono ?_
  rintro e w2 ⟨rfl, hb2⟩
  have HB2 := Kept.mk (HB.out.trans (hb2.mono HB.out.size))
  have hb : (y.take 5000).length ≤ 5000 := by rw [List.length_take]; omega
  generalize y.take 5000 = b at *
  clear hb2 hy HB
  have sa := str_size a
  have HK2 := Kept.mk (hk.below HB2.out)
  have hT := mTag_length a b
  have sT := str_size (mTag a b)
  have HC := Kept.mk hc
  clear hk
  have hi : (a.length : Int) = 64 := by omega
  have hi1 : ¬ (a.length : Int) < 64 := by omega
  have hi2 : ¬ (64 : Int) < (a.length : Int) := by omega
  go_wp2_with fail
  refine (tag_one a b w2 HK2.out _ (by omega) (by omega)).mono ?_
  rintro e w3 ⟨rfl, hb3⟩
  have HK3 := Kept.mk (HK2.out.below hb3)
  have HB3 := Kept.mk (HB2.out.trans (hb3.mono HB2.out.size))
  clear hb3
  generalize hTT : mTag a b = T at *
  clear hTT
  go_wp2_with fail
  refine (macAwake_any w3 HK3.out).mono ?_
  rintro e w9 ⟨rfl, hb9⟩
  have HB9 := Kept.mk (HB3.out.trans (hb9.mono HB3.out.size))
  clear hb9
  go_wp2_with fail
  go_ret
  exact ⟨rfl, HB9.out⟩

theorem macKeys_w {w : World} (a : List UInt8) (ha : a.length ≤ 140737488351232) (b : List UInt8) (hb : b.length ≤ 140737488351232) (hk : KAt w) :
    Calls Tryd.prog 11 #[.string (str a), .string (str b)] w fun e w' => e = .returned (.bool true) ∧ Below w.heap.size w w' := by
  rcases Nat.lt_trichotomy (a.take 5000).length 64 with h | h | h
  · exact macKeys_short a b w ha hb hk h
  · exact macKeys_same a b w ha hb hk h
  · exact macKeys_long a b w ha hb hk h
end Go.Proofs.YtdadjdkacdbajaaDoor
