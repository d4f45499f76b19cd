/- Headers on lists of bytes: what is laid is taken, what is taken is laid again. No program. -/
import Derived.Test.YtabeehljpdehcaaHn
namespace Go.Proofs.Ytabeehljpdehcaa
set_option linter.unusedVariables false
open Go.RowKit Go.Lib
/-- may a header be -/
def hMay (id : Int) (salt : List UInt8) (n b raw : Int) (root tag : List UInt8) : Prop :=
  (1 ≤ id ∧ id ≤ 4294967295) ∧ (1 ≤ b ∧ b ≤ 49152) ∧ (1 ≤ raw ∧ raw ≤ 134217728) ∧ n = (b + 191) / 192 ∧ salt.length = 16 ∧ root.length = 32 ∧ tag.length = 32
instance (id : Int) (salt : List UInt8) (n b raw : Int) (root tag : List UInt8) : Decidable (hMay id salt n b raw root tag) := by unfold hMay; infer_instance
def hMark : List UInt8 := [83, 76, 71, 49]
/-- what the tag covers -/
def hF (id : Int) (salt : List UInt8) (n b raw : Int) (root : List UInt8) : List UInt8 :=
  hMark ++ beL 4 id ++ salt ++ beL 2 n ++ beL 4 b ++ beL 4 raw ++ root
def hP (id : Int) (salt : List UInt8) (n b raw : Int) (root tag : List UInt8) : List UInt8 := hF id salt n b raw root ++ tag
def pId (s : List UInt8) : Int := bev ((s.drop 4).take 4)
def pSalt (s : List UInt8) : List UInt8 := (s.drop 8).take 16
def pN (s : List UInt8) : Int := bev ((s.drop 24).take 2)
def pB (s : List UInt8) : Int := bev ((s.drop 26).take 4)
def pRaw (s : List UInt8) : Int := bev ((s.drop 30).take 4)
def pRoot (s : List UInt8) : List UInt8 := (s.drop 34).take 32
def pTag (s : List UInt8) : List UInt8 := s.drop 66
/-- are these bytes a header -/
def hIs (s : List UInt8) : Prop := s.length = 98 ∧ s.take 4 = hMark ∧ hMay (pId s) (pSalt s) (pN s) (pB s) (pRaw s) (pRoot s) (pTag s)
instance (s : List UInt8) : Decidable (hIs s) := by unfold hIs; infer_instance

theorem bev_beL4 (n : Int) (h0 : 0 ≤ n) (h1 : n ≤ 4294967295) : bev (beL 4 n) = n := by
  rw [bev_beL, show (256 : Int) ^ 4 = 4294967296 from by decide]; unfold wrap64; omega
theorem bev_beL2 (n : Int) (h0 : 0 ≤ n) (h1 : n ≤ 65535) : bev (beL 2 n) = n := by
  rw [bev_beL, show (256 : Int) ^ 2 = 65536 from by decide]; unfold wrap64; omega
theorem bev_le4 (l : List UInt8) (h : l.length = 4) : 0 ≤ bev l ∧ bev l ≤ 4294967295 := by
  have h1 := bevN_range l
  rw [h, show (256 : Int) ^ 4 = 4294967296 from by decide] at h1
  rw [bev_eq, wrap64_in _ (by omega) (by omega)]; omega
theorem bev_le2 (l : List UInt8) (h : l.length = 2) : 0 ≤ bev l ∧ bev l ≤ 65535 := by
  have h1 := bevN_range l
  rw [h, show (256 : Int) ^ 2 = 65536 from by decide] at h1
  rw [bev_eq, wrap64_in _ (by omega) (by omega)]; omega
theorem bev_in (l : List UInt8) : -9223372036854775808 ≤ bev l ∧ bev l ≤ 9223372036854775807 := bev_range64 l
theorem take_at {α : Type} (a b : List α) (k : Nat) (h : a.length = k) : (a ++ b).take k = a := by subst h; simp
theorem drop_at {α : Type} (a b : List α) (k : Nat) (h : a.length = k) : (a ++ b).drop k = b := by subst h; simp
theorem hF_length (id : Int) (salt : List UInt8) (n b raw : Int) (root : List UInt8) : (hF id salt n b raw root).length = 18 + salt.length + root.length := by
  unfold hF hMark; simp only [List.length_append, beL_length, List.length_cons, List.length_nil]; omega
theorem drop_at2 {α : Type} (a b : List α) (k j : Nat) (h : a.length = j) (hk : j ≤ k) : (a ++ b).drop k = b.drop (k - j) := by
  rw [List.drop_append, List.drop_of_length_le (by omega), List.nil_append, h]
theorem hP_parts (id : Int) (salt : List UInt8) (n b raw : Int) (root tag : List UInt8) (h : hMay id salt n b raw root tag) :
    (hP id salt n b raw root tag).length = 98 ∧ (hP id salt n b raw root tag).take 4 = hMark ∧ pId (hP id salt n b raw root tag) = id ∧ pSalt (hP id salt n b raw root tag) = salt ∧ pN (hP id salt n b raw root tag) = n ∧ pB (hP id salt n b raw root tag) = b ∧ pRaw (hP id salt n b raw root tag) = raw ∧ pRoot (hP id salt n b raw root tag) = root ∧ pTag (hP id salt n b raw root tag) = tag := by
  obtain ⟨h1, h2, h3, h4, h5, h6, h7⟩ := h
  have e : hP id salt n b raw root tag = hMark ++ (beL 4 id ++ (salt ++ (beL 2 n ++ (beL 4 b ++ (beL 4 raw ++ (root ++ tag)))))) := by unfold hP hF; simp
  have l0 : hMark.length = 4 := rfl
  have l1 := beL_length 4 id
  have l2 := beL_length 2 n
  have l3 := beL_length 4 b
  have l4 := beL_length 4 raw
  refine ⟨?_, ?_, ?_, ?_, ?_, ?_, ?_, ?_, ?_⟩
  · rw [hP, List.length_append, hF_length]; omega
  · rw [e, take_at _ _ 4 l0]
  · rw [e, pId, drop_at _ _ 4 l0, take_at _ _ 4 l1, bev_beL4 _ (by omega) (by omega)]
  · rw [e, pSalt, drop_at2 _ _ 8 4 l0 (by omega), drop_at _ _ 4 l1, take_at _ _ 16 h5]
  · rw [e, pN, drop_at2 _ _ 24 4 l0 (by omega), drop_at2 _ _ 20 4 l1 (by omega), drop_at _ _ 16 h5, take_at _ _ 2 l2, bev_beL2 _ (by omega) (by omega)]
  · rw [e, pB, drop_at2 _ _ 26 4 l0 (by omega), drop_at2 _ _ 22 4 l1 (by omega), drop_at2 _ _ 18 16 h5 (by omega), drop_at _ _ 2 l2, take_at _ _ 4 l3, bev_beL4 _ (by omega) (by omega)]
  · rw [e, pRaw, drop_at2 _ _ 30 4 l0 (by omega), drop_at2 _ _ 26 4 l1 (by omega), drop_at2 _ _ 22 16 h5 (by omega), drop_at2 _ _ 6 2 l2 (by omega), drop_at _ _ 4 l3, take_at _ _ 4 l4, bev_beL4 _ (by omega) (by omega)]
  · rw [e, pRoot, drop_at2 _ _ 34 4 l0 (by omega), drop_at2 _ _ 30 4 l1 (by omega), drop_at2 _ _ 26 16 h5 (by omega), drop_at2 _ _ 10 2 l2 (by omega), drop_at2 _ _ 8 4 l3 (by omega), drop_at _ _ 4 l4, take_at _ _ 32 h6]
  · rw [e, pTag, drop_at2 _ _ 66 4 l0 (by omega), drop_at2 _ _ 62 4 l1 (by omega), drop_at2 _ _ 58 16 h5 (by omega), drop_at2 _ _ 42 2 l2 (by omega), drop_at2 _ _ 40 4 l3 (by omega), drop_at2 _ _ 36 4 l4 (by omega), drop_at _ _ 32 h6]
theorem hP_is (id : Int) (salt : List UInt8) (n b raw : Int) (root tag : List UInt8) (h : hMay id salt n b raw root tag) : hIs (hP id salt n b raw root tag) := by
  obtain ⟨q0, q1, q2, q3, q4, q5, q6, q7, q8⟩ := hP_parts id salt n b raw root tag h
  unfold hIs
  rw [q2, q3, q4, q5, q6, q7, q8]
  exact ⟨q0, q1, h⟩
theorem cut_next {α : Type} (s : List α) (a k : Nat) : (s.drop a).take k ++ s.drop (a + k) = s.drop a := by
  rw [← List.drop_drop, List.take_append_drop]
theorem hP_take (s : List UInt8) (h : hIs s) : hP (pId s) (pSalt s) (pN s) (pB s) (pRaw s) (pRoot s) (pTag s) = s := by
  obtain ⟨hl, hm, _⟩ := h
  have b4 : ∀ a, a + 4 ≤ 98 → beL 4 (bev ((s.drop a).take 4)) = (s.drop a).take 4 := fun a ha => beL_bev _ 4 (by rw [List.length_take, List.length_drop]; omega) (by omega)
  have b2 : beL 2 (bev ((s.drop 24).take 2)) = (s.drop 24).take 2 := beL_bev _ 2 (by rw [List.length_take, List.length_drop]; omega) (by omega)
  unfold hP hF pId pSalt pN pB pRaw pRoot pTag
  rw [b4 4 (by omega), b2, b4 26 (by omega), b4 30 (by omega), ← hm]
  simp only [List.append_assoc]
  rw [cut_next s 34 32, cut_next s 30 4, cut_next s 26 4, cut_next s 24 2, cut_next s 8 16, cut_next s 4 4, List.take_append_drop]
theorem tkFix_list (l : List UInt8) (k : Nat) (h1 : 1 ≤ k) (h8 : k ≤ 8) (hl : k ≤ l.length) : tkFix (str l) k = (bev (l.take k), str (l.drop k), 0) := by
  unfold tkFix
  rw [if_neg (by omega), if_neg (by rw [str_size]; omega), str_extract, str_extract, Int.toNat_natCast, str_data, str_size, List.drop_zero, Nat.sub_zero, List.take_of_length_le (l := l.drop k) (by rw [List.length_drop]; omega)]
end Go.Proofs.Ytabeehljpdehcaa
