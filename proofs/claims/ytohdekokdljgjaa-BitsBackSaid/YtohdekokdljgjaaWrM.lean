/- Bits packed to bytes, one by one: what a byte's eight bits make, what zeros leave, how each is read back. -/
import Derived.Test.YtohdekokdljgjaaKit
namespace Go.Proofs.Ytohdekokdljgjaa
set_option linter.unusedVariables false
set_option linter.unusedSimpArgs false
/-- one bit more, behind n bits -/
def putBit (ys : List UInt8) (n b : Nat) : List UInt8 :=
  (if n % 8 = 0 then ys ++ [0] else ys).set (n / 8) ((if n % 8 = 0 then ys ++ [0] else ys).getD (n / 8) 0 ||| UInt8.ofNat (b * 2 ^ (n % 8)))
/-- the bytes of the first k bits -/
def packTo (L : List Nat) : Nat → List UInt8
  | 0 => []
  | k + 1 => putBit (packTo L k) k (L.getD k 0)
def pk (L : List Nat) : List UInt8 := packTo L L.length
theorem putBit_length (ys : List UInt8) (n b : Nat) : (putBit ys n b).length = ys.length + if n % 8 = 0 then 1 else 0 := by
  unfold putBit
  rw [List.length_set]
  by_cases h : n % 8 = 0
  · rw [if_pos h, if_pos h, List.length_append]; rfl
  · rw [if_neg h, if_neg h]; rfl
theorem packTo_length (L : List Nat) : ∀ k, (packTo L k).length = (k + 7) / 8
  | 0 => rfl
  | k + 1 => by
    rw [packTo, putBit_length, packTo_length L k]
    by_cases h : k % 8 = 0
    · rw [if_pos h]; omega
    · rw [if_neg h]; omega
theorem pk_length (L : List Nat) : (pk L).length = (L.length + 7) / 8 := packTo_length L _
theorem packTo_app (L M : List Nat) : ∀ k, k ≤ L.length → packTo (L ++ M) k = packTo L k
  | 0, _ => rfl
  | k + 1, h => by
    rw [packTo, packTo, packTo_app L M k (by omega)]
    congr 1
    rw [List.getD_eq_getElem?_getD, List.getD_eq_getElem?_getD, List.getElem?_append_left (by omega)]
theorem pk_snoc (L : List Nat) (b : Nat) : pk (L ++ [b]) = putBit (pk L) L.length b := by
  unfold pk
  rw [List.length_append, List.length_singleton, packTo, packTo_app L [b] _ (Nat.le_refl _)]
  congr 1
  simp
theorem pk_nil : pk [] = [] := rfl
theorem or_zero8 (x : UInt8) : x ||| 0 = x := by
  apply UInt8.toNat_inj.1; simp
theorem zero_or8 (x : UInt8) : 0 ||| x = x := by
  apply UInt8.toNat_inj.1; simp
theorem putBit_zero (ys : List UInt8) (n : Nat) (h : n % 8 ≠ 0) : putBit ys n 0 = ys := by
  unfold putBit
  rw [if_neg h, Nat.zero_mul, show UInt8.ofNat 0 = 0 from rfl, or_zero8]
  apply List.ext_getElem?
  intro i
  rw [List.getElem?_set]
  by_cases hi : n / 8 = i
  · subst hi
    by_cases hl : n / 8 < ys.length
    · simp [hl, List.getD_eq_getElem?_getD]
    · simp [hl]
  · simp [hi]
/-- aligned bits: zeros up to a multiple of eight -/
def upTo (n : Nat) : Nat := (n + 7) / 8 * 8
def alg (L : List Nat) : List Nat := L ++ List.replicate (upTo L.length - L.length) 0
theorem alg_length (L : List Nat) : (alg L).length = upTo L.length := by
  unfold alg upTo; rw [List.length_append, List.length_replicate]; omega
theorem pk_zeros (L : List Nat) : ∀ k, L.length + k ≤ upTo L.length → pk (L ++ List.replicate k 0) = pk L
  | 0, _ => by simp
  | k + 1, h => by
    rw [List.replicate_succ', ← List.append_assoc, pk_snoc, pk_zeros L k (by omega)]
    apply putBit_zero
    rw [List.length_append, List.length_replicate]
    unfold upTo at h; omega
theorem pk_alg (L : List Nat) : pk (alg L) = pk L := pk_zeros L _ (by unfold upTo; omega)
theorem alg_step (L : List Nat) (h : L.length % 8 ≠ 0) : alg (L ++ [0]) = alg L := by
  unfold alg upTo
  rw [List.append_assoc, List.length_append, List.length_singleton]
  congr 1
  rw [List.singleton_append, ← List.replicate_succ]
  congr 1; omega
theorem alg_end (L : List Nat) (h : L.length % 8 = 0) : alg L = L := by
  unfold alg upTo
  rw [show (L.length + 7) / 8 * 8 - L.length = 0 by omega]; simp
/-- a number's bits -/
def vb1 (v : Int) (i : Nat) : Nat := (v / 2 ^ i % 2).toNat
def lowB (v : Int) (n : Nat) : List Nat := (List.range n).map fun i => vb1 v i
def highB (v : Int) (n : Nat) : List Nat := (List.range n).map fun i => vb1 v (n - 1 - i)
theorem vb1_lt (v : Int) (i : Nat) : vb1 v i < 2 := by unfold vb1; omega
theorem vb1_int (v : Int) (i : Nat) : ((vb1 v i : Nat) : Int) = v / 2 ^ i % 2 := by unfold vb1; omega
theorem lowB_length (v : Int) (n : Nat) : (lowB v n).length = n := by simp [lowB]
theorem highB_length (v : Int) (n : Nat) : (highB v n).length = n := by simp [highB]
theorem lowB_zero (v : Int) : lowB v 0 = [] := rfl
theorem lowB_snoc (v : Int) (n : Nat) : lowB v n ++ [vb1 v n] = lowB v (n + 1) := by simp [lowB, List.range_succ]
theorem highB_take (v : Int) (n i : Nat) (h : i < n) : (highB v n).take i ++ [vb1 v (n - 1 - i)] = (highB v n).take (i + 1) := by
  have e : (highB v n)[i]? = some (vb1 v (n - 1 - i)) := by
    unfold highB; rw [List.getElem?_map, List.getElem?_range h]; rfl
  rw [List.take_add_one, e]; rfl
theorem highB_take_all (v : Int) (n : Nat) : (highB v n).take n = highB v n := List.take_of_length_le (by rw [highB_length]; exact Nat.le_refl _)
theorem putBit_new (ys : List UInt8) (m b : Nat) (hy : ys.length = m) : putBit ys (8 * m) b = ys ++ [UInt8.ofNat b] := by
  subst hy
  unfold putBit
  rw [if_pos (by omega), show 8 * ys.length / 8 = ys.length by omega, show 8 * ys.length % 8 = 0 by omega, Nat.pow_zero, Nat.mul_one]
  rw [List.getD_eq_getElem?_getD, List.getElem?_append_right (Nat.le_refl _), Nat.sub_self]
  simp [zero_or8]
theorem putBit_in (ys : List UInt8) (x : UInt8) (m r b : Nat) (hy : ys.length = m) (h0 : 0 < r) (h8 : r < 8) : putBit (ys ++ [x]) (8 * m + r) b = ys ++ [x ||| UInt8.ofNat (b * 2 ^ r)] := by
  subst hy
  unfold putBit
  rw [if_neg (by omega), show (8 * ys.length + r) / 8 = ys.length by omega, show (8 * ys.length + r) % 8 = r by omega]
  rw [List.getD_eq_getElem?_getD, List.getElem?_append_right (Nat.le_refl _), Nat.sub_self]
  simp
theorem eight_bits : ∀ c : Fin 256, (((((((UInt8.ofNat (c.val / 2 ^ 0 % 2) ||| UInt8.ofNat (c.val / 2 ^ 1 % 2 * 2 ^ 1)) ||| UInt8.ofNat (c.val / 2 ^ 2 % 2 * 2 ^ 2)) ||| UInt8.ofNat (c.val / 2 ^ 3 % 2 * 2 ^ 3)) ||| UInt8.ofNat (c.val / 2 ^ 4 % 2 * 2 ^ 4)) ||| UInt8.ofNat (c.val / 2 ^ 5 % 2 * 2 ^ 5)) ||| UInt8.ofNat (c.val / 2 ^ 6 % 2 * 2 ^ 6)) ||| UInt8.ofNat (c.val / 2 ^ 7 % 2 * 2 ^ 7)) = UInt8.ofNat c.val := by decide +kernel
theorem vb1_byte (c : UInt8) (i : Nat) : vb1 (c.toNat : Int) i = c.toNat / 2 ^ i % 2 := by
  have e : ((c.toNat : Int) / 2 ^ i) = ((c.toNat / 2 ^ i : Nat) : Int) := by rw [Int.natCast_ediv, Int.natCast_pow]; rfl
  unfold vb1; rw [e]; omega
theorem pk_byte (L : List Nat) (c : UInt8) (h : L.length % 8 = 0) : pk (L ++ lowB (c.toNat : Int) 8) = pk L ++ [c] := by
  have hm : (pk L).length = L.length / 8 := by rw [pk_length]; omega
  have hn : L.length = 8 * (L.length / 8) := by omega
  generalize hq : L.length / 8 = m at hm hn
  have hc := eight_bits ⟨c.toNat, c.toNat_lt⟩
  have step : ∀ k, packTo (L ++ lowB (c.toNat : Int) 8) (8 * m + (k + 1)) = putBit (packTo (L ++ lowB (c.toNat : Int) 8) (8 * m + k)) (8 * m + k) ((L ++ lowB (c.toNat : Int) 8).getD (8 * m + k) 0) := fun k => rfl
  have get : ∀ k, k < 8 → (L ++ lowB (c.toNat : Int) 8).getD (8 * m + k) 0 = c.toNat / 2 ^ k % 2 := by
    intro k hk
    rw [List.getD_eq_getElem?_getD, List.getElem?_append_right (by omega), show 8 * m + k - L.length = k by omega]
    unfold lowB
    rw [List.getElem?_map, List.getElem?_range hk, ← vb1_byte]; rfl
  have h0 : packTo (L ++ lowB (c.toNat : Int) 8) (8 * m + 0) = pk L := by
    rw [packTo_app _ _ _ (by omega)]; unfold pk; rw [hn]; rfl
  unfold pk at *
  rw [List.length_append, lowB_length, show L.length + 8 = 8 * m + (7 + 1) by omega]
  rw [step 7, step 6, step 5, step 4, step 3, step 2, step 1, step 0, h0, get 0 (by omega), get 1 (by omega), get 2 (by omega), get 3 (by omega), get 4 (by omega), get 5 (by omega), get 6 (by omega), get 7 (by omega)]
  rw [show 8 * m + 0 = 8 * m from rfl, putBit_new _ m _ hm, putBit_in _ _ m 1 _ hm (by omega) (by omega), putBit_in _ _ m 2 _ hm (by omega) (by omega), putBit_in _ _ m 3 _ hm (by omega) (by omega), putBit_in _ _ m 4 _ hm (by omega) (by omega), putBit_in _ _ m 5 _ hm (by omega) (by omega), putBit_in _ _ m 6 _ hm (by omega) (by omega), putBit_in _ _ m 7 _ hm (by omega) (by omega)]
  congr 2
  simp only [Nat.pow_zero] at hc ⊢
  rw [hc]
  apply UInt8.toNat_inj.1
  simp
/-- the bits of a text, byte by byte -/
def txB : List UInt8 → List Nat
  | [] => []
  | c :: r => lowB (c.toNat : Int) 8 ++ txB r
theorem txB_length : ∀ s, (txB s).length = 8 * s.length
  | [] => rfl
  | c :: r => by rw [txB, List.length_append, lowB_length, txB_length r, List.length_cons]; omega
theorem txB_app : ∀ s t, txB (s ++ t) = txB s ++ txB t
  | [], t => rfl
  | c :: r, t => by rw [List.cons_append, txB, txB, txB_app r t, List.append_assoc]
theorem pk_text : ∀ (s : List UInt8) (L : List Nat), L.length % 8 = 0 → pk (L ++ txB s) = pk L ++ s
  | [], L, _ => by simp [txB]
  | c :: r, L, h => by
    rw [txB, ← List.append_assoc, pk_text r _ (by rw [List.length_append, lowB_length]; omega), pk_byte L c h]; simp
/-- bits of zero and one -/
def Two01 (L : List Nat) : Prop := ∀ b ∈ L, b < 2
theorem two_nil : Two01 [] := by intro b hb; simp at hb
theorem Two01.app {L M : List Nat} (h : Two01 L) (k : Two01 M) : Two01 (L ++ M) := by
  intro b hb
  rcases List.mem_append.1 hb with hb | hb
  · exact h b hb
  · exact k b hb
theorem two_low (v : Int) (n : Nat) : Two01 (lowB v n) := by
  intro b hb
  obtain ⟨i, _, rfl⟩ := List.mem_map.1 hb
  exact vb1_lt v i
theorem two_high (v : Int) (n : Nat) : Two01 (highB v n) := by
  intro b hb
  obtain ⟨i, _, rfl⟩ := List.mem_map.1 hb
  exact vb1_lt v _
theorem two_rep (k : Nat) : Two01 (List.replicate k 0) := by
  intro b hb; rw [List.eq_of_mem_replicate hb]; decide
theorem Two01.alg {L : List Nat} (h : Two01 L) : Two01 (alg L) := h.app (two_rep _)
theorem two_text : ∀ s, Two01 (txB s)
  | [] => two_nil
  | c :: r => (two_low _ _).app (two_text r)
end Go.Proofs.Ytohdekokdljgjaa
