/- SHA-256 on lists of bytes: the sums' plain definition, and how parts make it. No program. -/
import Derived.Test.YtkkcakblphebjaaDoorChaA
namespace Go.Proofs.YtkkcakblphebjaaDoor
set_option linter.unusedVariables false
open Go.RowKit Go.Lib

def sS0 (a : Nat) : Nat := xo (xo (rot a 30) (rot a 19)) (rot a 10)
def sS1 (e : Nat) : Nat := xo (xo (rot e 26) (rot e 21)) (rot e 7)
def ss0 (x : Nat) : Nat := xo (xo (rot x 25) (rot x 14)) (x / 8)
def ss1 (x : Nat) : Nat := xo (xo (rot x 15) (rot x 13)) (x / 1024)
def sch (e f g : Nat) : Nat := xo (e &&& f) ((4294967295 - e) &&& g)
def smaj (a b c : Nat) : Nat := xo (xo (a &&& b) (a &&& c)) (b &&& c)
structure St where
  a : Nat
  b : Nat
  c : Nat
  d : Nat
  e : Nat
  f : Nat
  g : Nat
  h : Nat
structure St.Ok (s : St) : Prop where
  a : s.a < 4294967296
  b : s.b < 4294967296
  c : s.c < 4294967296
  d : s.d < 4294967296
  e : s.e < 4294967296
  f : s.f < 4294967296
  g : s.g < 4294967296
  h : s.h < 4294967296
def st1 (s : St) (k w : Nat) : Nat := ad (ad (ad (ad s.h (sS1 s.e)) (sch s.e s.f s.g)) k) w
def st2 (s : St) : Nat := ad (sS0 s.a) (smaj s.a s.b s.c)
def St.rnd (s : St) (k w : Nat) : St := ⟨ad (st1 s k w) (st2 s), s.a, s.b, s.c, ad s.d (st1 s k w), s.e, s.f, s.g⟩
def St.add (s t : St) : St := ⟨ad s.a t.a, ad s.b t.b, ad s.c t.c, ad s.d t.d, ad s.e t.e, ad s.f t.f, ad s.g t.g, ad s.h t.h⟩
theorem St.rnd_ok {s : St} (h : s.Ok) (k w : Nat) : (s.rnd k w).Ok := ⟨ad_lt _ _, h.a, h.b, h.c, ad_lt _ _, h.e, h.f, h.g⟩
theorem St.add_ok (s t : St) : (s.add t).Ok := ⟨ad_lt _ _, ad_lt _ _, ad_lt _ _, ad_lt _ _, ad_lt _ _, ad_lt _ _, ad_lt _ _, ad_lt _ _⟩

def nth (l : List Nat) (i : Nat) : Nat := l.getD i 0
def bth (l : List UInt8) (i : Nat) : Nat := (l.getD i 0).toNat
def sK : List Nat := [0x428A2F98, 0x71374491, 0xB5C0FBCF, 0xE9B5DBA5, 0x3956C25B, 0x59F111F1, 0x923F82A4, 0xAB1C5ED5, 0xD807AA98, 0x12835B01, 0x243185BE, 0x550C7DC3, 0x72BE5D74, 0x80DEB1FE, 0x9BDC06A7, 0xC19BF174, 0xE49B69C1, 0xEFBE4786, 0x0FC19DC6, 0x240CA1CC, 0x2DE92C6F, 0x4A7484AA, 0x5CB0A9DC, 0x76F988DA, 0x983E5152, 0xA831C66D, 0xB00327C8, 0xBF597FC7, 0xC6E00BF3, 0xD5A79147, 0x06CA6351, 0x14292967,
  0x27B70A85, 0x2E1B2138, 0x4D2C6DFC, 0x53380D13, 0x650A7354, 0x766A0ABB, 0x81C2C92E, 0x92722C85, 0xA2BFE8A1, 0xA81A664B, 0xC24B8B70, 0xC76C51A3, 0xD192E819, 0xD6990624, 0xF40E3585, 0x106AA070, 0x19A4C116, 0x1E376C08, 0x2748774C, 0x34B0BCB5, 0x391C0CB3, 0x4ED8AA4A, 0x5B9CCA4F, 0x682E6FF3, 0x748F82EE, 0x78A5636F, 0x84C87814, 0x8CC70208, 0x90BEFFFA, 0xA4506CEB, 0xBEF9A3F7, 0xC67178F2]
def be4 (a b c d : Nat) : Nat := a * 16777216 + b * 65536 + c * 256 + d
def l16 (g : List UInt8) : Nat → List Nat
  | 0 => []
  | t + 1 => l16 g t ++ [be4 (bth g (4 * t)) (bth g (4 * t + 1)) (bth g (4 * t + 2)) (bth g (4 * t + 3))]
def schNext (l : List Nat) : Nat := ad (ad (ad (nth l (l.length - 16)) (ss0 (nth l (l.length - 15)))) (nth l (l.length - 7))) (ss1 (nth l (l.length - 2)))
/-- the first t words W of a group -/
def sW (g : List UInt8) : Nat → List Nat
  | 0 => l16 g 16
  | n + 1 => sW g n ++ [schNext (sW g n)]
def rnds (s : St) (W : List Nat) : Nat → St
  | 0 => s
  | t + 1 => (rnds s W t).rnd (nth sK t) (nth W t)
def sMix (s : St) (g : List UInt8) : St := s.add (rnds s (sW g 48) 64)
def sInit : St := ⟨0x6A09E667, 0xBB67AE85, 0x3C6EF372, 0xA54FF53A, 0x510E527F, 0x9B05688C, 0x1F83D9AB, 0x5BE0CD19⟩
/-- the words behind n groups -/
def sFold (l : List UInt8) : Nat → St
  | 0 => sInit
  | n + 1 => sMix (sFold l n) ((l.drop (64 * n)).take 64)
def be8 (n : Int) : List UInt8 := [byt (n / 2 ^ 56), byt (n / 2 ^ 48), byt (n / 2 ^ 40), byt (n / 2 ^ 32), byt (n / 2 ^ 24), byt (n / 2 ^ 16), byt (n / 2 ^ 8), byt n]
/-- what stands behind a text of n bytes -/
def sPad (n : Nat) : List UInt8 := 128 :: (List.replicate ((119 - n % 64) % 64) 0 ++ be8 (8 * (n : Int)))
def by4 (x : Nat) : List UInt8 := [byt ((x / 16777216 : Nat) : Int), byt ((x / 65536 : Nat) : Int), byt ((x / 256 : Nat) : Int), byt (x : Int)]
def St.list (s : St) : List Nat := [s.a, s.b, s.c, s.d, s.e, s.f, s.g, s.h]
def sOut (l : List Nat) : Nat → List UInt8
  | 0 => []
  | n + 1 => sOut l n ++ by4 (nth l n)
def sSum (l : List UInt8) : List UInt8 := sOut (sFold (l ++ sPad l.length) ((l ++ sPad l.length).length / 64)).list 8

theorem sOut_length (l : List Nat) (n : Nat) : (sOut l n).length = 4 * n := by
  induction n with
  | zero => rfl
  | succ n ih => simp only [sOut, List.length_append, ih, by4, List.length_cons, List.length_nil]; omega
theorem sSum_length (l : List UInt8) : (sSum l).length = 32 := sOut_length _ _
theorem l16_length (g : List UInt8) (n : Nat) : (l16 g n).length = n := by
  induction n with
  | zero => rfl
  | succ n ih => simp [l16, ih]
theorem sW_length (g : List UInt8) (n : Nat) : (sW g n).length = 16 + n := by
  induction n with
  | zero => exact l16_length g 16
  | succ n ih => simp [sW, ih]; omega
theorem sPad_length (n : Nat) : (n + (sPad n).length) % 64 = 0 ∧ (sPad n).length ≤ 72 ∧ 9 ≤ (sPad n).length := by
  simp only [sPad, List.length_cons, List.length_append, List.length_replicate, be8, List.length_nil]; omega
theorem sFold_append (l m : List UInt8) (n : Nat) (h : 64 * n ≤ l.length) : sFold (l ++ m) n = sFold l n := by
  induction n with
  | zero => rfl
  | succ n ih =>
    simp only [sFold]
    rw [ih (by omega), List.drop_append_of_le_length (by omega), List.take_append_of_le_length (by simp; omega)]
theorem sInit_ok : sInit.Ok := ⟨by decide, by decide, by decide, by decide, by decide, by decide, by decide, by decide⟩
theorem sFold_ok (l : List UInt8) (n : Nat) : (sFold l n).Ok := by
  cases n with
  | zero => exact sInit_ok
  | succ n => exact St.add_ok _ _
theorem rnds_ok {s : St} (h : s.Ok) (W : List Nat) (n : Nat) : (rnds s W n).Ok := by
  induction n with
  | zero => exact h
  | succ n ih => exact St.rnd_ok ih _ _
theorem byte_lt (l : List UInt8) (i : Nat) : bth l i < 256 := (l.getD i 0).toNat_lt
theorem be4_lt {a b c d : Nat} (ha : a < 256) (hb : b < 256) (hc : c < 256) (hd : d < 256) : be4 a b c d < 4294967296 := by unfold be4; omega
theorem nth_append_left {l m : List Nat} {i : Nat} (h : i < l.length) : nth (l ++ m) i = nth l i := by
  unfold nth; rw [List.getD_eq_getElem?_getD, List.getElem?_append_left h, ← List.getD_eq_getElem?_getD]
theorem nth_snoc {l : List Nat} {x : Nat} : nth (l ++ [x]) l.length = x := by
  unfold nth; rw [List.getD_eq_getElem?_getD, List.getElem?_append_right (Nat.le_refl _)]; simp
theorem l16_small (g : List UInt8) (n i : Nat) : nth (l16 g n) i < 4294967296 := by
  induction n with
  | zero => show (0 : Nat) < _; decide
  | succ n ih =>
    rcases Nat.lt_trichotomy i n with h | h | h
    · rw [l16, nth_append_left (by rw [l16_length]; exact h)]; exact ih
    · subst h
      have := nth_snoc (l := l16 g i) (x := be4 (bth g (4 * i)) (bth g (4 * i + 1)) (bth g (4 * i + 2)) (bth g (4 * i + 3)))
      rw [l16_length] at this
      rw [l16, this]
      exact be4_lt (byte_lt _ _) (byte_lt _ _) (byte_lt _ _) (byte_lt _ _)
    · unfold nth
      rw [List.getD_eq_getElem?_getD, List.getElem?_eq_none (by rw [l16_length]; omega)]
      decide
theorem sW_small (g : List UInt8) (n i : Nat) : nth (sW g n) i < 4294967296 := by
  induction n with
  | zero => exact l16_small g 16 i
  | succ n ih =>
    rcases Nat.lt_trichotomy i (16 + n) with h | h | h
    · rw [sW, nth_append_left (by rw [sW_length]; exact h)]; exact ih
    · subst h
      have := nth_snoc (l := sW g n) (x := schNext (sW g n))
      rw [sW_length] at this
      rw [sW, this]
      exact ad_lt _ _
    · unfold nth
      rw [List.getD_eq_getElem?_getD, List.getElem?_eq_none (by rw [sW_length]; omega)]
      decide
theorem sK_small (i : Nat) : nth sK i < 4294967296 := by
  rcases Nat.lt_or_ge i 64 with h | h
  · have : ∀ i : Fin 64, nth sK i.val < 4294967296 := by decide +kernel
    exact this ⟨i, h⟩
  · unfold nth
    rw [List.getD_eq_getElem?_getD, List.getElem?_eq_none (by exact h)]
    decide
theorem sum_empty : sSum [] = [0xe3, 0xb0, 0xc4, 0x42, 0x98, 0xfc, 0x1c, 0x14, 0x9a, 0xfb, 0xf4, 0xc8, 0x99, 0x6f, 0xb9, 0x24, 0x27, 0xae, 0x41, 0xe4, 0x64, 0x9b, 0x93, 0x4c, 0xa4, 0x95, 0x99, 0x1b, 0x78, 0x52, 0xb8, 0x55] := by decide +kernel
theorem sum_abc : sSum [97, 98, 99] = [0xba, 0x78, 0x16, 0xbf, 0x8f, 0x01, 0xcf, 0xea, 0x41, 0x41, 0x40, 0xde, 0x5d, 0xae, 0x22, 0x23, 0xb0, 0x03, 0x61, 0xa3, 0x96, 0x17, 0x7a, 0x9c, 0xb4, 0x10, 0xff, 0x61, 0xf2, 0x00, 0x15, 0xad] := by decide +kernel

theorem and_lt32 (a b : Nat) (ha : a < 4294967296) : a &&& b < 4294967296 := Nat.lt_of_le_of_lt Nat.and_le_left ha
theorem and_u32 (a b : Nat) (ha : a < 4294967296) (hb : b < 4294967296) : bits .and .u32 (a : Int) (b : Int) = ((a &&& b : Nat) : Int) := by
  show IntKind.u32.wrap ((BitVec.ofInt 32 (a : Int) &&& BitVec.ofInt 32 (b : Int)).toNat : Int) = _
  have h : a &&& b < 4294967296 := and_lt32 a b ha
  rw [BitVec.toNat_and, ofInt_nat, ofInt_nat, ← p32, Nat.mod_eq_of_lt ha, Nat.mod_eq_of_lt hb, IntKind.wrap_u32]
  omega
theorem and_i64 (a b : Nat) (ha : a < 4294967296) (hb : b < 4294967296) : bits .and .i64 (a : Int) (b : Int) = ((a &&& b : Nat) : Int) := by
  show IntKind.i64.wrap ((BitVec.ofInt 64 (a : Int) &&& BitVec.ofInt 64 (b : Int)).toNat : Int) = _
  have h : a &&& b < 4294967296 := and_lt32 a b ha
  rw [BitVec.toNat_and, ofInt_nat, ofInt_nat, Nat.mod_eq_of_lt (show a < 2 ^ 64 by omega), Nat.mod_eq_of_lt (show b < 2 ^ 64 by omega)]
  exact wrap_i64_small _ (by omega) (by omega)
end Go.Proofs.YtkkcakblphebjaaDoor
