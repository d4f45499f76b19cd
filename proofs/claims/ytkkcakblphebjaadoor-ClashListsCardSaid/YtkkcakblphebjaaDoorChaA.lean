/- ChaCha's words: turned, added, mixed. No program. -/
import Derived.Test.YtkkcakblphebjaaDoorKit
namespace Go.Proofs.YtkkcakblphebjaaDoor
set_option linter.unusedVariables false
open Go.RowKit Go.Lib

def rot (x n : Nat) : Nat := x * 2 ^ n % 4294967296 + x / 2 ^ (32 - n)
def ad (a b : Nat) : Nat := (a + b) % 4294967296
def su (a b : Nat) : Nat := (a + 4294967296 - b) % 4294967296
def xo (a b : Nat) : Nat := a ^^^ b
theorem p32 : (4294967296 : Nat) = 2 ^ 32 := by decide
theorem ad_lt (a b : Nat) : ad a b < 4294967296 := Nat.mod_lt _ (by decide)
theorem su_lt (a b : Nat) : su a b < 4294967296 := Nat.mod_lt _ (by decide)
theorem xo_lt {a b : Nat} (ha : a < 4294967296) (hb : b < 4294967296) : xo a b < 4294967296 := by
  rw [p32] at *; exact Nat.xor_lt_two_pow ha hb
theorem split32 (n : Nat) (hn : n ≤ 32) : 4294967296 = 2 ^ n * 2 ^ (32 - n) := by
  rw [p32, ← Nat.pow_add, show n + (32 - n) = 32 from by omega]
theorem rot_high (x n : Nat) (hn : n ≤ 32) : x * 2 ^ n % 4294967296 = 2 ^ n * (x % 2 ^ (32 - n)) := by
  rw [split32 n hn, Nat.mul_comm x, Nat.mul_mod_mul_left]
theorem rot_low (x n : Nat) (hx : x < 4294967296) (hn : n ≤ 32) : x / 2 ^ (32 - n) < 2 ^ n := by
  rw [split32 n hn] at hx
  exact Nat.div_lt_of_lt_mul (by rw [Nat.mul_comm]; exact hx)
theorem rot_or (x n : Nat) (hx : x < 4294967296) (hn : n ≤ 32) : x * 2 ^ n % 4294967296 ||| x / 2 ^ (32 - n) = rot x n := by
  unfold rot
  rw [rot_high x n hn, Nat.two_pow_add_eq_or_of_lt (rot_low x n hx hn)]
theorem rot_lt (x n : Nat) (hx : x < 4294967296) (hn : n ≤ 32) : rot x n < 4294967296 := by
  rw [← rot_or x n hx hn, p32]
  refine Nat.or_lt_two_pow ?_ ?_
  · rw [← p32]; exact Nat.mod_lt _ (by decide)
  · rw [← p32]; exact Nat.lt_of_le_of_lt (Nat.div_le_self _ _) hx
theorem rot_back (x n : Nat) (hx : x < 4294967296) (hn : n ≤ 32) : rot (rot x n) (32 - n) = x := by
  have hl := rot_low x n hx hn
  have hp : 0 < 2 ^ n := Nat.pow_pos (by decide)
  have e : rot x n = 2 ^ n * (x % 2 ^ (32 - n)) + x / 2 ^ (32 - n) := by unfold rot; rw [rot_high x n hn]
  have h1 : rot x n % 2 ^ n = x / 2 ^ (32 - n) := by rw [e, Nat.mul_add_mod, Nat.mod_eq_of_lt hl]
  have h2 : rot x n / 2 ^ n = x % 2 ^ (32 - n) := by
    rw [e, Nat.mul_add_div hp, Nat.div_eq_of_lt hl, Nat.add_zero]
  have h3 := rot_high (rot x n) (32 - n) (by omega)
  rw [show 32 - (32 - n) = n from by omega, h1] at h3
  unfold rot at h3 ⊢
  rw [h3, show 32 - (32 - n) = n from by omega]
  have h2' := h2
  unfold rot at h2'
  rw [h2', Nat.div_add_mod]
/-- the 64-bit way -/
theorem rot_wide (x n : Nat) (hx : x < 4294967296) (hn : n ≤ 31) : (x * 2 ^ n ||| x / 2 ^ (32 - n)) % 4294967296 = rot x n := by
  have hl := rot_low x n hx (by omega)
  rw [Nat.mul_comm x, ← Nat.two_pow_add_eq_or_of_lt hl, Nat.mul_comm (2 ^ n)]
  unfold rot
  have h := rot_high x n (by omega)
  have hlt : 2 ^ n * (x % 2 ^ (32 - n)) + x / 2 ^ (32 - n) < 4294967296 := by
    have := rot_lt x n hx (by omega)
    unfold rot at this; rwa [h] at this
  rw [Nat.add_mod, h]
  rw [Nat.mod_eq_of_lt (show x / 2 ^ (32 - n) < 4294967296 from Nat.lt_of_le_of_lt (Nat.div_le_self _ _) hx)]
  exact Nat.mod_eq_of_lt hlt
theorem xo_xo (a b : Nat) : xo (xo a b) b = a := by unfold xo; rw [Nat.xor_assoc, Nat.xor_self, Nat.xor_zero]
theorem su_ad {a b : Nat} (ha : a < 4294967296) (hb : b < 4294967296) : su (ad a b) b = a := by unfold su ad; omega
theorem ad_su {a b : Nat} (ha : a < 4294967296) (hb : b < 4294967296) : ad (su a b) b = a := by unfold su ad; omega

/-- the bits of two words, in either width -/
theorem ofInt_nat (w n : Nat) : (BitVec.ofInt w (n : Int)).toNat = n % 2 ^ w := by
  rw [BitVec.ofInt_natCast, BitVec.toNat_ofNat]
theorem or_u32 (a b : Nat) (ha : a < 4294967296) (hb : b < 4294967296) : bits .or .u32 (a : Int) (b : Int) = ((a ||| b : Nat) : Int) := by
  show IntKind.u32.wrap ((BitVec.ofInt 32 (a : Int) ||| BitVec.ofInt 32 (b : Int)).toNat : Int) = _
  have h : a ||| b < 4294967296 := by rw [p32] at *; exact Nat.or_lt_two_pow ha hb
  rw [BitVec.toNat_or, ofInt_nat, ofInt_nat, ← p32, Nat.mod_eq_of_lt ha, Nat.mod_eq_of_lt hb, IntKind.wrap_u32]
  omega
theorem xor_u32 (a b : Nat) (ha : a < 4294967296) (hb : b < 4294967296) : bits .xor .u32 (a : Int) (b : Int) = ((xo a b : Nat) : Int) := by
  show IntKind.u32.wrap ((BitVec.ofInt 32 (a : Int) ^^^ BitVec.ofInt 32 (b : Int)).toNat : Int) = _
  have h := xo_lt ha hb
  rw [BitVec.toNat_xor, ofInt_nat, ofInt_nat, ← p32, Nat.mod_eq_of_lt ha, Nat.mod_eq_of_lt hb, IntKind.wrap_u32]
  show ((xo a b : Nat) : Int) % _ = _
  omega
theorem or_i64 (a b : Nat) (ha : a < 9223372036854775808) (hb : b < 9223372036854775808) : bits .or .i64 (a : Int) (b : Int) = ((a ||| b : Nat) : Int) := by
  show IntKind.i64.wrap ((BitVec.ofInt 64 (a : Int) ||| BitVec.ofInt 64 (b : Int)).toNat : Int) = _
  have p63 : (9223372036854775808 : Nat) = 2 ^ 63 := by decide
  have h : a ||| b < 9223372036854775808 := by rw [p63] at *; exact Nat.or_lt_two_pow ha hb
  rw [BitVec.toNat_or, ofInt_nat, ofInt_nat, Nat.mod_eq_of_lt (show a < 2 ^ 64 by omega), Nat.mod_eq_of_lt (show b < 2 ^ 64 by omega)]
  exact wrap_i64_small _ (by omega) (by omega)
theorem xor_i64 (a b : Nat) (ha : a < 4294967296) (hb : b < 4294967296) : bits .xor .i64 (a : Int) (b : Int) = ((xo a b : Nat) : Int) := by
  show IntKind.i64.wrap ((BitVec.ofInt 64 (a : Int) ^^^ BitVec.ofInt 64 (b : Int)).toNat : Int) = _
  have h := xo_lt ha hb
  rw [BitVec.toNat_xor, ofInt_nat, ofInt_nat, Nat.mod_eq_of_lt (show a < 2 ^ 64 by omega), Nat.mod_eq_of_lt (show b < 2 ^ 64 by omega)]
  show IntKind.i64.wrap ((xo a b : Nat) : Int) = _
  exact wrap_i64_small _ (by omega) (by omega)
theorem and_word (n : Int) : bits .and .i64 n 4294967295 = n % 4294967296 := and_mask n 32 (by omega) 4294967295 (by decide)

/-- the quarter round, and back -/
def quart (a b c d : Nat) : Nat × Nat × Nat × Nat :=
  let a1 := ad a b; let d1 := rot (xo d a1) 16; let c1 := ad c d1; let b1 := rot (xo b c1) 12
  let a2 := ad a1 b1; let d2 := rot (xo d1 a2) 8; let c2 := ad c1 d2; let b2 := rot (xo b1 c2) 7
  (a2, b2, c2, d2)
def quartBack (a b c d : Nat) : Nat × Nat × Nat × Nat :=
  let b1 := xo (rot b 25) c; let c1 := su c d; let d1 := xo (rot d 24) a; let a1 := su a b1
  let b0 := xo (rot b1 20) c1; let c0 := su c1 d1; let d0 := xo (rot d1 16) a1; let a0 := su a1 b0
  (a0, b0, c0, d0)
theorem back_quart {a b c d : Nat} (ha : a < 4294967296) (hb : b < 4294967296) (hc : c < 4294967296) (hd : d < 4294967296) :
    quartBack (quart a b c d).1 (quart a b c d).2.1 (quart a b c d).2.2.1 (quart a b c d).2.2.2 = (a, b, c, d) := by
  have ha1 := ad_lt a b
  have hd1 := rot_lt (xo d (ad a b)) 16 (xo_lt hd ha1) (by omega)
  have r16 := rot_back (xo d (ad a b)) 16 (xo_lt hd ha1) (by omega)
  simp only [quart, quartBack]
  generalize hA1 : ad a b = a1 at *
  generalize hD1 : rot (xo d a1) 16 = d1 at *
  have hc1 := ad_lt c d1
  generalize hC1 : ad c d1 = c1 at *
  have hb1 := rot_lt (xo b c1) 12 (xo_lt hb hc1) (by omega)
  have r12 := rot_back (xo b c1) 12 (xo_lt hb hc1) (by omega)
  generalize hB1 : rot (xo b c1) 12 = b1 at *
  have ha2 := ad_lt a1 b1
  have s1 := su_ad ha1 hb1
  generalize ad a1 b1 = a2 at *
  have hd2 := rot_lt (xo d1 a2) 8 (xo_lt hd1 ha2) (by omega)
  have r8 := rot_back (xo d1 a2) 8 (xo_lt hd1 ha2) (by omega)
  generalize rot (xo d1 a2) 8 = d2 at *
  have hc2 := ad_lt c1 d2
  have s2 := su_ad hc1 hd2
  generalize ad c1 d2 = c2 at *
  have r7 := rot_back (xo b1 c2) 7 (xo_lt hb1 hc2) (by omega)
  simp only [Nat.reduceSub] at r16 r12 r8 r7
  rw [r7, xo_xo, s2, r8, xo_xo, s1, r12, xo_xo, r16, xo_xo]
  have s3 := su_ad hc hd1
  have s4 := su_ad ha hb
  rw [hC1] at s3
  rw [hA1] at s4
  rw [s3, s4]
theorem quart_back {a b c d : Nat} (ha : a < 4294967296) (hb : b < 4294967296) (hc : c < 4294967296) (hd : d < 4294967296) :
    quart (quartBack a b c d).1 (quartBack a b c d).2.1 (quartBack a b c d).2.2.1 (quartBack a b c d).2.2.2 = (a, b, c, d) := by
  have r25 := rot_back b 25 hb (by omega)
  have r24 := rot_back d 24 hd (by omega)
  have hb1 := xo_lt (rot_lt b 25 hb (by omega)) hc
  have hd1 := xo_lt (rot_lt d 24 hd (by omega)) ha
  have hc1 := su_lt c d
  have s1 := ad_su hc hd
  simp only [quart, quartBack]
  generalize hB1 : xo (rot b 25) c = b1 at *
  generalize hD1 : xo (rot d 24) a = d1 at *
  generalize hC1 : su c d = c1 at *
  have ha1 := su_lt a b1
  have s2 := ad_su ha hb1
  generalize su a b1 = a1 at *
  have r20 := rot_back b1 20 hb1 (by omega)
  have r16 := rot_back d1 16 hd1 (by omega)
  have hb0 := xo_lt (rot_lt b1 20 hb1 (by omega)) hc1
  have s3 := ad_su ha1 hb0
  have s4 := ad_su hc1 hd1
  simp only [Nat.reduceSub] at r25 r24 r20 r16
  have e8 : rot (xo d1 a) 8 = d := by rw [← hD1, xo_xo, r24]
  rw [s3, xo_xo, r16, s4, xo_xo, r20, s2, e8, s1, ← hB1, xo_xo, r25]
end Go.Proofs.YtkkcakblphebjaaDoor
