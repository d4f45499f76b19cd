/- Small facts on numbers and lists of bytes that the walks of several packages use. No condition. -/
import Derived.Test.YtkkcakblphebjaaDoorRows
import Derived.WalkKit
import Derived.WalkSpells
import Derived.WalkLawsBesides
import Derived.Lib.Hide
namespace Go.Proofs.YtkkcakblphebjaaDoor
set_option linter.unusedVariables false
open Go.RowKit

theorem ret_int {k : IntKind} {a b : Int} (h : a = b) : Ending.returned (.int k a) = .returned (.int k b) := by rw [h]
theorem ret_bool {a b : Bool} (h : a = b) : Ending.returned (.bool a) = .returned (.bool b) := by rw [h]

theorem wrap64_in (n : Int) (h0 : -9223372036854775808 ≤ n) (h1 : n ≤ 9223372036854775807) : wrap64 n = n := by
  unfold wrap64; omega
theorem wrap64_range (n : Int) : -9223372036854775808 ≤ wrap64 n ∧ wrap64 n ≤ 9223372036854775807 := by
  unfold wrap64; omega
theorem wrap64_add_left (a b : Int) : wrap64 (wrap64 a + b) = wrap64 (a + b) := by unfold wrap64; omega
theorem wrap64_eq (k : Int) : wrap64 k = IntKind.i64.wrap k := by rw [IntKind.wrap_i64]; unfold wrap64; rfl
theorem byte_range (c : UInt8) : 0 ≤ (c.toNat : Int) ∧ (c.toNat : Int) ≤ 255 := by
  have := c.toNat_lt; omega
theorem wrap64_byte (c : UInt8) : wrap64 (c.toNat : Int) = c.toNat := by
  have := byte_range c; exact wrap64_in _ (by omega) (by omega)

theorem ofInt_wrap64 (n : Int) : BitVec.ofInt 64 (wrap64 n) = BitVec.ofInt 64 n := by
  apply BitVec.eq_of_toNat_eq
  simp only [BitVec.toNat_ofInt]
  unfold wrap64
  congr 1
  omega

/-- n << 8 with a byte below -/
theorem shl8_or (n : Int) (c : UInt8) : bits .or .i64 (wrap64 (n * 256)) (wrap64 (c.toNat : Int)) = wrap64 (n * 256 + c.toNat) := by
  have hc := c.toNat_lt
  show IntKind.i64.wrap ((BitVec.ofInt 64 (wrap64 (n * 256)) ||| BitVec.ofInt 64 (wrap64 (c.toNat : Int))).toNat : Int) = _
  rw [ofInt_wrap64, ofInt_wrap64]
  have hb : (BitVec.ofInt 64 (c.toNat : Int)).toNat = c.toNat := by
    simp only [BitVec.toNat_ofInt]; omega
  obtain ⟨q, hq⟩ : ∃ q : Nat, (BitVec.ofInt 64 (n * 256)).toNat = 256 * q := by
    refine ⟨((n * 256) % 18446744073709551616).toNat / 256, ?_⟩
    simp only [BitVec.toNat_ofInt]; omega
  rw [BitVec.toNat_or, hb, hq]
  have h8 : 2 ^ 8 * q + c.toNat = 2 ^ 8 * q ||| c.toNat := Nat.two_pow_add_eq_or_of_lt (by omega) q
  rw [show 256 * q = 2 ^ 8 * q from rfl, ← h8]
  have hq2 : ((256 * q : Nat) : Int) = (n * 256) % 18446744073709551616 := by
    rw [← hq]; simp only [BitVec.toNat_ofInt]; omega
  rw [← wrap64_eq]
  unfold wrap64
  omega

/-- the number in bytes, the most significant first -/
def bev (l : List UInt8) : Int := l.foldl (fun n c => wrap64 (n * 256 + c.toNat)) 0

theorem take_snoc (s : ByteArray) (k : Nat) (h : k < s.size) : s.data.toList.take (k + 1) = s.data.toList.take k ++ [s[k]] := by
  rw [List.take_succ_eq_append_getElem (by simpa using h)]; rfl
theorem bev_snoc (s : ByteArray) (k : Nat) (h : k < s.size) : bev (s.data.toList.take (k + 1)) = wrap64 (bev (s.data.toList.take k) * 256 + s[k].toNat) := by
  rw [take_snoc s k h]; unfold bev; rw [List.foldl_append]; rfl
theorem take_all (s : ByteArray) : s.data.toList.take s.size = s.data.toList := List.take_of_length_le (by simp)

end Go.Proofs.YtkkcakblphebjaaDoor
