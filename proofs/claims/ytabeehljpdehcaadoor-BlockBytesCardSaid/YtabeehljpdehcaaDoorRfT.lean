/- HMAC by definition: a buffer that a conversion began: stores, the string; a key's bytes turned, by a contract. -/
import Derived.Test.YtabeehljpdehcaaDoorRfD
import Derived.Test.YtabeehljpdehcaaDoorMacB
namespace Go.Proofs.YtabeehljpdehcaaDoor
set_option linter.unusedVariables false
set_option linter.unusedSimpArgs false
open Go.RowKit Go.Lib
theorem xor_byte (a b : UInt8) : bits .xor .i64 (a.toNat : Int) (b.toNat : Int) = ((a ^^^ b).toNat : Int) := by
  rw [xor_i64_nat _ _ (by have := a.toNat_lt; omega) (by have := b.toNat_lt; omega), UInt8.toNat_xor]
theorem pad_next (K : List UInt8) (j : Nat) : K ++ List.replicate j 0 ++ [0] = K ++ List.replicate (j + 1) 0 := by
  rw [List.append_assoc, ← List.replicate_succ']
end Go.Proofs.YtabeehljpdehcaaDoor
