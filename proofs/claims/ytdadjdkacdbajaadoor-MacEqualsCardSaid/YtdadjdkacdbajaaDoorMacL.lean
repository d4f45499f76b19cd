/- HMAC-SHA-256: the laws' walks as the frames ask them. -/
import Derived.Test.YtdadjdkacdbajaaDoorMacC
import Derived.OpenShut
namespace Go.Proofs.YtdadjdkacdbajaaDoor
set_option linter.unusedVariables false
open Go.RowKit Go.Lib
theorem u8_of {n : Int} (h : (Lit.int .u8 n).wf = true) : ∃ c : UInt8, n = (c.toNat : Int) := by
  have h2 := bounds_u8 h
  exact ⟨UInt8.ofNat n.toNat, by rw [UInt8.toNat_ofNat']; omega⟩
theorem macEquals_w {w : World} (a : List UInt8) (ha : a.length ≤ 140737488351232) (b : List UInt8) (hb : b.length ≤ 140737488351232) (hk : KAt w) :
    Calls Tryd.prog 12 #[.string (str a), .string (str b)] w fun e w' => e = .returned (.bool true) ∧ Below w.heap.size w w' := macEquals_walk a b w ha hb hk
theorem macSteps_w {w : World} (a : List UInt8) (ha : a.length ≤ 140737488351232) (b : List UInt8) (hb : b.length ≤ 140737488351232) (n : Int) (hn : (Lit.int .u8 n).wf = true) (hk : KAt w) :
    Calls Tryd.prog 13 #[.string (str a), .string (str b), .int .u8 n] w fun e w' => e = .returned (.bool true) ∧ Below w.heap.size w w' := by
  obtain ⟨c, rfl⟩ := u8_of hn
  exact macSteps_walk a b c w ha hb hk
end Go.Proofs.YtdadjdkacdbajaaDoor
