/- Trees of sums: the program's root of any leaves' sums, by a contract. -/
import Derived.Test.YtkkcakblphebjaaDoorMerA
import Derived.Test.YtkkcakblphebjaaDoorMerB
import Derived.Deep.RegionWith
namespace Go.Proofs.YtkkcakblphebjaaDoor
set_option linter.unusedVariables false
set_option linter.unusedSimpArgs false
open Go.RowKit Go.Lib
theorem add_0 (ad : Addr) : ad.add 0 = ad := by unfold Addr.add; split <;> simp_all
theorem below_nextM {w X w' : World} (h : Below w.heap.size w X) (hb : Below X.heap.size X w') : Below w.heap.size w w' := h.trans (hb.mono h.size)
attribute [local irreducible] str sSum wid tS tLeaf tNode cutN
end Go.Proofs.YtkkcakblphebjaaDoor
