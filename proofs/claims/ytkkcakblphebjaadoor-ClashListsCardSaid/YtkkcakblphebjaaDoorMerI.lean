/- Trees of sums: the program's proof of any leaf, by a contract. -/
import Derived.Test.YtkkcakblphebjaaDoorMerH
import Derived.Laws.EntriesVeiled
namespace Go.Proofs.YtkkcakblphebjaaDoor
set_option linter.unusedVariables false
set_option linter.unusedSimpArgs false
open Go.RowKit Go.Lib
attribute [local irreducible] str sSum wid tS tLeaf tNode cutN strs
end Go.Proofs.YtkkcakblphebjaaDoor
