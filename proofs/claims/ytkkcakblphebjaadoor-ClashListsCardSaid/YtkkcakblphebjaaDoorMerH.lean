/- Trees of sums: the program's proof of any leaf: its closure, which calls itself, by a contract. -/
import Derived.Test.YtkkcakblphebjaaDoorMerD
import Derived.Test.YtkkcakblphebjaaDoorMerF
import Derived.Test.YtkkcakblphebjaaDoorMerG
import Derived.Test.YtkkcakblphebjaaDoorMerW
import Derived.Handy
namespace Go.Proofs.YtkkcakblphebjaaDoor
set_option linter.unusedVariables false
set_option linter.unusedSimpArgs false
open Go.RowKit Go.Lib
attribute [local irreducible] str sSum wid tS tLeaf tNode cutN strs
end Go.Proofs.YtkkcakblphebjaaDoor
