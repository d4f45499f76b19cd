/- SHA-256: the laws' walks as the frames ask them. -/
import Derived.Test.YtdadjdkacdbajaaDoorShaK
import Derived.Test.YtdadjdkacdbajaaDoorShaJ
namespace Go.Proofs.YtdadjdkacdbajaaDoor
set_option linter.unusedSimpArgs false
set_option linter.unusedVariables false
set_option linter.unusedVariables false
open Go.RowKit Go.Lib
theorem shaNone_w {w : World} (l : List UInt8) (hl : l.length ≤ 140737488351232) (hk : KAt w) :
    Calls Tryd.prog 7 #[.string (str l)] w fun e w' => e = .returned (.bool true) ∧ Below w.heap.size w w' := shaNone_walk l w hk
theorem shaApart_w {w : World} (a : List UInt8) (ha : a.length ≤ 140737488351232) (b : List UInt8) (hb : b.length ≤ 140737488351232) (c : List UInt8) (hc : c.length ≤ 140737488351232) (hk : KAt w) :
    Calls Tryd.prog 6 #[.string (str a), .string (str b), .string (str c)] w fun e w' => e = .returned (.bool true) ∧ Below w.heap.size w w' := shaApart_walk a b c w hk (by omega) (by omega) (by omega)
end Go.Proofs.YtdadjdkacdbajaaDoor
