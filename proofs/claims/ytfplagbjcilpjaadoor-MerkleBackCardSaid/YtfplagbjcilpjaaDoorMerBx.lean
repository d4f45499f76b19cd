/- The frames' module: the walk over the way back, and the table of the rounds' words. -/
import Derived.Test.YtfplagbjcilpjaaDoorMerBk
import Derived.Test.YtfplagbjcilpjaaDoorShaK
namespace Go.Proofs.YtfplagbjcilpjaaDoor
end Go.Proofs.YtfplagbjcilpjaaDoor
