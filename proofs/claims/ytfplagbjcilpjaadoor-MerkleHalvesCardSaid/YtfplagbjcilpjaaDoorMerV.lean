/- The frames' module: the walk over halves, and the table of the rounds' words. -/
import Derived.Test.YtfplagbjcilpjaaDoorMerS
import Derived.Test.YtfplagbjcilpjaaDoorShaK
namespace Go.Proofs.YtfplagbjcilpjaaDoor
end Go.Proofs.YtfplagbjcilpjaaDoor
