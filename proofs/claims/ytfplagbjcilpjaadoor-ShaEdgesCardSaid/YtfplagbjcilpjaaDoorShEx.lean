/- The frames' module: the walk over edges, and the table of the rounds' words. -/
import Derived.Test.YtfplagbjcilpjaaDoorShE
import Derived.Test.YtfplagbjcilpjaaDoorShaK
namespace Go.Proofs.YtfplagbjcilpjaaDoor
end Go.Proofs.YtfplagbjcilpjaaDoor
