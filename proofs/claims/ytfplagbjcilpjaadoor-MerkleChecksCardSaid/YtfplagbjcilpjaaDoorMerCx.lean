/- The frames' module: the walk over checks, and the table of the rounds' words. -/
import Derived.Test.YtfplagbjcilpjaaDoorMerCk
import Derived.Test.YtfplagbjcilpjaaDoorShaK
namespace Go.Proofs.YtfplagbjcilpjaaDoor
end Go.Proofs.YtfplagbjcilpjaaDoor
