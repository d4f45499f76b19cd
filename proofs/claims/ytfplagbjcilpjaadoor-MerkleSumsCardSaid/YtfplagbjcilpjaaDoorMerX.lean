/- The frames' module: walks over sums and roots, and the table of the rounds' words. -/
import Derived.Test.YtfplagbjcilpjaaDoorMerL
import Derived.Test.YtfplagbjcilpjaaDoorShaK
namespace Go.Proofs.YtfplagbjcilpjaaDoor
end Go.Proofs.YtfplagbjcilpjaaDoor
