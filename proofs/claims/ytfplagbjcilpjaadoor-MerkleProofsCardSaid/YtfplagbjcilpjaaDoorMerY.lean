/- The frames' module: walks over proofs and ways, and the table of the rounds' words. -/
import Derived.Test.YtfplagbjcilpjaaDoorMerP
import Derived.Test.YtfplagbjcilpjaaDoorMerR
import Derived.Test.YtfplagbjcilpjaaDoorShaK
namespace Go.Proofs.YtfplagbjcilpjaaDoor
end Go.Proofs.YtfplagbjcilpjaaDoor
