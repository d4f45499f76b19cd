/- The frames' module: walks over slices of texts, and the table of the rounds' words. -/
import Derived.Test.YtihhjjcghocgaaaDoorStrB
import Derived.Test.YtihhjjcghocgaaaDoorShaK
namespace Go.Proofs.YtihhjjcghocgaaaDoor
end Go.Proofs.YtihhjjcghocgaaaDoor
