/- The frames' module: walks over headers, and the table of the rounds' words. -/
import Derived.Test.YtabeehljpdehcaaDoorHdY
import Derived.Test.YtabeehljpdehcaaDoorShaK
namespace Go.Proofs.YtabeehljpdehcaaDoor
end Go.Proofs.YtabeehljpdehcaaDoor
