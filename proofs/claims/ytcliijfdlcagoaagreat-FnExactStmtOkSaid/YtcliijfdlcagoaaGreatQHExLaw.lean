/- Joined texts: ExLaw. -/
import Derived.Test.YtcliijfdlcagoaaGreatQZAG
import Derived.Test.YtcliijfdlcagoaaGreatQHToS
import Derived.Test.YtcliijfdlcagoaaGreatQHSzS
import Derived.Test.YtcliijfdlcagoaaGreatQHEqS
import Derived.Deep.RegionWith
namespace Go.Proofs.YtcliijfdlcagoaaGreat
set_option linter.unusedVariables false
set_option linter.unusedSimpArgs false
open Go.RowKit
end Go.Proofs.YtcliijfdlcagoaaGreat
