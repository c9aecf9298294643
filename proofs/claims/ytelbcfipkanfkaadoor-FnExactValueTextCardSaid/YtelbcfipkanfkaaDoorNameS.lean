
/- Contracts of the tests on names in the model. -/
import Derived.Test.YtelbcfipkanfkaaDoorNameDef
import Derived.Test.YtelbcfipkanfkaaDoorKeyOf
namespace Go.Proofs.YtelbcfipkanfkaaDoor
open Go.RowKit

end Go.Proofs.YtelbcfipkanfkaaDoor
