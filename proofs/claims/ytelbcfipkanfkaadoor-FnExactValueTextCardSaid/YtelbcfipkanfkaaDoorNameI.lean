
/- Contracts of the tests on plain names in the program. -/
import Derived.Test.YtelbcfipkanfkaaDoorNameOkI
import Derived.Test.YtelbcfipkanfkaaDoorKeyOf
namespace Go.Proofs.YtelbcfipkanfkaaDoor
open Go.RowKit

end Go.Proofs.YtelbcfipkanfkaaDoor
