
/- The contract of NameOk in the program. -/
import Derived.Test.YtelbcfipkanfkaaDoorNameDef
namespace Go.Proofs.YtelbcfipkanfkaaDoor
open Go.RowKit

end Go.Proofs.YtelbcfipkanfkaaDoor
