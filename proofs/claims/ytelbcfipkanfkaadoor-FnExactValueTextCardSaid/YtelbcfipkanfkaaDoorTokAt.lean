
/- A block that holds a token. -/
import Derived.Test.YtelbcfipkanfkaaDoorLexMath2
namespace Go.Proofs.YtelbcfipkanfkaaDoor
open Go.RowKit

end Go.Proofs.YtelbcfipkanfkaaDoor
