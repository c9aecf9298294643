
/- The text of a name. -/
import Derived.Test.YtelbcfipkanfkaaDoorNameDef
import Derived.Test.YtelbcfipkanfkaaDoorQuoteMath
namespace Go.Proofs.YtelbcfipkanfkaaDoor
open Go.RowKit

/-- the text of a name -/
def nameL (l : List UInt8) : List UInt8 := if okLen l.length then (if plainB l then l else quoted 34 l) else []
end Go.Proofs.YtelbcfipkanfkaaDoor
