
/- A block that holds a token. -/
import Derived.Test.YtelbcfipkanfkaaLexMath2
namespace Go.Proofs.Ytelbcfipkanfkaa
open Go.RowKit

end Go.Proofs.Ytelbcfipkanfkaa
