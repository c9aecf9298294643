
/- A block that holds a token. -/
import Derived.Test.YtjekhgekldkopaaLexMath2
namespace Go.Proofs.Ytjekhgekldkopaa
open Go.RowKit

end Go.Proofs.Ytjekhgekldkopaa
