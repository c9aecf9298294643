/- Joined texts: JoinB. -/
import Derived.Test.YtfmgkinindkedaaProg
import Derived.ProofKit
import Derived.JoinedOf
/- A fact of the program as a whole that every row asks for: what is lifted. -/
namespace Go.Proofs.Ytfmgkinindkedaa
open Go.ChangeShapes Go.WideShapes Go.ChangeAt Go.RowKit

theorem join_lifts : ((false : Bool) == Try.prog.liftsFinal) = true := by kernel_rfl
end Go.Proofs.Ytfmgkinindkedaa
