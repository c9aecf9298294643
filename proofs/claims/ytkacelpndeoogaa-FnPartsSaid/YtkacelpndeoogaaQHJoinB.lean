/- Joined texts: JoinB. -/
import Derived.Test.YtkacelpndeoogaaProg
import Derived.ProofKit
import Derived.JoinedOf
/- A fact of the program as a whole that every row asks for: what is lifted. -/
namespace Go.Proofs.Ytkacelpndeoogaa
open Go.ChangeShapes Go.WideShapes Go.ChangeAt Go.RowKit

theorem join_lifts : ((false : Bool) == Try.prog.liftsFinal) = true := by kernel_rfl
end Go.Proofs.Ytkacelpndeoogaa
