/- Joined texts: JoinA. -/
import Derived.Test.YtkacelpndeoogaaProg
import Derived.ProofKit
import Derived.JoinedOf
/- A fact of the program as a whole that every row asks for: it may be entered. -/
namespace Go.Proofs.Ytkacelpndeoogaa
open Go.ChangeShapes Go.WideShapes Go.ChangeAt Go.RowKit

theorem join_enter : Try.prog.mayEnter = true := by kernel_rfl
end Go.Proofs.Ytkacelpndeoogaa
