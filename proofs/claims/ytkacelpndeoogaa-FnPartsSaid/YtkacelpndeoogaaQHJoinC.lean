/- Joined texts: JoinC. -/
import Derived.Test.YtkacelpndeoogaaProg
import Derived.ProofKit
import Derived.JoinedOf
/- A fact of the program as a whole that every row asks for: how it was made. -/
namespace Go.Proofs.Ytkacelpndeoogaa
open Go.ChangeShapes Go.WideShapes Go.ChangeAt Go.RowKit

theorem join_make : (Try.prog.make == some .cut) = true := by kernel_rfl
end Go.Proofs.Ytkacelpndeoogaa
