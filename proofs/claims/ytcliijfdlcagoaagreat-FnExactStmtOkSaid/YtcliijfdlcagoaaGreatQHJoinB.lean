/- Joined texts: JoinB. -/
import Derived.Test.YtcliijfdlcagoaaGreatProg
import Derived.ProofKit
import Derived.JoinedOf
namespace Go.Proofs.YtcliijfdlcagoaaGreat
set_option linter.unusedVariables false
set_option linter.unusedSimpArgs false
open Go.ChangeShapes Go.WideShapes Go.ChangeAt Go.RowKit
theorem join_lifts : ((false : Bool) == Tryz.prog.liftsFinal) = true := by kernel_rfl
end Go.Proofs.YtcliijfdlcagoaaGreat
