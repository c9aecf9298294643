/- Joined texts: SqzLaw. -/
import Derived.Test.YtcadoplfgclbjaaGreatDoorQT
import Derived.Test.YtcadoplfgclbjaaGreatDoorQG
/- The walk of the law on Squeeze, from the contract of the program's function. -/
namespace Go.Proofs.YtcadoplfgclbjaaGreatDoor
open Go.RowKit

/-- what the program's Squeeze is known to do -/
def SqzI : Prop := ∀ (s : ByteArray) (w : World), s.size ≤ 9223372036854775807 → MaxI w → Calls Tryz.prog 14 #[.string s] w (SqzE (sqR (lexR s.data.toList)) w)

end Go.Proofs.YtcadoplfgclbjaaGreatDoor
