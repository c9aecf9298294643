/- Joined texts: SpacedLaw. -/
import Derived.Test.YtcadoplfgclbjaaGreatDoorQV
import Derived.Test.YtcadoplfgclbjaaGreatDoorQT
import Derived.Test.YtcadoplfgclbjaaGreatDoorQF
import Derived.Test.YtcadoplfgclbjaaGreatDoorQG
/- The walks of the laws on Spaced and Loose, from the contracts of the program's functions. -/
namespace Go.Proofs.YtcadoplfgclbjaaGreatDoor
open Go.RowKit

/-- what the program's function f is known to do: it writes the tokens with blanks -/
def JoinI (all : Bool) (F : Nat) : Prop := ∀ (B : Nat) (a : Option Addr) (n ca : Nat) (f : Nat → Int × ByteArray × Int) (w : World), TokSl w B a n f → n ≤ 1048576 → Hid (∀ j, j < n → (f j).2.1.size ≤ 9223372036854775807) → MaxI w →
    Calls Tryz.prog F #[.slice a n ca] w (StrE (joinL all n f) w)

end Go.Proofs.YtcadoplfgclbjaaGreatDoor
