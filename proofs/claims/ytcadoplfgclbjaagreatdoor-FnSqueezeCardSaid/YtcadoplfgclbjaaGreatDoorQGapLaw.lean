/- Joined texts: GapLaw. -/
import Derived.Test.YtcadoplfgclbjaaGreatDoorQV
import Derived.Test.YtcadoplfgclbjaaGreatDoorQT
import Derived.Test.YtcadoplfgclbjaaGreatDoorQD
/- The walk of the law on NeedsGap, from the contract of the program's function. -/
namespace Go.Proofs.YtcadoplfgclbjaaGreatDoor
open Go.RowKit

/-- what the program's NeedsGap is known to do -/
def GapI : Prop := ∀ (k : Int) (t : ByteArray) (a k' : Int) (t' : ByteArray) (a' : Int) (w : World), t.size ≤ 9223372036854775807 → t'.size ≤ 9223372036854775807 →
    Calls Tryz.prog 19 #[.agg #[.int .i64 k, .string t, .int .i64 a], .agg #[.int .i64 k', .string t', .int .i64 a']] w (BoolE (gapB k t.data.toList k' t'.data.toList) w)

end Go.Proofs.YtcadoplfgclbjaaGreatDoor
