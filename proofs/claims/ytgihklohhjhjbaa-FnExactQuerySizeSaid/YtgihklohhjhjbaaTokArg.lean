
/- Contracts of what the laws do with a token that came in: its size, and a copy of it. -/
import Derived.Test.YtgihklohhjhjbaaTokAt
import Derived.Test.YtgihklohhjhjbaaPure
import Derived.Deep.QuietTactic
import Derived.BigQuiet
namespace Go.Proofs.Ytgihklohhjhjbaa
open Go.RowKit

/-- what is left of n behind a text of z bytes, or -1 -/
def leftOf (n z : Int) : Int := if n - z < 0 then -1 else n - z
theorem leftOf_neg {n z : Int} (h : n - z < 0) : decide (leftOf n z < 0) = true := by unfold leftOf; rw [if_pos h]; rfl
theorem leftOf_nat {n z : Int} (h : ¬ n - z < 0) : decide (leftOf n z < 0) = false := by unfold leftOf; rw [if_neg h]; simpa using h

/-- a token comes back -/
def CopyE (k : Int) (t : ByteArray) (a : Int) (w : World) (e : Ending) (w' : World) : Prop := e = .returned (.agg #[.int .i64 k, .string t, .int .i64 a]) ∧ Below w.heap.size w w'

end Go.Proofs.Ytgihklohhjhjbaa
