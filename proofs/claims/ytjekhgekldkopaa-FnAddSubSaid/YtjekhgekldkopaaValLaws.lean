
/- The walks of the exact laws on the test on values and on the makers of values. -/
import Derived.Test.YtjekhgekldkopaaValS
import Derived.Test.YtjekhgekldkopaaValSl
namespace Go.Proofs.Ytjekhgekldkopaa
open Go.RowKit

/-- what the program's functions are known to do -/
def ValueOkI : Prop := ∀ (k n : Int) (t : ByteArray) (w : World), t.size ≤ 9223372036854775807 → Calls Try.prog 42 #[.agg #[.int .i64 k, .int .i64 n, .string t]] w (BoolE (valOk k n t.data.toList) w)
def IntValueI : Prop := ∀ (n : Int) (w : World), Calls Try.prog 18 #[.int .i64 n] w (CopyV 1 n ⟨#[]⟩ w)
def TextValueI : Prop := ∀ (s : ByteArray) (w : World), Calls Try.prog 71 #[.string s] w (CopyV 2 0 s w)
def BoolValueI : Prop := ∀ (b : Bool) (w : World), Calls Try.prog 21 #[.bool b] w (CopyV 3 (if b then 1 else 0) ⟨#[]⟩ w)

end Go.Proofs.Ytjekhgekldkopaa
