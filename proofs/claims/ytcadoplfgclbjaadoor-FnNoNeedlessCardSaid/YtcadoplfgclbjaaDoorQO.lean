/- Joined texts: LexLaw LexBad SameI LexPlaces. -/
import Derived.Test.YtcadoplfgclbjaaDoorQF
import Derived.Test.YtcadoplfgclbjaaDoorQG
import Derived.Test.YtcadoplfgclbjaaDoorQL
import Derived.Test.YtcadoplfgclbjaaDoorQM
import Derived.Test.YtcadoplfgclbjaaDoorQD
/- The walk of the law FnExactLex, from the contract of the program's lexer. -/
namespace Go.Proofs.YtcadoplfgclbjaaDoor
open Go.RowKit

end Go.Proofs.YtcadoplfgclbjaaDoor

/- The walk of the law FnLexBad, from the contract of the program's lexer. -/
namespace Go.Proofs.YtcadoplfgclbjaaDoor
open Go.RowKit

/-- what the program's lexer is known to do -/
def LexI : Prop := ∀ (s : ByteArray) (w : World), s.size ≤ 9223372036854775807 → MaxI w → Calls Tryd.prog 12 #[.string s] w (LexE (lexR s.data.toList) w)
theorem lexR_small {l : List UInt8} (h : l.length ≤ 2000) : lexR l = lexF l 0 := by unfold lexR; rw [if_neg (by omega)]
theorem ext_take (s : ByteArray) (p : Nat) : (s.extract 0 p).data.toList = s.data.toList.take p := by rw [Lib.extract_data]; simp

end Go.Proofs.YtcadoplfgclbjaaDoor
