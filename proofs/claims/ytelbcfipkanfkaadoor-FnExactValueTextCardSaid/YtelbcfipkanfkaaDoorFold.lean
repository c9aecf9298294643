
/- Contracts of Fold, program and model. -/
import Derived.Test.YtelbcfipkanfkaaDoorBase
import Derived.Test.YtelbcfipkanfkaaDoorOwn
import Derived.Test.YtelbcfipkanfkaaDoorKeyMath
namespace Go.Proofs.YtelbcfipkanfkaaDoor
open Go.RowKit

theorem upL_getD (l : List UInt8) (j : Nat) : upB (l.getD j 0) = (upL l).getD j 0 := by
  unfold upL
  rw [List.getD_eq_getElem?_getD, List.getD_eq_getElem?_getD, List.getElem?_map]
  cases l[j]? <;> rfl

end Go.Proofs.YtelbcfipkanfkaaDoor
