
/- The contract of the text that marks a number. -/
import Derived.Test.YtodgigdcdgdfdaaDig
import Derived.Deep.QuietTactic
import Derived.BigQuiet
import Derived.Deep.RegionWith
namespace Go.Proofs.Ytodgigdcdgdfdaa
open Go.RowKit
open Go.Lib (decDigits)

/-- the mark of a number -/
def mk (k : Nat) : ByteArray := ⟨(109 :: decDigits k).toArray⟩
theorem mk_ret {m : Nat} {out : ByteArray} (h : decDigits m = out.data.toList) : Ending.returned (.string (⟨#[109]⟩ ++ out)) = .returned (.string (mk m)) := by
  have : (⟨#[109]⟩ : ByteArray) ++ out = mk m := by
    apply WideShapes.bytes_inj
    rw [ByteArray.data_append]
    simp [mk, h]
  rw [this]

end Go.Proofs.Ytodgigdcdgdfdaa
