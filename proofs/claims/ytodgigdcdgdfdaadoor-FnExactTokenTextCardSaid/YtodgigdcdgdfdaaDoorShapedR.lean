
/- A start in which the tables of unicode/utf8 lie; the shape gives internal/bytealg.MaxLen (by strings.ReplaceAll). -/
import Derived.Test.YtodgigdcdgdfdaaDoorRetShaped
import Derived.Test.YtodgigdcdgdfdaaDoorMaxI
import Derived.Test.YtodgigdcdgdfdaaDoorShelf
import Derived.Lay
import Derived.LaidMore
import Derived.ChangeOld
import Derived.Below
namespace Go.Proofs.YtodgigdcdgdfdaaDoor
open Go.ChangeShapes Go.WideShapes Go.ChangeAt Go.RowKit

/-- the two tables of unicode/utf8 that the rows list -/
abbrev laidP : List (String × DataW Unit) := [("unicode/utf8.acceptRanges", Rows.laid_unicode_utf8_acceptRanges), ("unicode/utf8.first", Rows.laid_unicode_utf8_first)]
theorem laidOut : laidOutB Tryd.prog = true := by kernel_rfl
theorem maxI_of {W : World} (h : W.ShapedOpen Tryd.prog) : MaxI W := Tryd.laysM155.s1_3 W h
set_option maxRecDepth 100000 in
theorem all_met (os : Os) (args : Array Value) : laidMetH Tryd.prog laidP ((World.laidAll Tryd.prog os laidP).forCall (fun _ _ => 0) ⟨#[], args, []⟩).memory := by
  rw [MakeChecks.laidMetH_plain _ _ _ (by kernel_rfl)]
  exact laidMet_laidAll _ (by kernel_rfl) (by kernel_rfl)
end Go.Proofs.YtodgigdcdgdfdaaDoor
