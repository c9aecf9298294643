
/- A start in which the tables of math/bits, internal/strconv and unicode/utf8 lie; the shape gives internal/bytealg.MaxLen (by strings.ReplaceAll). -/
import Derived.Test.YtelbcfipkanfkaaDoorRetShaped
import Derived.Test.YtelbcfipkanfkaaDoorMaxI
import Derived.Test.YtelbcfipkanfkaaDoorItoa
import Derived.Test.YtelbcfipkanfkaaDoorShelf
import Derived.Lay
import Derived.LaidMore
import Derived.ChangeOld
import Derived.Below
namespace Go.Proofs.YtelbcfipkanfkaaDoor
open Go.ChangeShapes Go.WideShapes Go.ChangeAt Go.RowKit

/-- the five tables that the rows list -/
abbrev laidQ : List (String × DataW Unit) := [("math/bits.deBruijn32tab", Rows.laid_math_bits_deBruijn32tab), ("math/bits.deBruijn64tab", Rows.laid_math_bits_deBruijn64tab), ("internal/strconv.uint64pow10", Rows.laid_internal_strconv_uint64pow10), ("unicode/utf8.acceptRanges", Rows.laid_unicode_utf8_acceptRanges), ("unicode/utf8.first", Rows.laid_unicode_utf8_first)]
theorem laidOut : laidOutB Tryd.prog = true := by kernel_rfl
theorem maxI_of {W : World} (h : W.ShapedOpen Tryd.prog) : MaxI W := Tryd.laysM155.s1_3 W h
set_option maxRecDepth 100000 in
theorem all_met (os : Os) (args : Array Value) : laidMetH Tryd.prog laidQ ((World.laidAll Tryd.prog os laidQ).forCall (fun _ _ => 0) ⟨#[], args, []⟩).memory := by
  rw [MakeChecks.laidMetH_plain _ _ _ (by kernel_rfl)]
  exact laidMet_laidAll _ (by kernel_rfl) (by kernel_rfl)
theorem gTy : (Tryd.prog.globals[0]?).map (·.type) = some 62 := by kernel_rfl
theorem pows_of {W : World} (h : laidMetH Tryd.prog laidQ W) : Pows W := by
  rw [MakeChecks.laidMetH_plain _ _ _ (by kernel_rfl)] at h
  obtain ⟨ps, ⟨g0, t0, cs0, f0, p0, q0, hg0, ht0, hv0, hd0, ⟨g1, t1, cs1, f1, p1, q1, hg1, ht1, hv1, hd1, ⟨g2, t2, cs2, f2, p2, q2, hg2, ht2, hv2, hd2, _, _⟩, _⟩, _⟩, _, _⟩ := h
  obtain rfl := Option.some.inj (Tryd.gPow.symm.trans hg2)
  obtain rfl := Option.some.inj (gTy.symm.trans ht2)
  unfold Pows Lib.TabIs
  rw [hv2, ← Lib.cells_of_tab (zs := Lib.pow10Tab) (k := .u64) Tryd.underlying62 Tryd.underlying43 (by kernel_rfl) (by kernel_rfl) hd2]
end Go.Proofs.YtelbcfipkanfkaaDoor
