
/- Contracts of the model's order of values and of rows. -/
import Derived.Test.YtelbcfipkanfkaaDoorValMath
import Derived.Test.YtelbcfipkanfkaaDoorValSlDef
import Derived.Test.YtelbcfipkanfkaaDoorLat
import Derived.Test.YtelbcfipkanfkaaDoorLexMath2
import Derived.Laws.Cover1
namespace Go.Proofs.YtelbcfipkanfkaaDoor
open Go.RowKit

/-- a value as its kind, its number and its bytes -/
def vl (v : Int × Int × ByteArray) : VL := (v.1, v.2.1, v.2.2.data.toList)
theorem ba_toList (t : ByteArray) : t.toList = t.data.toList := ByteArray.toList_eq t

/-- the first n values of f -/
def rowF (n : Nat) (f : Nat → Int × Int × ByteArray) : List VL := (List.range n).map fun j => vl (f j)
theorem rowF_drop {n k : Nat} {f : Nat → Int × Int × ByteArray} (h : k < n) : (rowF n f).drop k = vl (f k) :: (rowF n f).drop (k + 1) := by
  have hl : k < (rowF n f).length := by simpa [rowF] using h
  rw [List.drop_eq_getElem_cons hl]
  congr 1
  simp [rowF]
theorem rowF_end {n k : Nat} {f : Nat → Int × Int × ByteArray} (h : ¬ k < n) : (rowF n f).drop k = [] := by
  apply List.drop_eq_nil_iff.2
  simp [rowF]; omega
theorem ordR_nil_cons (b : VL) (y : List VL) : ordR [] (b :: y) = -1 := rfl
theorem ordR_cons_nil (a : VL) (x : List VL) : ordR (a :: x) [] = 1 := rfl

end Go.Proofs.YtelbcfipkanfkaaDoor
