
/- The contract of the program's Digits, over the library's Itoa; what the listed tables give. -/
import Derived.Test.YtelbcfipkanfkaaDoorDig
import Derived.Test.YtelbcfipkanfkaaDoorShelf
import Derived.Lib.LaidTab
import Derived.WalkSmall
import Derived.Sort.Grow
namespace Go.Proofs.YtelbcfipkanfkaaDoor
open Go.RowKit
open Go.Lib (decDigits itoa)

theorem Tryd.gPow : Tryd.prog.globalNamed "internal/strconv.uint64pow10" = some 0 := by kernel_rfl
theorem below_grow (B : Nat) (w : World) (k : Nat) (os : Array Obj) (hB : B ≤ w.heap.size) : Below B w (Go.Sort.grow (w.drewN k) os) :=
  ⟨rfl, rfl, rfl, by show w.heap.size ≤ (w.heap ++ os).size; simp, fun i hi => by
    show (w.heap ++ os)[i]? = w.heap[i]?
    rw [Array.getElem?_append_left (by omega)]⟩
/-- the table of powers of ten lies as listed, in a world whose first blocks are kept -/
def Pows (w : World) : Prop := Lib.TabIs Tryd.prog w "internal/strconv.uint64pow10" .u64 Lib.pow10Tab
theorem Pows.later {B : Nat} {w w' : World} (h : Pows w) (g : Below B w w') (hB : 0 < B) : Pows w' := var?_below g Tryd.gPow hB h
theorem Pows.pos {w : World} (h : Pows w) : 0 < w.heap.size := by
  have h2 := Lib.TabIs.cell h Tryd.gPow 0 (by decide)
  rcases Nat.eq_zero_or_pos w.heap.size with e | e
  · have : w.heap[0]? = none := Array.getElem?_eq_none (by omega)
    simp [World.cell?, this] at h2
  · exact e

theorem digits_impl (n : Int) (w : World) (h0 : -9223372036854775808 ≤ n) (h1 : n ≤ 9223372036854775807) (hp : Pows w) :
    Calls Tryd.prog 12 #[.int .i64 n] w (StrE (itoa n) w) := by
  go_enter Tryd.func12, Tryd.ntmps12
  go_wp2_with fail
  refine (Tryd.strconv_Itoa n h0 h1 _ hp).mono ?_
  rintro e w1 ⟨rfl, k, os, hw⟩
  have hb : Below w.heap.size w w1 := by rw [hw]; exact below_grow _ _ _ _ (Nat.le_refl _)
  clear hw
  go_wp2_with fail
  go_ret
  exact ⟨rfl, hb⟩

def TrueE (w : World) (e : Ending) (w' : World) : Prop := e = .returned (.bool true) ∧ Below w.heap.size w w'

end Go.Proofs.YtelbcfipkanfkaaDoor
