/- Joined texts: GapLaw. -/
import Derived.Test.YtcadoplfgclbjaaDoorQV
import Derived.Test.YtcadoplfgclbjaaDoorQT
import Derived.Test.YtcadoplfgclbjaaDoorQD
/- The walk of the law on NeedsGap, from the contract of the program's function. -/
namespace Go.Proofs.YtcadoplfgclbjaaDoor
open Go.RowKit

/-- what the program's NeedsGap is known to do -/
def GapI : Prop := ∀ (k : Int) (t : ByteArray) (a k' : Int) (t' : ByteArray) (a' : Int) (w : World), t.size ≤ 9223372036854775807 → t'.size ≤ 9223372036854775807 →
    Calls Tryd.prog 9 #[.agg #[.int .i64 k, .string t, .int .i64 a], .agg #[.int .i64 k', .string t', .int .i64 a']] w (BoolE (gapB k t.data.toList k' t'.data.toList) w)

/-- two blocks of tokens that came in -/
def twoArg (k : Int) (t : ByteArray) (a k' : Int) (t' : ByteArray) (a' : Int) (w : World) : World :=
  (w.alloc (.cells #[.int .i64 k, .string t, .int .i64 a] 58)).alloc (.cells #[.int .i64 k', .string t', .int .i64 a'] 58)
theorem twoArg_size (k : Int) (t : ByteArray) (a k' : Int) (t' : ByteArray) (a' : Int) (w : World) : (twoArg k t a k' t' a' w).heap.size = w.heap.size + 2 := by simp [twoArg]
theorem twoArg_below (k : Int) (t : ByteArray) (a k' : Int) (t' : ByteArray) (a' : Int) (w : World) : Below w.heap.size w (twoArg k t a k' t' a' w) :=
  ((Below.refl w.heap.size w).alloc (Nat.le_refl _) _).alloc (by simp) _
theorem twoArg_cells {k : Int} {t : ByteArray} {a k' : Int} {t' : ByteArray} {a' : Int} {w w' : World} (h : Below (w.heap.size + 2) (twoArg k t a k' t' a' w) w') :
    w'.cell? ⟨w.heap.size, 0, none⟩ = some (.int .i64 k) ∧ w'.cell? ⟨w.heap.size, 1, none⟩ = some (.string t) ∧ w'.cell? ⟨w.heap.size, 2, none⟩ = some (.int .i64 a) ∧
    w'.cell? ⟨w.heap.size + 1, 0, none⟩ = some (.int .i64 k') ∧ w'.cell? ⟨w.heap.size + 1, 1, none⟩ = some (.string t') ∧ w'.cell? ⟨w.heap.size + 1, 2, none⟩ = some (.int .i64 a') := by
  have r1 : (twoArg k t a k' t' a' w).heap[w.heap.size]? = some (.cells #[.int .i64 k, .string t, .int .i64 a] 58) := by
    unfold twoArg
    rw [Below.heap_alloc _ _ _ (by simp)]
    exact heap_alloc_new w _
  have r2 : (twoArg k t a k' t' a' w).heap[w.heap.size + 1]? = some (.cells #[.int .i64 k', .string t', .int .i64 a'] 58) := by
    have := heap_alloc_new (w.alloc (.cells #[.int .i64 k, .string t, .int .i64 a] 58)) (.cells #[.int .i64 k', .string t', .int .i64 a'] 58)
    simpa [twoArg] using this
  refine ⟨?_, ?_, ?_, ?_, ?_, ?_⟩
  · rw [h.cell (by show w.heap.size < _; omega), cell_of_row _ _ 0 _ 58 (0, 0) r1]; rfl
  · rw [h.cell (by show w.heap.size < _; omega), cell_of_row _ _ 1 _ 58 (0, 0) r1]; rfl
  · rw [h.cell (by show w.heap.size < _; omega), cell_of_row _ _ 2 _ 58 (0, 0) r1]; rfl
  · rw [h.cell (by show w.heap.size + 1 < _; omega), cell_of_row _ _ 0 _ 58 (0, 0) r2]; rfl
  · rw [h.cell (by show w.heap.size + 1 < _; omega), cell_of_row _ _ 1 _ 58 (0, 0) r2]; rfl
  · rw [h.cell (by show w.heap.size + 1 < _; omega), cell_of_row _ _ 2 _ 58 (0, 0) r2]; rfl

end Go.Proofs.YtcadoplfgclbjaaDoor
