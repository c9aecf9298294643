
/- The walk of the law on Order, from the contract of the program's function. -/
import Derived.Test.YtjekhgekldkopaaValArg
import Derived.Test.YtjekhgekldkopaaOrdS
import Derived.Test.YtjekhgekldkopaaLat
namespace Go.Proofs.Ytjekhgekldkopaa
open Go.RowKit

/-- what the program's Order is known to do -/
def OrdI : Prop := ∀ (k a : Int) (t : ByteArray) (k' a' : Int) (t' : ByteArray) (w : World), t.size ≤ 9223372036854775807 → t'.size ≤ 9223372036854775807 →
    Calls Try.prog 49 #[.agg #[.int .i64 k, .int .i64 a, .string t], .agg #[.int .i64 k', .int .i64 a', .string t']] w (IntE (ordV (k, a, t.data.toList) (k', a', t'.data.toList)) w)

/-- two blocks of values that came in -/
def twoArgV (k a : Int) (t : ByteArray) (k' a' : Int) (t' : ByteArray) (w : World) : World :=
  (w.alloc (.cells #[.int .i64 k, .int .i64 a, .string t] 40)).alloc (.cells #[.int .i64 k', .int .i64 a', .string t'] 40)
theorem twoArgV_size (k a : Int) (t : ByteArray) (k' a' : Int) (t' : ByteArray) (w : World) : (twoArgV k a t k' a' t' w).heap.size = w.heap.size + 2 := by simp [twoArgV]
theorem twoArgV_below (k a : Int) (t : ByteArray) (k' a' : Int) (t' : ByteArray) (w : World) : Below w.heap.size w (twoArgV k a t k' a' t' w) :=
  ((Below.refl w.heap.size w).alloc (Nat.le_refl _) _).alloc (by simp) _
theorem twoArgV_cells {k a : Int} {t : ByteArray} {k' a' : Int} {t' : ByteArray} {w w' : World} (h : Below (w.heap.size + 2) (twoArgV k a t k' a' t' w) w') :
    w'.cell? ⟨w.heap.size, 0, none⟩ = some (.int .i64 k) ∧ w'.cell? ⟨w.heap.size, 1, none⟩ = some (.int .i64 a) ∧ w'.cell? ⟨w.heap.size, 2, none⟩ = some (.string t) ∧
    w'.cell? ⟨w.heap.size + 1, 0, none⟩ = some (.int .i64 k') ∧ w'.cell? ⟨w.heap.size + 1, 1, none⟩ = some (.int .i64 a') ∧ w'.cell? ⟨w.heap.size + 1, 2, none⟩ = some (.string t') := by
  have r1 : (twoArgV k a t k' a' t' w).heap[w.heap.size]? = some (.cells #[.int .i64 k, .int .i64 a, .string t] 40) := by
    unfold twoArgV
    rw [Below.heap_alloc _ _ _ (by simp)]
    exact heap_alloc_new w _
  have r2 : (twoArgV k a t k' a' t' w).heap[w.heap.size + 1]? = some (.cells #[.int .i64 k', .int .i64 a', .string t'] 40) := by
    have := heap_alloc_new (w.alloc (.cells #[.int .i64 k, .int .i64 a, .string t] 40)) (.cells #[.int .i64 k', .int .i64 a', .string t'] 40)
    simpa [twoArgV] using this
  refine ⟨?_, ?_, ?_, ?_, ?_, ?_⟩
  · rw [h.cell (by show w.heap.size < _; omega), cell_of_row _ _ 0 _ 40 (0, 0) r1]; rfl
  · rw [h.cell (by show w.heap.size < _; omega), cell_of_row _ _ 1 _ 40 (0, 0) r1]; rfl
  · rw [h.cell (by show w.heap.size < _; omega), cell_of_row _ _ 2 _ 40 (0, 0) r1]; rfl
  · rw [h.cell (by show w.heap.size + 1 < _; omega), cell_of_row _ _ 0 _ 40 (0, 0) r2]; rfl
  · rw [h.cell (by show w.heap.size + 1 < _; omega), cell_of_row _ _ 1 _ 40 (0, 0) r2]; rfl
  · rw [h.cell (by show w.heap.size + 1 < _; omega), cell_of_row _ _ 2 _ 40 (0, 0) r2]; rfl

end Go.Proofs.Ytjekhgekldkopaa
