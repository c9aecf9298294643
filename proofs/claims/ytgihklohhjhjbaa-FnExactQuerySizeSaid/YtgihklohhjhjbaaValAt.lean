
/- A block that holds a value. -/
import Derived.Test.YtgihklohhjhjbaaLexMath2
namespace Go.Proofs.Ytgihklohhjhjbaa
open Go.RowKit

/-- block B holds a value -/
def ValAt (W : World) (B : Nat) (k a : Int) (t : ByteArray) : Prop := W.heap[B]? = some (.cells #[.int .i64 k, .int .i64 a, .string t] 25 (0, 0))
theorem ValAt.set0 {W : World} {B : Nat} {k a : Int} {t : ByteArray} (H : ValAt W B k a t) (k' : Int) : ValAt (W.setCell ⟨B, 0, none⟩ (.int .i64 k')) B k' a t :=
  heap_setCell_same W B 0 _ 25 (.int .i64 k') H
theorem ValAt.set1 {W : World} {B : Nat} {k a : Int} {t : ByteArray} (H : ValAt W B k a t) (a' : Int) : ValAt (W.setCell ⟨B, 1, none⟩ (.int .i64 a')) B k a' t :=
  heap_setCell_same W B 1 _ 25 (.int .i64 a') H
theorem ValAt.set2 {W : World} {B : Nat} {k a : Int} {t : ByteArray} (H : ValAt W B k a t) (t' : ByteArray) : ValAt (W.setCell ⟨B, 2, none⟩ (.string t')) B k a t' :=
  heap_setCell_same W B 2 _ 25 (.string t') H
theorem ValAt.set_other {W : World} {B : Nat} {k a : Int} {t : ByteArray} (H : ValAt W B k a t) {C o : Nat} {v : Value} (h : B ≠ C) : ValAt (W.setCell ⟨C, o, none⟩ v) B k a t :=
  (heap_setCell_other W ⟨C, o, none⟩ B v h).trans H
theorem val_new (w : World) (o : Obj) (k a : Int) (t : ByteArray) : ValAt ((w.alloc o).alloc (.cells #[.int .i64 k, .int .i64 a, .string t] 25)) (w.heap.size + 1) k a t := by
  have h := heap_alloc_new (w.alloc o) (.cells #[.int .i64 k, .int .i64 a, .string t] 25)
  have e : (w.alloc o).heap.size = w.heap.size + 1 := by simp
  rw [e] at h
  exact h
theorem val_first (w : World) (o : Obj) : ValAt ((w.alloc (.cells #[.int .i64 0, .int .i64 0, .string ⟨#[]⟩] 25)).alloc o) w.heap.size 0 0 ⟨#[]⟩ :=
  (Below.heap_alloc _ o w.heap.size (by simp)).trans (heap_alloc_new w _)
theorem ValAt.below {W W' : World} {B C : Nat} {k a : Int} {t : ByteArray} (H : ValAt W B k a t) (g : Below C W W') (h : B < C) : ValAt W' B k a t := (g.block B h).trans H
end Go.Proofs.Ytgihklohhjhjbaa
