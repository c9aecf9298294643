
/- A block that holds a token. -/
import Derived.Test.YtgihklohhjhjbaaLexMath2
namespace Go.Proofs.Ytgihklohhjhjbaa
open Go.RowKit

/-- block B holds a token -/
def TokAt (W : World) (B : Nat) (k : Int) (t : ByteArray) (a : Int) : Prop := W.heap[B]? = some (.cells #[.int .i64 k, .string t, .int .i64 a] 82 (0, 0))
theorem TokAt.set0 {W : World} {B : Nat} {k : Int} {t : ByteArray} {a : Int} (H : TokAt W B k t a) (k' : Int) : TokAt (W.setCell ⟨B, 0, none⟩ (.int .i64 k')) B k' t a :=
  heap_setCell_same W B 0 _ 82 (.int .i64 k') H
theorem TokAt.set1 {W : World} {B : Nat} {k : Int} {t : ByteArray} {a : Int} (H : TokAt W B k t a) (t' : ByteArray) : TokAt (W.setCell ⟨B, 1, none⟩ (.string t')) B k t' a :=
  heap_setCell_same W B 1 _ 82 (.string t') H
theorem TokAt.set2 {W : World} {B : Nat} {k : Int} {t : ByteArray} {a : Int} (H : TokAt W B k t a) (a' : Int) : TokAt (W.setCell ⟨B, 2, none⟩ (.int .i64 a')) B k t a' :=
  heap_setCell_same W B 2 _ 82 (.int .i64 a') H
theorem TokAt.set_other {W : World} {B : Nat} {k : Int} {t : ByteArray} {a : Int} (H : TokAt W B k t a) {C o : Nat} {v : Value} (h : B ≠ C) : TokAt (W.setCell ⟨C, o, none⟩ v) B k t a :=
  (heap_setCell_other W ⟨C, o, none⟩ B v h).trans H
theorem tok_new (w : World) (o : Obj) (k : Int) (t : ByteArray) (a : Int) : TokAt ((w.alloc o).alloc (.cells #[.int .i64 k, .string t, .int .i64 a] 82)) (w.heap.size + 1) k t a := by
  have h := heap_alloc_new (w.alloc o) (.cells #[.int .i64 k, .string t, .int .i64 a] 82)
  have e : (w.alloc o).heap.size = w.heap.size + 1 := by simp
  rw [e] at h
  exact h
theorem tok_first (w : World) (o : Obj) : TokAt ((w.alloc (.cells #[.int .i64 0, .string ⟨#[]⟩, .int .i64 0] 82)).alloc o) w.heap.size 0 ⟨#[]⟩ 0 :=
  (Below.heap_alloc _ o w.heap.size (by simp)).trans (heap_alloc_new w _)
theorem TokAt.below {W W' : World} {B C : Nat} {k : Int} {t : ByteArray} {a : Int} (H : TokAt W B k t a) (g : Below C W W') (h : B < C) : TokAt W' B k t a := (g.block B h).trans H
end Go.Proofs.Ytgihklohhjhjbaa
