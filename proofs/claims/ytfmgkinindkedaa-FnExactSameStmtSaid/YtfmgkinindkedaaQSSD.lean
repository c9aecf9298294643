/- Joined texts: ValAt TokAt TokArg ValArg. -/
import Derived.Test.YtfmgkinindkedaaQSSC
import Derived.Test.YtfmgkinindkedaaQSSB
import Derived.Deep.QuietTactic
import Derived.BigQuiet
/- A block that holds a value. -/
namespace Go.Proofs.Ytfmgkinindkedaa
open Go.RowKit

/-- block B holds a value -/
def ValAt (W : World) (B : Nat) (k a : Int) (t : ByteArray) : Prop := W.heap[B]? = some (.cells #[.int .i64 k, .int .i64 a, .string t] 53 (0, 0))
theorem ValAt.set0 {W : World} {B : Nat} {k a : Int} {t : ByteArray} (H : ValAt W B k a t) (k' : Int) : ValAt (W.setCell ⟨B, 0, none⟩ (.int .i64 k')) B k' a t :=
  heap_setCell_same W B 0 _ 53 (.int .i64 k') H
theorem ValAt.set1 {W : World} {B : Nat} {k a : Int} {t : ByteArray} (H : ValAt W B k a t) (a' : Int) : ValAt (W.setCell ⟨B, 1, none⟩ (.int .i64 a')) B k a' t :=
  heap_setCell_same W B 1 _ 53 (.int .i64 a') H
theorem ValAt.set2 {W : World} {B : Nat} {k a : Int} {t : ByteArray} (H : ValAt W B k a t) (t' : ByteArray) : ValAt (W.setCell ⟨B, 2, none⟩ (.string t')) B k a t' :=
  heap_setCell_same W B 2 _ 53 (.string t') H
theorem ValAt.set_other {W : World} {B : Nat} {k a : Int} {t : ByteArray} (H : ValAt W B k a t) {C o : Nat} {v : Value} (h : B ≠ C) : ValAt (W.setCell ⟨C, o, none⟩ v) B k a t :=
  (heap_setCell_other W ⟨C, o, none⟩ B v h).trans H
theorem val_new (w : World) (o : Obj) (k a : Int) (t : ByteArray) : ValAt ((w.alloc o).alloc (.cells #[.int .i64 k, .int .i64 a, .string t] 53)) (w.heap.size + 1) k a t := by
  have h := heap_alloc_new (w.alloc o) (.cells #[.int .i64 k, .int .i64 a, .string t] 53)
  have e : (w.alloc o).heap.size = w.heap.size + 1 := by simp
  rw [e] at h
  exact h
theorem val_first (w : World) (o : Obj) : ValAt ((w.alloc (.cells #[.int .i64 0, .int .i64 0, .string ⟨#[]⟩] 53)).alloc o) w.heap.size 0 0 ⟨#[]⟩ :=
  (Below.heap_alloc _ o w.heap.size (by simp)).trans (heap_alloc_new w _)
theorem ValAt.below {W W' : World} {B C : Nat} {k a : Int} {t : ByteArray} (H : ValAt W B k a t) (g : Below C W W') (h : B < C) : ValAt W' B k a t := (g.block B h).trans H
end Go.Proofs.Ytfmgkinindkedaa

/- A block that holds a token. -/
namespace Go.Proofs.Ytfmgkinindkedaa
open Go.RowKit

end Go.Proofs.Ytfmgkinindkedaa

/- Contracts of what the laws do with a token that came in: its size, and a copy of it. -/
namespace Go.Proofs.Ytfmgkinindkedaa
open Go.RowKit

/-- what is left of n behind a text of z bytes, or -1 -/
def leftOf (n z : Int) : Int := if n - z < 0 then -1 else n - z
theorem leftOf_neg {n z : Int} (h : n - z < 0) : decide (leftOf n z < 0) = true := by unfold leftOf; rw [if_pos h]; rfl
theorem leftOf_nat {n z : Int} (h : ¬ n - z < 0) : decide (leftOf n z < 0) = false := by unfold leftOf; rw [if_neg h]; simpa using h

/-- a token comes back -/
def CopyE (k : Int) (t : ByteArray) (a : Int) (w : World) (e : Ending) (w' : World) : Prop := e = .returned (.agg #[.int .i64 k, .string t, .int .i64 a]) ∧ Below w.heap.size w w'

end Go.Proofs.Ytfmgkinindkedaa

/- Contracts of what the laws do with a value that came in: its size, and a copy of it. -/
namespace Go.Proofs.Ytfmgkinindkedaa
open Go.RowKit

set_option maxRecDepth 100000 in
set_option maxHeartbeats 800000 in
theorem szValue_any (k a : Int) (t : ByteArray) (n : Int) (w : World) (ht : t.size ≤ 9223372036854775807) (h0 : 0 ≤ n) (h1 : n ≤ 1048576) :
    Calls Try.prog 60 #[.agg #[.int .i64 k, .int .i64 a, .string t], .int .i64 n] w (IntE (leftOf n t.size) w) := by
  unfold leftOf
  by_cases h : n - (t.size : Int) < 0
  · have d : decide (n - (t.size : Int) < 0) = true := by simpa using h
    rw [if_pos h]
    clear h
    go_enter Try.func60, Try.ntmps60
    go_wp2_with fail
    go_ret
    exact ⟨rfl, (Below.refl _ _).alloc (Nat.le_refl _) _⟩
  · have d : decide (n - (t.size : Int) < 0) = false := by simpa using h
    rw [if_neg h]
    clear h
    go_enter Try.func60, Try.ntmps60
    go_wp2_with fail
    go_ret
    exact ⟨by go_num, (Below.refl _ _).alloc (Nat.le_refl _) _⟩

/-- a value comes back -/
def CopyV (k a : Int) (t : ByteArray) (w : World) (e : Ending) (w' : World) : Prop := e = .returned (.agg #[.int .i64 k, .int .i64 a, .string t]) ∧ Below w.heap.size w w'

set_option maxRecDepth 100000 in
set_option maxHeartbeats 1600000 in
theorem toValue_any (k a : Int) (t : ByteArray) (w : World) :
    Calls Try.prog 63 #[.agg #[.int .i64 k, .int .i64 a, .string t]] w (CopyV k a t w) := by
  go_enter Try.func63, Try.ntmps63
  go_wp2_with fail
  have hF : ValAt (((w.alloc (.cells #[.int .i64 k, .int .i64 a, .string t] 47)).alloc (.cells #[.int .i64 k, .int .i64 a, .string t] 53)).alloc (.cells #[.int .i64 k, .int .i64 a, .string t] 53)) (w.heap.size + 1) k a t :=
    (Below.heap_alloc _ _ (w.heap.size + 1) (by simp)).trans (val_new w _ k a t)
  have f0 := cell_of_row _ (w.heap.size + 1) 0 _ 53 (0, 0) hF
  have f1 := cell_of_row _ (w.heap.size + 1) 1 _ 53 (0, 0) hF
  have f2 := cell_of_row _ (w.heap.size + 1) 2 _ 53 (0, 0) hF
  have hBf : Below w.heap.size w (((w.alloc (.cells #[.int .i64 k, .int .i64 a, .string t] 47)).alloc (.cells #[.int .i64 k, .int .i64 a, .string t] 53)).alloc (.cells #[.int .i64 k, .int .i64 a, .string t] 53)) := (((Below.refl _ _).alloc (Nat.le_refl _) _).alloc (by simp) _).alloc (by simp; omega) _
  clear hF
  generalize ((w.alloc (.cells #[.int .i64 k, .int .i64 a, .string t] 47)).alloc (.cells #[.int .i64 k, .int .i64 a, .string t] 53)).alloc (.cells #[.int .i64 k, .int .i64 a, .string t] 53) = wf at f0 f1 f2 hBf ⊢
  refine bodyPost_ret (v := .agg #[.int .i64 k, .int .i64 a, .string t]) (by simp [results, Try.results63, go_sem, f0, f1, f2]) rfl ?_
  exact ⟨rfl, hBf⟩
end Go.Proofs.Ytfmgkinindkedaa
