
/- Contracts of what the laws do with a value that came in: its size, and a copy of it. -/
import Derived.Test.YtgihklohhjhjbaaValAt
import Derived.Test.YtgihklohhjhjbaaTokArg
import Derived.Test.YtgihklohhjhjbaaPure
import Derived.Deep.QuietTactic
import Derived.BigQuiet
namespace Go.Proofs.Ytgihklohhjhjbaa
open Go.RowKit

set_option maxRecDepth 100000 in
set_option maxHeartbeats 800000 in
theorem szValue_any (k a : Int) (t : ByteArray) (n : Int) (w : World) (ht : t.size ≤ 9223372036854775807) (h0 : 0 ≤ n) (h1 : n ≤ 1048576) :
    Calls Try.prog 59 #[.agg #[.int .i64 k, .int .i64 a, .string t], .int .i64 n] w (IntE (leftOf n t.size) w) := by
  unfold leftOf
  by_cases h : n - (t.size : Int) < 0
  · have d : decide (n - (t.size : Int) < 0) = true := by simpa using h
    rw [if_pos h]
    clear h
    go_enter Try.func59, Try.ntmps59
    go_wp2_with fail
    go_ret
    exact ⟨rfl, (Below.refl _ _).alloc (Nat.le_refl _) _⟩
  · have d : decide (n - (t.size : Int) < 0) = false := by simpa using h
    rw [if_neg h]
    clear h
    go_enter Try.func59, Try.ntmps59
    go_wp2_with fail
    go_ret
    exact ⟨by go_num, (Below.refl _ _).alloc (Nat.le_refl _) _⟩

/-- a value comes back -/
def CopyV (k a : Int) (t : ByteArray) (w : World) (e : Ending) (w' : World) : Prop := e = .returned (.agg #[.int .i64 k, .int .i64 a, .string t]) ∧ Below w.heap.size w w'

set_option maxRecDepth 100000 in
set_option maxHeartbeats 1600000 in
theorem toValue_any (k a : Int) (t : ByteArray) (w : World) :
    Calls Try.prog 62 #[.agg #[.int .i64 k, .int .i64 a, .string t]] w (CopyV k a t w) := by
  go_enter Try.func62, Try.ntmps62
  go_wp2_with fail
  have hF : ValAt (((w.alloc (.cells #[.int .i64 k, .int .i64 a, .string t] 47)).alloc (.cells #[.int .i64 k, .int .i64 a, .string t] 25)).alloc (.cells #[.int .i64 k, .int .i64 a, .string t] 25)) (w.heap.size + 1) k a t :=
    (Below.heap_alloc _ _ (w.heap.size + 1) (by simp)).trans (val_new w _ k a t)
  have f0 := cell_of_row _ (w.heap.size + 1) 0 _ 25 (0, 0) hF
  have f1 := cell_of_row _ (w.heap.size + 1) 1 _ 25 (0, 0) hF
  have f2 := cell_of_row _ (w.heap.size + 1) 2 _ 25 (0, 0) hF
  have hBf : Below w.heap.size w (((w.alloc (.cells #[.int .i64 k, .int .i64 a, .string t] 47)).alloc (.cells #[.int .i64 k, .int .i64 a, .string t] 25)).alloc (.cells #[.int .i64 k, .int .i64 a, .string t] 25)) := (((Below.refl _ _).alloc (Nat.le_refl _) _).alloc (by simp) _).alloc (by simp; omega) _
  clear hF
  generalize ((w.alloc (.cells #[.int .i64 k, .int .i64 a, .string t] 47)).alloc (.cells #[.int .i64 k, .int .i64 a, .string t] 25)).alloc (.cells #[.int .i64 k, .int .i64 a, .string t] 25) = wf at f0 f1 f2 hBf ⊢
  refine bodyPost_ret (v := .agg #[.int .i64 k, .int .i64 a, .string t]) (by simp [results, Try.results62, go_sem, f0, f1, f2]) rfl ?_
  exact ⟨rfl, hBf⟩
end Go.Proofs.Ytgihklohhjhjbaa
