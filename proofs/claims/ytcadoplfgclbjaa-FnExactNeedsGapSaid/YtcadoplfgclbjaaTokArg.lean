
/- Contracts of what the laws do with a token that came in: its size, and a copy of it. -/
import Derived.Test.YtcadoplfgclbjaaTokAt
import Derived.Test.YtcadoplfgclbjaaPure
import Derived.Deep.QuietTactic
import Derived.BigQuiet
namespace Go.Proofs.Ytcadoplfgclbjaa
open Go.RowKit

/-- what is left of n behind a text of z bytes, or -1 -/
def leftOf (n z : Int) : Int := if n - z < 0 then -1 else n - z
theorem leftOf_neg {n z : Int} (h : n - z < 0) : decide (leftOf n z < 0) = true := by unfold leftOf; rw [if_pos h]; rfl
theorem leftOf_nat {n z : Int} (h : ¬ n - z < 0) : decide (leftOf n z < 0) = false := by unfold leftOf; rw [if_neg h]; simpa using h

set_option maxRecDepth 100000 in
set_option maxHeartbeats 800000 in
theorem szToken_any (k : Int) (t : ByteArray) (a : Int) (n : Int) (w : World) (ht : t.size ≤ 9223372036854775807) (h0 : 0 ≤ n) (h1 : n ≤ 1048576) :
    Calls Try.prog 4 #[.agg #[.int .i64 k, .string t, .int .i64 a], .int .i64 n] w (IntE (leftOf n t.size) w) := by
  unfold leftOf
  by_cases h : n - (t.size : Int) < 0
  · have d : decide (n - (t.size : Int) < 0) = true := by simpa using h
    rw [if_pos h]
    clear h
    go_enter Try.func4, Try.ntmps4
    go_wp2_with fail
    go_ret
    exact ⟨rfl, (Below.refl _ _).alloc (Nat.le_refl _) _⟩
  · have d : decide (n - (t.size : Int) < 0) = false := by simpa using h
    rw [if_neg h]
    clear h
    go_enter Try.func4, Try.ntmps4
    go_wp2_with fail
    go_ret
    exact ⟨by go_num, (Below.refl _ _).alloc (Nat.le_refl _) _⟩

/-- a token comes back -/
def CopyE (k : Int) (t : ByteArray) (a : Int) (w : World) (e : Ending) (w' : World) : Prop := e = .returned (.agg #[.int .i64 k, .string t, .int .i64 a]) ∧ Below w.heap.size w w'

set_option maxRecDepth 100000 in
set_option maxHeartbeats 1600000 in
theorem toToken_any (k : Int) (t : ByteArray) (a : Int) (w : World) :
    Calls Try.prog 6 #[.agg #[.int .i64 k, .string t, .int .i64 a]] w (CopyE k t a w) := by
  go_enter Try.func6, Try.ntmps6
  go_wp2_with fail
  have hF : TokAt (((w.alloc (.cells #[.int .i64 k, .string t, .int .i64 a] 23)).alloc (.cells #[.int .i64 k, .string t, .int .i64 a] 26)).alloc (.cells #[.int .i64 k, .string t, .int .i64 a] 26)) (w.heap.size + 1) k t a :=
    (Below.heap_alloc _ _ (w.heap.size + 1) (by simp)).trans (tok_new w _ k t a)
  have f0 := cell_of_row _ (w.heap.size + 1) 0 _ 26 (0, 0) hF
  have f1 := cell_of_row _ (w.heap.size + 1) 1 _ 26 (0, 0) hF
  have f2 := cell_of_row _ (w.heap.size + 1) 2 _ 26 (0, 0) hF
  have hBf : Below w.heap.size w (((w.alloc (.cells #[.int .i64 k, .string t, .int .i64 a] 23)).alloc (.cells #[.int .i64 k, .string t, .int .i64 a] 26)).alloc (.cells #[.int .i64 k, .string t, .int .i64 a] 26)) := (((Below.refl _ _).alloc (Nat.le_refl _) _).alloc (by simp) _).alloc (by simp; omega) _
  clear hF
  generalize ((w.alloc (.cells #[.int .i64 k, .string t, .int .i64 a] 23)).alloc (.cells #[.int .i64 k, .string t, .int .i64 a] 26)).alloc (.cells #[.int .i64 k, .string t, .int .i64 a] 26) = wf at f0 f1 f2 hBf ⊢
  refine bodyPost_ret (v := .agg #[.int .i64 k, .string t, .int .i64 a]) (by simp [results, Try.results6, go_sem, f0, f1, f2]) rfl ?_
  exact ⟨rfl, hBf⟩
end Go.Proofs.Ytcadoplfgclbjaa
