
/- Contracts of the functions that draw two numbers. -/
import Derived.Test.YtjekhgekldkopaaDraw
import Derived.Test.YtjekhgekldkopaaDrawS
import Derived.Test.YtjekhgekldkopaaOpMath
namespace Go.Proofs.Ytjekhgekldkopaa
open Go.RowKit

/-- two integers of 64 bits -/
def TwoIntE (B : Nat) (W : World) (e : Ending) (W' : World) : Prop :=
  ∃ x y : Int, (-9223372036854775808 ≤ x ∧ x ≤ 9223372036854775807) ∧ (-9223372036854775808 ≤ y ∧ y ≤ 9223372036854775807) ∧ e = .returned (.tuple #[.int .i64 x, .int .i64 y]) ∧ Below B W W'
set_option maxRecDepth 100000 in
set_option maxHeartbeats 1000000 in
theorem pair_any (B : Nat) (a : Option Addr) (len cap : Nat) (W : World) (H : RowB B a len W) (hB : B ≤ W.heap.size) :
    Calls Try.prog 41 #[.slice a len cap] W (TwoIntE B W) := by
  go_enter Try.func41, Try.ntmps41
  go_wp2_with fail
  refine (new_any B a len cap _ H hB).mono ?_
  rintro e W1 ⟨rfl, hc1, hb1⟩
  go_wp2_with fail
  refine (whole_any B W.heap.size a len cap _ hc1).mono ?_
  rintro e W2 ⟨x, hx0, hx1, rfl, hc2, hg2⟩
  go_wp2_with fail
  refine (whole_any B W.heap.size a len cap _ hc2).mono ?_
  rintro e W3 ⟨y, hy0, hy1, rfl, hc3, hg3⟩
  have hz1 := hb1.size
  have hz2 := hg2.size
  have hbb := below_of_grown (below_of_grown hb1 hg2 hB (by omega)) hg3 hB (by omega)
  go_wp2_with fail
  go_ret2
  exact ⟨x, y, ⟨hx0, hx1⟩, ⟨hy0, hy1⟩, rfl, hbb⟩
set_option maxRecDepth 100000 in
set_option maxHeartbeats 1000000 in
theorem drawAdd_any (B : Nat) (a : Option Addr) (len cap : Nat) (W : World) (H : RowB B a len W) (hB : B ≤ W.heap.size) :
    Calls Try.prog 16 #[.slice a len cap] W (TwoIntE B W) := by
  go_enter Try.func16, Try.ntmps16
  go_wp2_with fail
  refine (pair_any B a len cap _ H hB).mono ?_
  rintro e W1 ⟨x, y, hx, hy, rfl, hb1⟩
  have HX := Lib.hid (And.intro hx hy)
  clear hx hy
  go_wp2_with fail
  go_ret2
  exact ⟨x, y, HX.out.1, HX.out.2, rfl, hb1⟩
set_option maxRecDepth 100000 in
set_option maxHeartbeats 4000000 in
theorem drawMul_any (B : Nat) (a : Option Addr) (len cap : Nat) (W : World) (H : RowB B a len W) (hB : B ≤ W.heap.size) :
    Calls Try.prog 30 #[.slice a len cap] W (TwoIntE B W) := by
  go_enter Try.func30, Try.ntmps30
  go_wp2_with fail
  refine (new_any B a len cap _ H hB).mono ?_
  rintro e W1 ⟨rfl, hc1, hb1⟩
  have hz1 := hb1.size
  go_wp2_with fail
  refine (once_any 3 B W.heap.size a len cap _ hc1 (by omega) (by omega)).mono ?_
  rintro e W2 ⟨b, rfl, hc2, hg2⟩
  have hz2 := hg2.size
  have hb2 := below_of_grown hb1 hg2 hB (by omega)
  have hl2 := hc2.lt
  clear hg2 hc1 hb1
  cases b
  · go_wp2_with fail
    refine (pair_any B a len cap _ (H.later hb2) (by omega)).mono ?_
    rintro e W3 ⟨x, y, hx, hy, rfl, hb3⟩
    have HX := Lib.hid (And.intro hx hy)
    clear hx hy
    have hbb := hb2.trans hb3
    go_wp2_with fail
    go_ret2
    exact ⟨x, y, HX.out.1, HX.out.2, rfl, hbb⟩
  · go_wp2_with fail
    refine (pickInt_any W2.heap.size 6 (-4294967296) 4294967296 B W.heap.size a len cap _ (hc2.alloc _) (by omega) (by omega) (by simp) (by omega) ?_).mono ?_
    · intro j hj
      rw [cell_of_row _ W2.heap.size j _ 3 (0, 0) (heap_alloc_new W2 _)]
      rcases (show j = 0 ∨ j = 1 ∨ j = 2 ∨ j = 3 ∨ j = 4 ∨ j = 5 by omega) with rfl | rfl | rfl | rfl | rfl | rfl <;> exact ⟨_, by decide, by decide, rfl⟩
    · rintro e W3 ⟨x, hx0, hx1, rfl, hc3, hg3⟩
      have hb3 := below_of_grown (hb2.alloc (by omega) _) hg3 hB (by simp; omega)
      have hz3 := hg3.size
      have hl3 := hc3.lt
      clear hg3 hc2
      go_wp2_with fail
      refine (pickInt_any W3.heap.size 6 (-4294967296) 4294967296 B W.heap.size a len cap _ (hc3.alloc _) (by omega) (by omega) (by simp) (by omega) ?_).mono ?_
      · intro j hj
        rw [cell_of_row _ W3.heap.size j _ 3 (0, 0) (heap_alloc_new W3 _)]
        rcases (show j = 0 ∨ j = 1 ∨ j = 2 ∨ j = 3 ∨ j = 4 ∨ j = 5 by omega) with rfl | rfl | rfl | rfl | rfl | rfl <;> exact ⟨_, by decide, by decide, rfl⟩
      · rintro e W4 ⟨y, hy0, hy1, rfl, hc4, hg4⟩
        have hbb := below_of_grown (hb3.alloc (by simp at hz3; omega) _) hg4 hB (by simp at hz3 ⊢; omega)
        go_wp2_with fail
        go_ret2
        exact ⟨x, y, ⟨by omega, by omega⟩, ⟨by omega, by omega⟩, rfl, hbb⟩
end Go.Proofs.Ytjekhgekldkopaa
