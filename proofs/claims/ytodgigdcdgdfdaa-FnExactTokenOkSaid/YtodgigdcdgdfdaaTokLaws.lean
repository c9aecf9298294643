
/- The walks of the laws on single tokens. -/
import Derived.Test.YtodgigdcdgdfdaaTokArg
import Derived.Test.YtodgigdcdgdfdaaTokI
import Derived.Test.YtodgigdcdgdfdaaSignI
namespace Go.Proofs.Ytodgigdcdgdfdaa
open Go.RowKit

set_option maxRecDepth 100000 in
set_option maxHeartbeats 400000 in
theorem ex_signOk (s : ByteArray) (w : World) (hs : s.size ≤ maxLen) : Calls Try.prog 3 #[.string s] w (BoolE true w) := by
  have hs2 : s.size ≤ 9223372036854775807 := hs
  by_cases hbig : 1048576 < s.size
  · have hd : decide (1048576 < (s.size : Int)) = true := by simp; omega
    go_enter Try.func3, Try.ntmps3
    go_wp2
    go_ret
    exact ⟨rfl, Below.refl _ _⟩
  · have hd : decide (1048576 < (s.size : Int)) = false := by simp; omega
    have hS := fun w => signOk_spec s w
    have hI := fun w => signOk_impl s w
    generalize signB s.data.toList = b at hS hI
    cases b
    all_goals
      go_enter Try.func3, Try.ntmps3
      go_wp2_with fail
      refine (hS _).mono ?_
      rintro e w1 ⟨rfl, rfl⟩
      go_wp2_with fail
      refine (hI _).mono ?_
      rintro e w2 ⟨rfl, rfl⟩
      go_wp2_with fail
      go_ret
      exact ⟨rfl, Below.refl _ _⟩

theorem leftOf_neg {n z : Int} (h : n - z < 0) : decide (leftOf n z < 0) = true := by unfold leftOf; rw [if_pos h]; rfl
theorem leftOf_nat {n z : Int} (h : ¬ n - z < 0) : decide (leftOf n z < 0) = false := by unfold leftOf; rw [if_neg h]; simpa using h

set_option maxRecDepth 100000 in
set_option maxHeartbeats 1600000 in
theorem ex_tokenOk (k : Int) (t : ByteArray) (a : Int) (w : World) (hs : t.size ≤ maxLen) : Calls Try.prog 4 #[.agg #[.int .i64 k, .string t, .int .i64 a]] w (BoolE true w) := by
  have hs2 : t.size ≤ 9223372036854775807 := hs
  have hZ := fun w => szToken_any k t a 1048576 w hs2 (by omega) (by omega)
  have hB0 : ∀ w0 : World, w0 = w.alloc (.cells #[.int .i64 k, .string t, .int .i64 a] 24) → w0.heap[w.heap.size]? = some (.cells #[.int .i64 k, .string t, .int .i64 a] 24 (0, 0)) ∧ Below w.heap.size w w0 := fun w0 e => by
    subst e
    exact ⟨heap_alloc_new w _, (Below.refl _ _).alloc (Nat.le_refl _) _⟩
  by_cases hbig : 1048576 - (t.size : Int) < 0
  · have hd := leftOf_neg hbig
    generalize leftOf 1048576 t.size = z at hZ hd
    clear hbig hB0
    go_enter Try.func4, Try.ntmps4
    go_wp2_with fail
    refine (hZ _).mono ?_
    rintro e w1 ⟨rfl, hb1⟩
    have hbb := ((Below.refl w.heap.size w).alloc (Nat.le_refl _) _).trans (hb1.mono (by simp))
    go_wp2_with fail
    go_ret
    exact ⟨rfl, hbb⟩
  · have hd := leftOf_nat hbig
    generalize leftOf 1048576 t.size = z at hZ hd
    clear hbig
    have hS := fun w => tokenOk_spec k t a w hs2
    have hI := fun w => tokenOk_impl k t a w hs2
    have hC := fun w => toToken_any k t a w
    generalize tokOk k t.data.toList = b at hS hI
    cases b
    all_goals
      go_enter Try.func4, Try.ntmps4
      go_wp2_with fail
      obtain ⟨hR, hB⟩ := hB0 _ rfl
      clear hB0
      generalize w.alloc (.cells #[.int .i64 k, .string t, .int .i64 a] 24) = w0 at hR hB ⊢
      refine (hZ _).mono ?_
      rintro e w1 ⟨rfl, hb1⟩
      replace hR := (hb1.block w.heap.size (Array.getElem?_eq_some_iff.1 hR).1).trans hR
      replace hB := hB.trans (hb1.mono hB.size)
      have c0 := cell_of_row w1 w.heap.size 0 _ 24 (0, 0) hR
      have c1 := cell_of_row w1 w.heap.size 1 _ 24 (0, 0) hR
      have c2 := cell_of_row w1 w.heap.size 2 _ 24 (0, 0) hR
      clear hb1 hZ
      go_wp2_with fail
      refine (hC _).mono ?_
      rintro e w2 ⟨rfl, hb2⟩
      replace hR := (hb2.block w.heap.size (Array.getElem?_eq_some_iff.1 hR).1).trans hR
      replace hB := hB.trans (hb2.mono hB.size)
      clear hb2 c0 c1 c2
      go_wp2_with fail
      refine (hS _).mono ?_
      rintro e w3 ⟨rfl, hb3⟩
      replace hR := (hb3.block w.heap.size (Array.getElem?_eq_some_iff.1 hR).1).trans hR
      replace hB := hB.trans (hb3.mono hB.size)
      have c0 := cell_of_row w3 w.heap.size 0 _ 24 (0, 0) hR
      have c1 := cell_of_row w3 w.heap.size 1 _ 24 (0, 0) hR
      have c2 := cell_of_row w3 w.heap.size 2 _ 24 (0, 0) hR
      clear hb3 hS
      go_wp2_with fail
      refine (hC _).mono ?_
      rintro e w4 ⟨rfl, hb4⟩
      replace hB := hB.trans (hb4.mono hB.size)
      clear hb4 c0 c1 c2 hR hC
      go_wp2_with fail
      refine (hI _).mono ?_
      rintro e w5 ⟨rfl, hb5⟩
      replace hB := hB.trans (hb5.mono hB.size)
      clear hb5 hI
      go_wp2_with fail
      go_ret
      exact ⟨rfl, hB⟩
end Go.Proofs.Ytodgigdcdgdfdaa
