
/- The walk of the exact law on Unary. -/
import Derived.Test.YtjekhgekldkopaaUnS
import Derived.Test.YtjekhgekldkopaaUnI
import Derived.Test.YtjekhgekldkopaaValArg
import Derived.Test.YtjekhgekldkopaaValSl
import Derived.Test.YtjekhgekldkopaaFloat
namespace Go.Proofs.Ytjekhgekldkopaa
open Go.RowKit

set_option maxRecDepth 100000 in
set_option maxHeartbeats 2000000 in
theorem ex_unary (op k a : Int) (t : ByteArray) (w : World) (hs : t.size ≤ maxLen) (ha0 : -9223372036854775808 ≤ a) (ha1 : a ≤ 9223372036854775807) : Calls Try.prog 12 #[.int .i64 op, .agg #[.int .i64 k, .int .i64 a, .string t]] w (BoolE true w) := by
  have hs2 : t.size ≤ 9223372036854775807 := hs
  have hZ := fun w => szValue_any k a t 1048576 w hs2 (by omega) (by omega)
  have hB0 : ∀ w0 : World, w0 = w.alloc (.cells #[.int .i64 k, .int .i64 a, .string t] 40) → w0.heap[w.heap.size]? = some (.cells #[.int .i64 k, .int .i64 a, .string t] 40 (0, 0)) ∧ Below w.heap.size w w0 := fun w0 e => by
    subst e
    exact ⟨heap_alloc_new w _, (Below.refl _ _).alloc (Nat.le_refl _) _⟩
  by_cases hbig : 1048576 - (t.size : Int) < 0
  · have hd := leftOf_neg hbig
    generalize leftOf 1048576 t.size = z at hZ hd
    clear hbig hB0
    go_enter Try.func12, Try.ntmps12
    go_wp2_with fail
    refine (hZ _).mono ?_
    rintro e w1 ⟨rfl, hb1⟩
    have hbb := ((Below.refl w.heap.size w).alloc (Nat.le_refl _) _).trans (hb1.mono (by simp))
    go_wp2_with fail
    go_ret
    exact ⟨rfl, hbb⟩
  · have hd := leftOf_nat hbig
    generalize leftOf 1048576 t.size = z at hZ hd
    clear hbig
    have hS := fun w => unary_spec op k a t w hs2 ha0 ha1
    have hI := fun w => unary_impl op k a t w hs2 ha0 ha1
    have hC := fun w => toValue_any k a t w
    obtain ⟨rk, rn, rt, rc, hE⟩ := CR.eta (unC op k a t)
    rw [hE] at hS hI
    clear hE
    have hcc : (rc != rc) = false := by simp
    go_enter Try.func12, Try.ntmps12
    go_wp2_with fail
    obtain ⟨hR, hB⟩ := hB0 _ rfl
    clear hB0
    generalize w.alloc (.cells #[.int .i64 k, .int .i64 a, .string t] 40) = w0 at hR hB ⊢
    refine (hZ _).mono ?_
    rintro e w1 ⟨rfl, hq1⟩
    replace hR := (hq1.block w.heap.size (Array.getElem?_eq_some_iff.1 hR).1).trans hR
    replace hB := hB.trans (hq1.mono hB.size)
    have c0 := cell_of_row w1 w.heap.size 0 _ 40 (0, 0) hR
    have c1 := cell_of_row w1 w.heap.size 1 _ 40 (0, 0) hR
    have c2 := cell_of_row w1 w.heap.size 2 _ 40 (0, 0) hR
    clear hq1 hZ
    go_wp2_with fail
    refine (hC _).mono ?_
    rintro e w2 ⟨rfl, hq2⟩
    replace hR := (hq2.block w.heap.size (Array.getElem?_eq_some_iff.1 hR).1).trans hR
    replace hB := hB.trans (hq2.mono hB.size)
    clear hq2 c0 c1 c2
    go_wp2_with fail
    refine (hS _).mono ?_
    rintro e w3 ⟨rfl, hq3⟩
    replace hR := (hq3.block w.heap.size (Array.getElem?_eq_some_iff.1 hR).1).trans hR
    replace hB := hB.trans (hq3.mono hB.size)
    clear hq3 hS
    have hra : ValAt (w3.alloc (.cells #[.int .i64 rk, .int .i64 rn, .string rt] 27)) w3.heap.size rk rn rt := heap_alloc_new w3 _
    have hR4 := (Below.heap_alloc w3 (.cells #[.int .i64 rk, .int .i64 rn, .string rt] 27) w.heap.size (Array.getElem?_eq_some_iff.1 hR).1).trans hR
    have hB4 := hB.alloc hB.size (.cells #[.int .i64 rk, .int .i64 rn, .string rt] 27)
    have c0 := cell_of_row _ w.heap.size 0 _ 40 (0, 0) hR4
    have c1 := cell_of_row _ w.heap.size 1 _ 40 (0, 0) hR4
    have c2 := cell_of_row _ w.heap.size 2 _ 40 (0, 0) hR4
    go_wp2_with fail
    generalize w3.alloc (.cells #[.int .i64 rk, .int .i64 rn, .string rt] 27) = w4 at hra hR4 hB4 c0 c1 c2 ⊢
    have hz4 := cells_lt hra
    refine (hC _).mono ?_
    rintro e w5 ⟨rfl, hq5⟩
    replace hra : ValAt w5 w3.heap.size rk rn rt := (hq5.block _ hz4).trans hra
    replace hB4 := hB4.trans (hq5.mono hB4.size)
    clear hq5 c0 c1 c2 hR4 hC hR hB hz4
    have hz5 := cells_lt hra
    go_wp2_with fail
    refine (hI _).mono ?_
    rintro e w6 ⟨rfl, hq6⟩
    replace hra : ValAt w6 w3.heap.size rk rn rt := (hq6.block _ hz5).trans hra
    replace hB4 := hB4.trans (hq6.mono hB4.size)
    clear hq6 hI hz5
    have hz6 := cells_lt hra
    have hrc : ValAt (w6.alloc (.cells #[.int .i64 rk, .int .i64 rn, .string rt] 27)) w3.heap.size rk rn rt := (Below.heap_alloc w6 _ _ hz6).trans hra
    have hrd : ValAt (w6.alloc (.cells #[.int .i64 rk, .int .i64 rn, .string rt] 27)) w6.heap.size rk rn rt := heap_alloc_new w6 _
    have hB7 := hB4.alloc hB4.size (.cells #[.int .i64 rk, .int .i64 rn, .string rt] 27)
    obtain ⟨c0, c1, c2⟩ := hrc.cells
    obtain ⟨d0, d1, d2⟩ := hrd.cells
    clear hrc hrd hra hB4 hz6
    go_wp2_with fail
    generalize w6.alloc (.cells #[.int .i64 rk, .int .i64 rn, .string rt] 27) = w7 at c0 c1 c2 d0 d1 d2 hB7 ⊢
    refine (eqValue_yes _ _ _ _).mono ?_
    rintro e w8 ⟨rfl, hq8⟩
    have hbb := hB7.trans (hq8.mono hB7.size)
    clear c0 c1 c2 d0 d1 d2
    go_wp2_with fail
    go_ret
    exact ⟨rfl, hbb⟩
end Go.Proofs.Ytjekhgekldkopaa
