
/- The walk of the law on NeedsGap, from the contract of the program's function. -/
import Derived.Test.YtcadoplfgclbjaaTokArg
import Derived.Test.YtcadoplfgclbjaaSpaceS
import Derived.Test.YtcadoplfgclbjaaLat
namespace Go.Proofs.Ytcadoplfgclbjaa
open Go.RowKit

/-- what the program's NeedsGap is known to do -/
def GapI : Prop := ∀ (k : Int) (t : ByteArray) (a k' : Int) (t' : ByteArray) (a' : Int) (w : World), t.size ≤ 9223372036854775807 → t'.size ≤ 9223372036854775807 →
    Calls Try.prog 7 #[.agg #[.int .i64 k, .string t, .int .i64 a], .agg #[.int .i64 k', .string t', .int .i64 a']] w (BoolE (gapB k t.data.toList k' t'.data.toList) w)

/-- two blocks of tokens that came in -/
def twoArg (k : Int) (t : ByteArray) (a k' : Int) (t' : ByteArray) (a' : Int) (w : World) : World :=
  (w.alloc (.cells #[.int .i64 k, .string t, .int .i64 a] 23)).alloc (.cells #[.int .i64 k', .string t', .int .i64 a'] 23)
theorem twoArg_size (k : Int) (t : ByteArray) (a k' : Int) (t' : ByteArray) (a' : Int) (w : World) : (twoArg k t a k' t' a' w).heap.size = w.heap.size + 2 := by simp [twoArg]
theorem twoArg_below (k : Int) (t : ByteArray) (a k' : Int) (t' : ByteArray) (a' : Int) (w : World) : Below w.heap.size w (twoArg k t a k' t' a' w) :=
  ((Below.refl w.heap.size w).alloc (Nat.le_refl _) _).alloc (by simp) _
theorem twoArg_cells {k : Int} {t : ByteArray} {a k' : Int} {t' : ByteArray} {a' : Int} {w w' : World} (h : Below (w.heap.size + 2) (twoArg k t a k' t' a' w) w') :
    w'.cell? ⟨w.heap.size, 0, none⟩ = some (.int .i64 k) ∧ w'.cell? ⟨w.heap.size, 1, none⟩ = some (.string t) ∧ w'.cell? ⟨w.heap.size, 2, none⟩ = some (.int .i64 a) ∧
    w'.cell? ⟨w.heap.size + 1, 0, none⟩ = some (.int .i64 k') ∧ w'.cell? ⟨w.heap.size + 1, 1, none⟩ = some (.string t') ∧ w'.cell? ⟨w.heap.size + 1, 2, none⟩ = some (.int .i64 a') := by
  have r1 : (twoArg k t a k' t' a' w).heap[w.heap.size]? = some (.cells #[.int .i64 k, .string t, .int .i64 a] 23) := by
    unfold twoArg
    rw [Below.heap_alloc _ _ _ (by simp)]
    exact heap_alloc_new w _
  have r2 : (twoArg k t a k' t' a' w).heap[w.heap.size + 1]? = some (.cells #[.int .i64 k', .string t', .int .i64 a'] 23) := by
    have := heap_alloc_new (w.alloc (.cells #[.int .i64 k, .string t, .int .i64 a] 23)) (.cells #[.int .i64 k', .string t', .int .i64 a'] 23)
    simpa [twoArg] using this
  refine ⟨?_, ?_, ?_, ?_, ?_, ?_⟩
  · rw [h.cell (by show w.heap.size < _; omega), cell_of_row _ _ 0 _ 23 (0, 0) r1]; rfl
  · rw [h.cell (by show w.heap.size < _; omega), cell_of_row _ _ 1 _ 23 (0, 0) r1]; rfl
  · rw [h.cell (by show w.heap.size < _; omega), cell_of_row _ _ 2 _ 23 (0, 0) r1]; rfl
  · rw [h.cell (by show w.heap.size + 1 < _; omega), cell_of_row _ _ 0 _ 23 (0, 0) r2]; rfl
  · rw [h.cell (by show w.heap.size + 1 < _; omega), cell_of_row _ _ 1 _ 23 (0, 0) r2]; rfl
  · rw [h.cell (by show w.heap.size + 1 < _; omega), cell_of_row _ _ 2 _ 23 (0, 0) r2]; rfl

set_option maxRecDepth 100000 in
set_option maxHeartbeats 4000000 in
theorem ex_needsGap (hI : GapI) (k : Int) (t : ByteArray) (a k' : Int) (t' : ByteArray) (a' : Int) (w : World) (hs : t.size ≤ maxLen) (hs' : t'.size ≤ maxLen) :
    Calls Try.prog 3 #[.agg #[.int .i64 k, .string t, .int .i64 a], .agg #[.int .i64 k', .string t', .int .i64 a']] w (BoolE true w) := by
  have hs2 : t.size ≤ 9223372036854775807 := hs
  have hs3 : t'.size ≤ 9223372036854775807 := hs'
  have hZ := fun w => szToken_any k t a 1048576 w hs2 (by omega) (by omega)
  by_cases hbig : 1048576 - (t.size : Int) < 0
  · have hd := leftOf_neg hbig
    generalize leftOf 1048576 t.size = z at hZ hd
    clear hbig
    go_enter Try.func3, Try.ntmps3
    go_wp2_with fail
    refine (hZ _).mono ?_
    rintro e w1 ⟨rfl, hb1⟩
    have hbb := (twoArg_below k t a k' t' a' w).trans (hb1.mono (by simp <;> omega))
    go_wp2_with fail
    go_ret
    exact ⟨rfl, hbb⟩
  · have hd := leftOf_nat hbig
    have hz0 : 0 ≤ leftOf 1048576 t.size := by simpa using hd
    have hz1 : leftOf 1048576 t.size ≤ 1048576 := by unfold leftOf; split <;> omega
    generalize leftOf 1048576 t.size = z at hZ hd hz0 hz1
    have hZ' := fun w => szToken_any k' t' a' z w hs3 hz0 hz1
    clear hbig
    generalize leftOf z t'.size = z' at hZ'
    by_cases hbig : z' < 0
    · have hd' : decide (z' < 0) = true := by simpa using hbig
      go_enter Try.func3, Try.ntmps3
      go_wp2_with fail
      refine (hZ _).mono ?_
      rintro e w1 ⟨rfl, hb1⟩
      have n1 : Below (w.heap.size + 2) (twoArg k t a k' t' a' w) w1 := hb1.mono (by simp)
      obtain ⟨u0, u1, u2, v0, v1, v2⟩ := twoArg_cells n1
      clear hb1 hZ
      go_wp2_with fail
      refine (hZ' _).mono ?_
      rintro e w2 ⟨rfl, hb2⟩
      have hbb := (twoArg_below k t a k' t' a' w).trans ((n1.trans (hb2.mono (by have := n1.size; rw [twoArg_size] at this; exact this))).mono (by omega))
      go_wp2_with fail
      go_ret
      exact ⟨rfl, hbb⟩
    · have hd' : decide (z' < 0) = false := by simpa using hbig
      have hS := fun w => gap_spec k t a k' t' a' w hs2 hs3
      have hI := fun w => hI k t a k' t' a' w hs2 hs3
      have hC := fun w => toToken_any k t a w
      have hC' := fun w => toToken_any k' t' a' w
      generalize gapB k t.data.toList k' t'.data.toList = b at hS hI
      have once : True := trivial
      cases b
      all_goals
        go_enter Try.func3, Try.ntmps3
        go_wp2_with fail
        refine (hZ _).mono ?_
        rintro e w1 ⟨rfl, hb1⟩
        have n1 : Below (w.heap.size + 2) (twoArg k t a k' t' a' w) w1 := hb1.mono (by simp)
        obtain ⟨u0, u1, u2, v0, v1, v2⟩ := twoArg_cells n1
        clear hb1 hZ
        go_wp2_with fail
        refine (hZ' _).mono ?_
        rintro e w2 ⟨rfl, hb2⟩
        have n2 : Below (w.heap.size + 2) (twoArg k t a k' t' a' w) w2 := n1.trans (hb2.mono (by have := n1.size; rw [twoArg_size] at this; exact this))
        clear u0 u1 u2 v0 v1 v2 hb2 hZ' n1
        obtain ⟨u0, u1, u2, v0, v1, v2⟩ := twoArg_cells n2
        have x0 := lat_cell u0
        have x1 := lat_cell u1
        have x2 := lat_cell u2
        have y0 := lat_cell v0
        have y1 := lat_cell v1
        have y2 := lat_cell v2
        go_wp2_with fail
        refine region_lat (by kernel_rfl) (by kernel_rfl) ?_
        go_big_quiet_step (fail)
        go_big_quiet_step ((refine (hC (lat w2 _)).mono ?_; rintro e w'' ⟨rfl, hb''⟩; exact ⟨rfl, lat_to hb''⟩))
        go_big_quiet_step (fail)
        go_big_quiet_step ((refine (hC' (lat w2 _)).mono ?_; rintro e w'' ⟨rfl, hb''⟩; exact ⟨rfl, lat_to hb''⟩))
        go_big_quiet_step ((refine (hS (lat w2 _)).mono ?_; rintro e w'' ⟨rfl, hb''⟩; exact ⟨rfl, lat_to hb''⟩))
        go_big_quiet_step (fail)
        refine wpQuiet_nil ?_
        rintro _ ⟨nq, rfl⟩
        have n3 := n2.trans ((lat_below w2 nq).mono (by have := n2.size; rw [twoArg_size] at this; exact this))
        clear x0 x1 x2 y0 y1 y2 u0 u1 u2 v0 v1 v2 n2 hS
        generalize lat w2 nq = w3 at n3 ⊢
        obtain ⟨u0, u1, u2, v0, v1, v2⟩ := twoArg_cells n3
        have x0 := lat_cell u0
        have x1 := lat_cell u1
        have x2 := lat_cell u2
        have y0 := lat_cell v0
        have y1 := lat_cell v1
        have y2 := lat_cell v2
        go_wp2_with fail
        refine region_lat (by kernel_rfl) (by kernel_rfl) ?_
        go_big_quiet_step (fail)
        go_big_quiet_step ((refine (hC (lat w3 _)).mono ?_; rintro e w'' ⟨rfl, hb''⟩; exact ⟨rfl, lat_to hb''⟩))
        go_big_quiet_step (fail)
        go_big_quiet_step ((refine (hC' (lat w3 _)).mono ?_; rintro e w'' ⟨rfl, hb''⟩; exact ⟨rfl, lat_to hb''⟩))
        go_big_quiet_step ((refine (hI (lat w3 _)).mono ?_; rintro e w'' ⟨rfl, hb''⟩; exact ⟨rfl, lat_to hb''⟩))
        go_big_quiet_step (fail)
        refine wpQuiet_nil ?_
        rintro _ ⟨nq, rfl⟩
        have n4 := n3.trans ((lat_below w3 nq).mono (by have := n3.size; rw [twoArg_size] at this; exact this))
        clear x0 x1 x2 y0 y1 y2 u0 u1 u2 v0 v1 v2 n3 hI hC hC'
        generalize lat w3 nq = w4 at n4 ⊢
        have hbb := (twoArg_below k t a k' t' a' w).trans (n4.mono (by omega))
        go_wp2_with fail
        go_ret
        exact ⟨rfl, hbb⟩
end Go.Proofs.Ytcadoplfgclbjaa
