
/- The walk of the law on Order, from the contract of the program's function. -/
import Derived.Test.YtelbcfipkanfkaaValArg
import Derived.Test.YtelbcfipkanfkaaOrdS
import Derived.Test.YtelbcfipkanfkaaLat
namespace Go.Proofs.Ytelbcfipkanfkaa
open Go.RowKit

/-- what the program's Order is known to do -/
def OrdI : Prop := ∀ (k a : Int) (t : ByteArray) (k' a' : Int) (t' : ByteArray) (w : World), t.size ≤ 9223372036854775807 → t'.size ≤ 9223372036854775807 →
    Calls Try.prog 15 #[.agg #[.int .i64 k, .int .i64 a, .string t], .agg #[.int .i64 k', .int .i64 a', .string t']] w (IntE (ordV (k, a, t.data.toList) (k', a', t'.data.toList)) w)

/-- two blocks of values that came in -/
def twoArgV (k a : Int) (t : ByteArray) (k' a' : Int) (t' : ByteArray) (w : World) : World :=
  (w.alloc (.cells #[.int .i64 k, .int .i64 a, .string t] 35)).alloc (.cells #[.int .i64 k', .int .i64 a', .string t'] 35)
theorem twoArgV_size (k a : Int) (t : ByteArray) (k' a' : Int) (t' : ByteArray) (w : World) : (twoArgV k a t k' a' t' w).heap.size = w.heap.size + 2 := by simp [twoArgV]
theorem twoArgV_below (k a : Int) (t : ByteArray) (k' a' : Int) (t' : ByteArray) (w : World) : Below w.heap.size w (twoArgV k a t k' a' t' w) :=
  ((Below.refl w.heap.size w).alloc (Nat.le_refl _) _).alloc (by simp) _
theorem twoArgV_cells {k a : Int} {t : ByteArray} {k' a' : Int} {t' : ByteArray} {w w' : World} (h : Below (w.heap.size + 2) (twoArgV k a t k' a' t' w) w') :
    w'.cell? ⟨w.heap.size, 0, none⟩ = some (.int .i64 k) ∧ w'.cell? ⟨w.heap.size, 1, none⟩ = some (.int .i64 a) ∧ w'.cell? ⟨w.heap.size, 2, none⟩ = some (.string t) ∧
    w'.cell? ⟨w.heap.size + 1, 0, none⟩ = some (.int .i64 k') ∧ w'.cell? ⟨w.heap.size + 1, 1, none⟩ = some (.int .i64 a') ∧ w'.cell? ⟨w.heap.size + 1, 2, none⟩ = some (.string t') := by
  have r1 : (twoArgV k a t k' a' t' w).heap[w.heap.size]? = some (.cells #[.int .i64 k, .int .i64 a, .string t] 35) := by
    unfold twoArgV
    rw [Below.heap_alloc _ _ _ (by simp)]
    exact heap_alloc_new w _
  have r2 : (twoArgV k a t k' a' t' w).heap[w.heap.size + 1]? = some (.cells #[.int .i64 k', .int .i64 a', .string t'] 35) := by
    have := heap_alloc_new (w.alloc (.cells #[.int .i64 k, .int .i64 a, .string t] 35)) (.cells #[.int .i64 k', .int .i64 a', .string t'] 35)
    simpa [twoArgV] using this
  refine ⟨?_, ?_, ?_, ?_, ?_, ?_⟩
  · rw [h.cell (by show w.heap.size < _; omega), cell_of_row _ _ 0 _ 35 (0, 0) r1]; rfl
  · rw [h.cell (by show w.heap.size < _; omega), cell_of_row _ _ 1 _ 35 (0, 0) r1]; rfl
  · rw [h.cell (by show w.heap.size < _; omega), cell_of_row _ _ 2 _ 35 (0, 0) r1]; rfl
  · rw [h.cell (by show w.heap.size + 1 < _; omega), cell_of_row _ _ 0 _ 35 (0, 0) r2]; rfl
  · rw [h.cell (by show w.heap.size + 1 < _; omega), cell_of_row _ _ 1 _ 35 (0, 0) r2]; rfl
  · rw [h.cell (by show w.heap.size + 1 < _; omega), cell_of_row _ _ 2 _ 35 (0, 0) r2]; rfl

set_option maxRecDepth 100000 in
set_option maxHeartbeats 4000000 in
theorem ex_order (hI : OrdI) (k a : Int) (t : ByteArray) (k' a' : Int) (t' : ByteArray) (w : World) (hs : t.size ≤ maxLen) (hs' : t'.size ≤ maxLen) :
    Calls Try.prog 9 #[.agg #[.int .i64 k, .int .i64 a, .string t], .agg #[.int .i64 k', .int .i64 a', .string t']] w (BoolE true w) := by
  have hs2 : t.size ≤ 9223372036854775807 := hs
  have hs3 : t'.size ≤ 9223372036854775807 := hs'
  have hZ := fun w => szValue_any k a t 1048576 w hs2 (by omega) (by omega)
  by_cases hbig : 1048576 - (t.size : Int) < 0
  · have hd := leftOf_neg hbig
    generalize leftOf 1048576 t.size = z at hZ hd
    clear hbig
    go_enter Try.func9, Try.ntmps9
    go_wp2_with fail
    refine (hZ _).mono ?_
    rintro e w1 ⟨rfl, hb1⟩
    have hbb := (twoArgV_below k a t k' a' t' w).trans (hb1.mono (by simp <;> omega))
    go_wp2_with fail
    go_ret
    exact ⟨rfl, hbb⟩
  · have hd := leftOf_nat hbig
    have hz0 : 0 ≤ leftOf 1048576 t.size := by simpa using hd
    have hz1 : leftOf 1048576 t.size ≤ 1048576 := by unfold leftOf; split <;> omega
    generalize leftOf 1048576 t.size = z at hZ hd hz0 hz1
    have hZ' := fun w => szValue_any k' a' t' z w hs3 hz0 hz1
    clear hbig
    generalize leftOf z t'.size = z' at hZ'
    by_cases hbig : z' < 0
    · have hd' : decide (z' < 0) = true := by simpa using hbig
      go_enter Try.func9, Try.ntmps9
      go_wp2_with fail
      refine (hZ _).mono ?_
      rintro e w1 ⟨rfl, hb1⟩
      have n1 : Below (w.heap.size + 2) (twoArgV k a t k' a' t' w) w1 := hb1.mono (by simp)
      obtain ⟨u0, u1, u2, v0, v1, v2⟩ := twoArgV_cells n1
      clear hb1 hZ
      go_wp2_with fail
      refine (hZ' _).mono ?_
      rintro e w2 ⟨rfl, hb2⟩
      have hbb := (twoArgV_below k a t k' a' t' w).trans ((n1.trans (hb2.mono (by have := n1.size; rw [twoArgV_size] at this; exact this))).mono (by omega))
      go_wp2_with fail
      go_ret
      exact ⟨rfl, hbb⟩
    · have hd' : decide (z' < 0) = false := by simpa using hbig
      have hS := fun w => order_spec k a t k' a' t' w
      have hI := fun w => hI k a t k' a' t' w hs2 hs3
      have hC := fun w => toValue_any k a t w
      have hC' := fun w => toValue_any k' a' t' w
      generalize ordV (k, a, t.data.toList) (k', a', t'.data.toList) = x at hS hI
      have hxx : (x != x) = false := by simp
      have once : True := trivial
      cases once
      all_goals
        go_enter Try.func9, Try.ntmps9
        go_wp2_with fail
        refine (hZ _).mono ?_
        rintro e w1 ⟨rfl, hb1⟩
        have n1 : Below (w.heap.size + 2) (twoArgV k a t k' a' t' w) w1 := hb1.mono (by simp)
        obtain ⟨u0, u1, u2, v0, v1, v2⟩ := twoArgV_cells n1
        clear hb1 hZ
        go_wp2_with fail
        refine (hZ' _).mono ?_
        rintro e w2 ⟨rfl, hb2⟩
        have n2 : Below (w.heap.size + 2) (twoArgV k a t k' a' t' w) w2 := n1.trans (hb2.mono (by have := n1.size; rw [twoArgV_size] at this; exact this))
        clear u0 u1 u2 v0 v1 v2 hb2 hZ' n1
        obtain ⟨u0, u1, u2, v0, v1, v2⟩ := twoArgV_cells n2
        have x0 := lat_cell u0
        have x1 := lat_cell u1
        have x2 := lat_cell u2
        have y0 := lat_cell v0
        have y1 := lat_cell v1
        have y2 := lat_cell v2
        go_wp2_with fail
        refine region_lat (by kernel_rfl) (by kernel_rfl) ?_
        go_big_quiet_step (fail)
        go_big_quiet_step ((refine (hC (lat w2 _)).mono ?_; rintro e w'' ⟨rfl, hb''⟩; exact ⟨rfl, lat_to hb''⟩))
        go_big_quiet_step (fail)
        go_big_quiet_step ((refine (hC' (lat w2 _)).mono ?_; rintro e w'' ⟨rfl, hb''⟩; exact ⟨rfl, lat_to hb''⟩))
        go_big_quiet_step ((refine (hS (lat w2 _)).mono ?_; rintro e w'' ⟨rfl, hb''⟩; exact ⟨rfl, lat_to hb''⟩))
        go_big_quiet_step (fail)
        refine wpQuiet_nil ?_
        rintro _ ⟨nq, rfl⟩
        have n3 := n2.trans ((lat_below w2 nq).mono (by have := n2.size; rw [twoArgV_size] at this; exact this))
        clear x0 x1 x2 y0 y1 y2 u0 u1 u2 v0 v1 v2 n2 hS
        generalize lat w2 nq = w3 at n3 ⊢
        obtain ⟨u0, u1, u2, v0, v1, v2⟩ := twoArgV_cells n3
        have x0 := lat_cell u0
        have x1 := lat_cell u1
        have x2 := lat_cell u2
        have y0 := lat_cell v0
        have y1 := lat_cell v1
        have y2 := lat_cell v2
        go_wp2_with fail
        refine region_lat (by kernel_rfl) (by kernel_rfl) ?_
        go_big_quiet_step (fail)
        go_big_quiet_step ((refine (hC (lat w3 _)).mono ?_; rintro e w'' ⟨rfl, hb''⟩; exact ⟨rfl, lat_to hb''⟩))
        go_big_quiet_step (fail)
        go_big_quiet_step ((refine (hC' (lat w3 _)).mono ?_; rintro e w'' ⟨rfl, hb''⟩; exact ⟨rfl, lat_to hb''⟩))
        go_big_quiet_step ((refine (hI (lat w3 _)).mono ?_; rintro e w'' ⟨rfl, hb''⟩; exact ⟨rfl, lat_to hb''⟩))
        go_big_quiet_step (fail)
        refine wpQuiet_nil ?_
        rintro _ ⟨nq, rfl⟩
        have n4 := n3.trans ((lat_below w3 nq).mono (by have := n3.size; rw [twoArgV_size] at this; exact this))
        clear x0 x1 x2 y0 y1 y2 u0 u1 u2 v0 v1 v2 n3 hI hC hC'
        generalize lat w3 nq = w4 at n4 ⊢
        have hbb := (twoArgV_below k a t k' a' t' w).trans (n4.mono (by omega))
        go_wp2_with fail
        go_ret
        exact ⟨rfl, hbb⟩
end Go.Proofs.Ytelbcfipkanfkaa
