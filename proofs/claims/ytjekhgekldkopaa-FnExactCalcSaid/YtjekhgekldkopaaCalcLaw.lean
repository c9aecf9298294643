
/- The walk of the exact law on Calc. -/
import Derived.Test.YtjekhgekldkopaaCalcS
import Derived.Test.YtjekhgekldkopaaCalcI
import Derived.Test.YtjekhgekldkopaaOrdLaw
import Derived.Test.YtjekhgekldkopaaFloatV
import Derived.Test.YtjekhgekldkopaaValSl
namespace Go.Proofs.Ytjekhgekldkopaa
open Go.RowKit

set_option maxRecDepth 100000 in
set_option maxHeartbeats 4000000 in
theorem ex_calc (op k a : Int) (t : ByteArray) (k' a' : Int) (t' : ByteArray) (w : World) (hs : t.size ≤ maxLen) (hs' : t'.size ≤ maxLen) (ha0 : -9223372036854775808 ≤ a) (ha1 : a ≤ 9223372036854775807) (hb0 : -9223372036854775808 ≤ a') (hb1 : a' ≤ 9223372036854775807) :
    Calls Try.prog 11 #[.int .i64 op, .agg #[.int .i64 k, .int .i64 a, .string t], .agg #[.int .i64 k', .int .i64 a', .string t']] w (BoolE true w) := by
  have hs2 : t.size ≤ 9223372036854775807 := hs
  have hs3 : t'.size ≤ 9223372036854775807 := hs'
  have hZ := fun w => szValue_any k a t 1048576 w hs2 (by omega) (by omega)
  by_cases hbig : 1048576 - (t.size : Int) < 0
  · have hd := leftOf_neg hbig
    generalize leftOf 1048576 t.size = z at hZ hd
    clear hbig
    go_enter Try.func11, Try.ntmps11
    go_wp2_with fail
    refine (hZ _).mono ?_
    rintro e w1 ⟨rfl, hb1⟩
    have hbb := (twoArgV_below k a t k' a' t' w).trans (hb1.mono (by simp <;> omega))
    go_wp2_with fail
    go_ret
    exact ⟨rfl, hbb⟩
  · have hd := leftOf_nat hbig
    have hz0 : 0 ≤ leftOf 1048576 t.size := by simpa using hd
    have hz1 : leftOf 1048576 t.size ≤ 1048576 := by unfold leftOf; split <;> omega
    generalize leftOf 1048576 t.size = z at hZ hd hz0 hz1
    have hZ' := fun w => szValue_any k' a' t' z w hs3 hz0 hz1
    clear hbig
    generalize leftOf z t'.size = z' at hZ'
    by_cases hbig : z' < 0
    · have hd' : decide (z' < 0) = true := by simpa using hbig
      go_enter Try.func11, Try.ntmps11
      go_wp2_with fail
      refine (hZ _).mono ?_
      rintro e w1 ⟨rfl, hb1⟩
      have n1 : Below (w.heap.size + 2) (twoArgV k a t k' a' t' w) w1 := hb1.mono (by simp)
      obtain ⟨u0, u1, u2, v0, v1, v2⟩ := twoArgV_cells n1
      clear hb1 hZ
      go_wp2_with fail
      refine (hZ' _).mono ?_
      rintro e w2 ⟨rfl, hb2⟩
      have hbb := (twoArgV_below k a t k' a' t' w).trans ((n1.trans (hb2.mono (by have := n1.size; rw [twoArgV_size] at this; exact this))).mono (by omega))
      go_wp2_with fail
      go_ret
      exact ⟨rfl, hbb⟩
    · have hd' : decide (z' < 0) = false := by simpa using hbig
      have hS := fun w => calc_spec op k a t k' a' t' w hs2 hs3 ha0 ha1 hb0 hb1
      have hI := fun w => calc_impl op k a t k' a' t' w hs2 hs3 ha0 ha1 hb0 hb1
      have hC := fun w => toValue_any k a t w
      have hC' := fun w => toValue_any k' a' t' w
      obtain ⟨rk, rn, rt, rc, hE⟩ := CR.eta (calcC op k a t k' a' t')
      rw [hE] at hS hI
      clear hE
      have hcc : (rc != rc) = false := by simp
      go_enter Try.func11, Try.ntmps11
      go_wp2_with fail
      refine (hZ _).mono ?_
      rintro e w1 ⟨rfl, hq1⟩
      have n1 : Below (w.heap.size + 2) (twoArgV k a t k' a' t' w) w1 := hq1.mono (by simp)
      obtain ⟨u0, u1, u2, v0, v1, v2⟩ := twoArgV_cells n1
      clear hq1 hZ
      go_wp2_with fail
      refine (hZ' _).mono ?_
      rintro e w2 ⟨rfl, hq2⟩
      have n2 : Below (w.heap.size + 2) (twoArgV k a t k' a' t' w) w2 := n1.trans (hq2.mono (by have := n1.size; rw [twoArgV_size] at this; exact this))
      clear u0 u1 u2 v0 v1 v2 hq2 hZ' n1
      obtain ⟨u0, u1, u2, v0, v1, v2⟩ := twoArgV_cells n2
      go_wp2_with fail
      refine' region_float (Qf := fun a' => a' = _) 9 10 7 8 29 rfl rfl (by kernel_rfl) (by kernel_rfl) (by kernel_rfl) (by simp) (fun A w => alloc_val A w _ _ _ _ _) (fun A w b cs hp hg hh => store_val A w b cs _ _ _ _ _ _ _ hp hg hh) ?hG ?hW ?hQ
      case hW =>
        intro X hX
        have nX := n2.trans (hX.mono (by have := n2.size; rw [twoArgV_size] at this; exact this))
        obtain ⟨u0, u1, u2, v0, v1, v2⟩ := twoArgV_cells nX
        have x0 := lat_cell u0
        have x1 := lat_cell u1
        have x2 := lat_cell u2
        have y0 := lat_cell v0
        have y1 := lat_cell v1
        have y2 := lat_cell v2
        clear nX u0 u1 u2 v0 v1 v2 hX
        simp only [idle]
        go_big_quiet_step (fail)
        go_big_quiet_step (fail)
        go_big_quiet_step ((refine (hC (lat X _)).mono ?_; rintro e w'' ⟨rfl, hb''⟩; exact ⟨rfl, lat_to hb''⟩))
        go_big_quiet_step (fail)
        go_big_quiet_step ((refine (hC' (lat X _)).mono ?_; rintro e w'' ⟨rfl, hb''⟩; exact ⟨rfl, lat_to hb''⟩))
        go_big_quiet_step ((refine (hS (lat X _)).mono ?_; rintro e w'' ⟨rfl, hb''⟩; exact ⟨rfl, lat_to hb''⟩))
        go_big_quiet_step (fail)
        go_big_quiet_step (fail)
        go_big_quiet_step (fail)
        go_big_quiet_step (fail)
        go_big_quiet_step (fail)
        go_big_quiet_step (fail)
        refine wpQuiet_nil ?_
        exact rfl
      case hG =>
        rintro _ rfl
        exact ⟨_, _, _, _, rfl, rfl⟩
      case hQ =>
      rintro _ w4 b4 cs rfl hb4 hlt4 ⟨k4, m4, t4, hu4, rfl⟩ hh4
      obtain ⟨rfl, rfl, rfl⟩ : rk = k4 ∧ rn = m4 ∧ rt = t4 := by simpa [Act.eval] using hu4
      clear hu4
      have n4 := n2.trans (hb4.mono (by have := n2.size; rw [twoArgV_size] at this; exact this))
      have hra : ValAt w4 b4 rk rn rt := hh4
      have hz4 : b4 < w4.heap.size := cells_lt hh4
      clear hb4 hh4 hS n2 u0 u1 u2 v0 v1 v2
      simp only [Act.put, List.setIfInBounds_toArray, List.set_cons_zero, List.set_cons_succ]
      go_wp2_with fail
      refine' region_float (Qf := fun a' => a' = _) 9 10 7 10 38 rfl rfl (by kernel_rfl) (by kernel_rfl) (by kernel_rfl) (by simp) (fun A w => alloc_val A w _ _ _ _ _) (fun A w b cs hp hg hh => store_val A w b cs _ _ _ _ _ _ _ hp hg hh) ?hG ?hW ?hQ
      case hW =>
        intro X hX
        have nX := n4.trans (hX.mono (by have := n4.size; rw [twoArgV_size] at this; exact this))
        obtain ⟨u0, u1, u2, v0, v1, v2⟩ := twoArgV_cells nX
        have x0 := lat_cell u0
        have x1 := lat_cell u1
        have x2 := lat_cell u2
        have y0 := lat_cell v0
        have y1 := lat_cell v1
        have y2 := lat_cell v2
        clear nX u0 u1 u2 v0 v1 v2 hX
        simp only [idle]
        go_big_quiet_step (fail)
        go_big_quiet_step (fail)
        go_big_quiet_step ((refine (hC (lat X _)).mono ?_; rintro e w'' ⟨rfl, hb''⟩; exact ⟨rfl, lat_to hb''⟩))
        go_big_quiet_step (fail)
        go_big_quiet_step ((refine (hC' (lat X _)).mono ?_; rintro e w'' ⟨rfl, hb''⟩; exact ⟨rfl, lat_to hb''⟩))
        go_big_quiet_step ((refine (hI (lat X _)).mono ?_; rintro e w'' ⟨rfl, hb''⟩; exact ⟨rfl, lat_to hb''⟩))
        go_big_quiet_step (fail)
        go_big_quiet_step (fail)
        go_big_quiet_step (fail)
        go_big_quiet_step (fail)
        go_big_quiet_step (fail)
        go_big_quiet_step (fail)
        refine wpQuiet_nil ?_
        exact rfl
      case hG =>
        rintro _ rfl
        exact ⟨_, _, _, _, rfl, rfl⟩
      case hQ =>
      rintro _ w6 b6 cs rfl hb6 hlt6 ⟨k4, m4, t4, hu4, rfl⟩ hh6
      obtain ⟨rfl, rfl, rfl⟩ : rk = k4 ∧ rn = m4 ∧ rt = t4 := by simpa [Act.eval] using hu4
      clear hu4
      have n6 := n4.trans (hb6.mono (by have := n4.size; rw [twoArgV_size] at this; exact this))
      have hrc : ValAt w6 b4 rk rn rt := (hb6.block _ hz4).trans hra
      have hrd : ValAt w6 b6 rk rn rt := hh6
      obtain ⟨c0, c1, c2⟩ := hrc.cells
      obtain ⟨d0, d1, d2⟩ := hrd.cells
      clear hrc hrd hra hb6 hh6 hI hC hC' n4 hz4
      simp only [Act.put, List.setIfInBounds_toArray, List.set_cons_zero, List.set_cons_succ]
      go_wp2_with fail
      refine (eqValue_yes _ _ _ _).mono ?_
      rintro e w7 ⟨rfl, hb7⟩
      have hbb := (twoArgV_below k a t k' a' t' w).trans ((n6.trans (hb7.mono (by have := n6.size; rw [twoArgV_size] at this; exact this))).mono (by omega))
      clear c0 c1 c2 d0 d1 d2
      go_wp2_with fail
      go_ret
      exact ⟨rfl, hbb⟩
end Go.Proofs.Ytjekhgekldkopaa
