
/- The contract of the function that draws two values. -/
import Derived.Test.YtelbcfipkanfkaaDrawVBent
import Derived.Test.YtelbcfipkanfkaaLat
import Derived.Deep.RegionWith
namespace Go.Proofs.Ytelbcfipkanfkaa
open Go.RowKit

/-- two values with texts of at most M bytes -/
def TwoValE (M B : Nat) (W : World) (e : Ending) (W' : World) : Prop :=
  ∃ (k n : Int) (t : ByteArray) (k' n' : Int) (t' : ByteArray), t.size ≤ M ∧ t'.size ≤ M ∧ e = .returned (.tuple #[.agg #[.int .i64 k, .int .i64 n, .string t], .agg #[.int .i64 k', .int .i64 n', .string t']]) ∧ Below B W W'
theorem RowB.wider5 {B B' : Nat} {a : Option Addr} {len : Nat} {W : World} (h : RowB B a len W) (hB : B ≤ B') : RowB B' a len W := by
  refine ⟨h.1, fun j hj => ?_⟩
  obtain ⟨b, off, n, e1, e2, e3, e4, e5⟩ := h.2 j hj
  exact ⟨b, off, n, e1, by omega, e3, e4, e5⟩
theorem below_set5 {B R o : Nat} {v : Value} {W W' : World} (h : Below B W W') (hR : B ≤ R) : Below B W (W'.setCell ⟨R, o, none⟩ v) :=
  ⟨h.os, h.tape, h.output, by simpa using h.size, fun k hk => (heap_setCell_other W' ⟨R, o, none⟩ k v (by show k ≠ R; omega)).trans (h.block k hk)⟩
theorem val_two (w : World) (o : Obj) : ValAt ((w.alloc o).alloc (.cells #[.int .i64 0, .int .i64 0, .string ⟨#[]⟩] 25)) (w.heap.size + 1) 0 0 ⟨#[]⟩ := val_new w o 0 0 ⟨#[]⟩

theorem Cur.setApart {B C R : Nat} {a : Option Addr} {len cap : Nat} {W : World} (H : Cur B C a len cap W) (hRC : R ≠ C) (hR : B ≤ R) (o : Nat) (v : Value) : Cur B C a len cap (W.setCell ⟨R, o, none⟩ v) := by
  obtain ⟨h1, ⟨i, h, hi, hc⟩, h3, h4⟩ := H
  refine ⟨h1, ⟨i, h, hi, (heap_setCell_other W ⟨R, o, none⟩ C v (by show C ≠ R; omega)).trans hc⟩, h3, fun j hj => ?_⟩
  obtain ⟨b, off, n, e1, e2, e3, e4, e5⟩ := h4 j hj
  exact ⟨b, off, n, e1, e2, e3, e4, (World.cell?_of_block (w := W) (a := ⟨b, off + j, none⟩) (heap_setCell_other W ⟨R, o, none⟩ b v (by show b ≠ R; omega))).trans e5⟩
theorem Cur.rows {B B' C : Nat} {a : Option Addr} {len cap : Nat} {W : World} (H : Cur B' C a len cap W) (hr : RowB B a len W) (hB : B ≤ C) : Cur B C a len cap W := ⟨hB, H.2.1, H.2.2.1, hr.2⟩

set_option maxRecDepth 100000 in
set_option maxHeartbeats 8000000 in
theorem drawOrder_any (B : Nat) (a : Option Addr) (len cap : Nat) (W : World) (H : RowB B a len W) (hB : B ≤ W.heap.size) :
    Calls Try.prog 13 #[.slice a len cap] W (TwoValE 1000 B W) := by
  have hbA : Below W.heap.size W ((W.alloc (.cells #[.int .i64 0, .int .i64 0, .string ⟨#[]⟩] 25)).alloc (.cells #[.int .i64 0, .int .i64 0, .string ⟨#[]⟩] 25)) := ((Below.refl W.heap.size W).alloc (Nat.le_refl _) _).alloc (by simp) _
  have hA0 : ValAt ((W.alloc (.cells #[.int .i64 0, .int .i64 0, .string ⟨#[]⟩] 25)).alloc (.cells #[.int .i64 0, .int .i64 0, .string ⟨#[]⟩] 25)) W.heap.size 0 0 ⟨#[]⟩ := val_first W _
  have hA1 : ValAt ((W.alloc (.cells #[.int .i64 0, .int .i64 0, .string ⟨#[]⟩] 25)).alloc (.cells #[.int .i64 0, .int .i64 0, .string ⟨#[]⟩] 25)) (W.heap.size + 1) 0 0 ⟨#[]⟩ := val_two W _
  have hAz : ((W.alloc (.cells #[.int .i64 0, .int .i64 0, .string ⟨#[]⟩] 25)).alloc (.cells #[.int .i64 0, .int .i64 0, .string ⟨#[]⟩] 25)).heap.size = W.heap.size + 2 := by simp
  have hAH : RowB (W.heap.size + 2) a len ((W.alloc (.cells #[.int .i64 0, .int .i64 0, .string ⟨#[]⟩] 25)).alloc (.cells #[.int .i64 0, .int .i64 0, .string ⟨#[]⟩] 25)) := (H.later (hbA.mono hB)).wider5 (by omega)
  go_enter Try.func13, Try.ntmps13
  go_wp2_with fail
  generalize (W.alloc (.cells #[.int .i64 0, .int .i64 0, .string ⟨#[]⟩] 25)).alloc (.cells #[.int .i64 0, .int .i64 0, .string ⟨#[]⟩] 25) = WA at hbA hA0 hA1 hAz hAH ⊢
  refine (new_any (W.heap.size + 2) a len cap _ hAH (by omega)).mono ?_
  rintro e W1 ⟨rfl, hc1, hb1⟩
  have r0 := hA0.below hb1 (by omega)
  have r1 := hA1.below hb1 (by omega)
  have hbb := (hbA.mono hB).trans (hb1.mono (by omega))
  have hz1 := hb1.size
  clear hA0 hA1 hAH hbA hb1
  rw [hAz] at hc1 hz1 ⊢
  replace hc1 : Cur B (W.heap.size + 2) a len cap W1 := hc1.rows (H.later hbb) (by omega)
  go_wp2_with fail
  refine (vbent_any _ (W.heap.size + 2) a len cap _ hc1).mono ?_
  rintro e W2 ⟨K, N, S, hS, rfl, hc2, hg2⟩
  replace r0 := r0.turn hg2 (by omega)
  replace r1 := r1.turn hg2 (by omega)
  replace hbb := below_of_grown hbb hg2 (by omega) (by omega)
  have hz2 := hg2.size
  clear hg2 hc1
  have r2 : ValAt (W2.alloc (.cells #[.int .i64 K, .int .i64 N, .string S] 25)) W2.heap.size K N S := heap_alloc_new W2 _
  have r0n : ValAt (W2.alloc (.cells #[.int .i64 K, .int .i64 N, .string S] 25)) W.heap.size 0 0 ⟨#[]⟩ := (Below.heap_alloc W2 _ W.heap.size (by omega)).trans r0
  have r1n : ValAt (W2.alloc (.cells #[.int .i64 K, .int .i64 N, .string S] 25)) (W.heap.size + 1) 0 0 ⟨#[]⟩ := (Below.heap_alloc W2 _ (W.heap.size + 1) (by omega)).trans r1
  have hbn : Below B W (W2.alloc (.cells #[.int .i64 K, .int .i64 N, .string S] 25)) := hbb.alloc (by omega) _
  have hcn := hc2.alloc (.cells #[.int .i64 K, .int .i64 N, .string S] 25)
  have hlt2 := hc2.lt
  generalize hR2 : W2.heap.size = R2 at *
  have hnz : (W2.alloc (.cells #[.int .i64 K, .int .i64 N, .string S] 25)).heap.size = R2 + 1 := by simp [hR2]
  go_wp2_with fail
  generalize W2.alloc (.cells #[.int .i64 K, .int .i64 N, .string S] 25) = WB at r2 r0n r1n hbn hcn hnz ⊢
  refine (once_any 4 _ (W.heap.size + 2) a len cap _ hcn (by omega) (by omega)).mono ?_
  rintro e W3 ⟨b1, rfl, hc3, hg3⟩
  replace r0 := r0n.turn hg3 (by omega)
  replace r1 := r1n.turn hg3 (by omega)
  replace r2 := r2.turn hg3 (by omega)
  replace hbb := below_of_grown hbn hg3 (by omega) (by omega)
  have hz3 := hg3.size
  clear hg3 hcn hbn r0n r1n hc2
  cases b1
  · have r0d : ValAt W3.drew W.heap.size 0 0 ⟨#[]⟩ := r0
    have r1d : ValAt W3.drew (W.heap.size + 1) 0 0 ⟨#[]⟩ := r1
    have r2d : ValAt W3.drew R2 K N S := r2
    have hcd : Cur B (W.heap.size + 2) a len cap W3.drew := hc3
    have hbd : Below B W W3.drew := hbb.drew
    have za0 := frozen_of_row W3 (W.heap.size) 0 _ 25 r0
    have ga0 := cell_of_row W3 (W.heap.size) 0 _ 25 (0, 0) r0
    have za1 := frozen_of_row W3 (W.heap.size) 1 _ 25 r0
    have ga1 := cell_of_row W3 (W.heap.size) 1 _ 25 (0, 0) r0
    have za2 := frozen_of_row W3 (W.heap.size) 2 _ 25 r0
    have ga2 := cell_of_row W3 (W.heap.size) 2 _ 25 (0, 0) r0
    have zb0 := frozen_of_row W3 (W.heap.size + 1) 0 _ 25 r1
    have gb0 := cell_of_row W3 (W.heap.size + 1) 0 _ 25 (0, 0) r1
    have zb1 := frozen_of_row W3 (W.heap.size + 1) 1 _ 25 r1
    have gb1 := cell_of_row W3 (W.heap.size + 1) 1 _ 25 (0, 0) r1
    have zb2 := frozen_of_row W3 (W.heap.size + 1) 2 _ 25 r1
    have gb2 := cell_of_row W3 (W.heap.size + 1) 2 _ 25 (0, 0) r1
    have zc0 := frozen_of_row W3 (R2) 0 _ 25 r2
    have gc0 := cell_of_row W3 (R2) 0 _ 25 (0, 0) r2
    have zc1 := frozen_of_row W3 (R2) 1 _ 25 r2
    have gc1 := cell_of_row W3 (R2) 1 _ 25 (0, 0) r2
    have zc2 := frozen_of_row W3 (R2) 2 _ 25 r2
    have gc2 := cell_of_row W3 (R2) 2 _ 25 (0, 0) r2
    go_wp2_with fail
    go_region_with (go_at_call 42; (refine (vbent_any B (W.heap.size + 2) a len cap W3.drew hcd).mono ?_; rintro e W4 ⟨K4, N4, S4, hS4, rfl, hc4, hg4⟩; have q0 := r0d.turn hg4 (by omega); have q1 := r1d.turn hg4 (by omega); have q2 := r2d.turn hg4 (by omega); have qb := below_of_grown hbd hg4 (by omega) (by simp; omega); have za0 := frozen_of_row W4 (W.heap.size) 0 _ 25 q0; have ga0 := cell_of_row W4 (W.heap.size) 0 _ 25 (0, 0) q0; have za1 := frozen_of_row W4 (W.heap.size) 1 _ 25 q0; have ga1 := cell_of_row W4 (W.heap.size) 1 _ 25 (0, 0) q0; have za2 := frozen_of_row W4 (W.heap.size) 2 _ 25 q0; have ga2 := cell_of_row W4 (W.heap.size) 2 _ 25 (0, 0) q0; have zb0 := frozen_of_row W4 (W.heap.size + 1) 0 _ 25 q1; have gb0 := cell_of_row W4 (W.heap.size + 1) 0 _ 25 (0, 0) q1; have zb1 := frozen_of_row W4 (W.heap.size + 1) 1 _ 25 q1; have gb1 := cell_of_row W4 (W.heap.size + 1) 1 _ 25 (0, 0) q1; have zb2 := frozen_of_row W4 (W.heap.size + 1) 2 _ 25 q1; have gb2 := cell_of_row W4 (W.heap.size + 1) 2 _ 25 (0, 0) q1; have zc0 := frozen_of_row W4 (R2) 0 _ 25 q2; have gc0 := cell_of_row W4 (R2) 0 _ 25 (0, 0) q2; have zc1 := frozen_of_row W4 (R2) 1 _ 25 q2; have gc1 := cell_of_row W4 (R2) 1 _ 25 (0, 0) q2; have zc2 := frozen_of_row W4 (R2) 2 _ 25 q2; have gc2 := cell_of_row W4 (R2) 2 _ 25 (0, 0) q2))
    all_goals
      clear za0 za1 za2 zb0 zb1 zb2 zc0 zc1 zc2 ga0 ga1 ga2 gb0 gb1 gb2 gc0 gc1 gc2
      have F0 := ((q0.set0 K).set1 N).set2 S
      have F0 := (((F0.set_other5 (C := W.heap.size + 1) (o := 0) (v := .int .i64 K4) (by omega)).set_other5 (C := W.heap.size + 1) (o := 1) (v := .int .i64 N4) (by omega)).set_other5 (C := W.heap.size + 1) (o := 2) (v := .string S4) (by omega))
      have F1 := (((q1.set_other5 (C := W.heap.size) (o := 0) (v := .int .i64 K) (by omega)).set_other5 (C := W.heap.size) (o := 1) (v := .int .i64 N) (by omega)).set_other5 (C := W.heap.size) (o := 2) (v := .string S) (by omega))
      have F1 := ((F1.set0 K4).set1 N4).set2 S4
      have hbF := (below_set5 (R := W.heap.size + 1) (o := 2) (v := .string S4) (below_set5 (R := W.heap.size + 1) (o := 1) (v := .int .i64 N4) (below_set5 (R := W.heap.size + 1) (o := 0) (v := .int .i64 K4) (below_set5 (R := W.heap.size) (o := 2) (v := .string S) (below_set5 (R := W.heap.size) (o := 1) (v := .int .i64 N) (below_set5 (R := W.heap.size) (o := 0) (v := .int .i64 K) qb (by omega)) (by omega)) (by omega)) (by omega)) (by omega)) (by omega))
      generalize hwf : ((((((W4.setCell ⟨W.heap.size, 0, none⟩ (.int .i64 K)).setCell ⟨W.heap.size, 1, none⟩ (.int .i64 N)).setCell ⟨W.heap.size, 2, none⟩ (.string S)).setCell ⟨W.heap.size + 1, 0, none⟩ (.int .i64 K4)).setCell ⟨W.heap.size + 1, 1, none⟩ (.int .i64 N4)).setCell ⟨W.heap.size + 1, 2, none⟩ (.string S4)) = wf at F0 F1 hbF ⊢
      clear hwf
      have f00 := cell_of_row _ W.heap.size 0 _ 25 (0, 0) F0
      have f01 := cell_of_row _ W.heap.size 1 _ 25 (0, 0) F0
      have f02 := cell_of_row _ W.heap.size 2 _ 25 (0, 0) F0
      have f10 := cell_of_row _ (W.heap.size + 1) 0 _ 25 (0, 0) F1
      have f11 := cell_of_row _ (W.heap.size + 1) 1 _ 25 (0, 0) F1
      have f12 := cell_of_row _ (W.heap.size + 1) 2 _ 25 (0, 0) F1
      go_wp2_with fail
      refine bodyPost_ret (v := .tuple #[.agg #[.int .i64 K, .int .i64 N, .string S], .agg #[.int .i64 K4, .int .i64 N4, .string S4]]) (by simp [results, Try.results13, go_sem, f00, f01, f02, f10, f11, f12]) rfl ?_
      exact ⟨K, N, S, K4, N4, S4, by omega, by omega, rfl, hbF⟩
  · have za0 := frozen_of_row W3 (W.heap.size) 0 _ 25 r0
    have ga0 := cell_of_row W3 (W.heap.size) 0 _ 25 (0, 0) r0
    have za1 := frozen_of_row W3 (W.heap.size) 1 _ 25 r0
    have ga1 := cell_of_row W3 (W.heap.size) 1 _ 25 (0, 0) r0
    have za2 := frozen_of_row W3 (W.heap.size) 2 _ 25 r0
    have ga2 := cell_of_row W3 (W.heap.size) 2 _ 25 (0, 0) r0
    have zb0 := frozen_of_row W3 (W.heap.size + 1) 0 _ 25 r1
    have gb0 := cell_of_row W3 (W.heap.size + 1) 0 _ 25 (0, 0) r1
    have zb1 := frozen_of_row W3 (W.heap.size + 1) 1 _ 25 r1
    have gb1 := cell_of_row W3 (W.heap.size + 1) 1 _ 25 (0, 0) r1
    have zb2 := frozen_of_row W3 (W.heap.size + 1) 2 _ 25 r1
    have gb2 := cell_of_row W3 (W.heap.size + 1) 2 _ 25 (0, 0) r1
    have zc0 := frozen_of_row W3 (R2) 0 _ 25 r2
    have gc0 := cell_of_row W3 (R2) 0 _ 25 (0, 0) r2
    have zc1 := frozen_of_row W3 (R2) 1 _ 25 r2
    have gc1 := cell_of_row W3 (R2) 1 _ 25 (0, 0) r2
    have zc2 := frozen_of_row W3 (R2) 2 _ 25 r2
    have gc2 := cell_of_row W3 (R2) 2 _ 25 (0, 0) r2
    go_wp2_with fail
    go_region
    clear za0 za1 za2 zb0 zb1 zb2 zc0 zc1 zc2 ga0 ga1 ga2 gb0 gb1 gb2 gc0 gc1 gc2
    have F0 := ((r0.set0 K).set1 N).set2 S
    have F0 := (((F0.set_other5 (C := W.heap.size + 1) (o := 0) (v := .int .i64 K) (by omega)).set_other5 (C := W.heap.size + 1) (o := 1) (v := .int .i64 N) (by omega)).set_other5 (C := W.heap.size + 1) (o := 2) (v := .string S) (by omega))
    have F1 := (((r1.set_other5 (C := W.heap.size) (o := 0) (v := .int .i64 K) (by omega)).set_other5 (C := W.heap.size) (o := 1) (v := .int .i64 N) (by omega)).set_other5 (C := W.heap.size) (o := 2) (v := .string S) (by omega))
    have F1 := ((F1.set0 K).set1 N).set2 S
    have hbF := ((below_set5 (R := W.heap.size + 1) (o := 2) (v := .string S) (below_set5 (R := W.heap.size + 1) (o := 1) (v := .int .i64 N) (below_set5 (R := W.heap.size + 1) (o := 0) (v := .int .i64 K) (below_set5 (R := W.heap.size) (o := 2) (v := .string S) (below_set5 (R := W.heap.size) (o := 1) (v := .int .i64 N) (below_set5 (R := W.heap.size) (o := 0) (v := .int .i64 K) hbb (by omega)) (by omega)) (by omega)) (by omega)) (by omega)) (by omega))).drew
    clear r0 r1 r2 hbb hc3
    generalize hwf : ((((((W3.setCell ⟨W.heap.size, 0, none⟩ (.int .i64 K)).setCell ⟨W.heap.size, 1, none⟩ (.int .i64 N)).setCell ⟨W.heap.size, 2, none⟩ (.string S)).setCell ⟨W.heap.size + 1, 0, none⟩ (.int .i64 K)).setCell ⟨W.heap.size + 1, 1, none⟩ (.int .i64 N)).setCell ⟨W.heap.size + 1, 2, none⟩ (.string S)) = wf at F0 F1 hbF ⊢
    clear hwf
    have F0 : ValAt wf.drew W.heap.size K N S := F0
    have F1 : ValAt wf.drew (W.heap.size + 1) K N S := F1
    generalize wf.drew = wf at F0 F1 hbF ⊢
    have f00 := cell_of_row _ W.heap.size 0 _ 25 (0, 0) F0
    have f01 := cell_of_row _ W.heap.size 1 _ 25 (0, 0) F0
    have f02 := cell_of_row _ W.heap.size 2 _ 25 (0, 0) F0
    have f10 := cell_of_row _ (W.heap.size + 1) 0 _ 25 (0, 0) F1
    have f11 := cell_of_row _ (W.heap.size + 1) 1 _ 25 (0, 0) F1
    have f12 := cell_of_row _ (W.heap.size + 1) 2 _ 25 (0, 0) F1
    go_wp2_with fail
    refine bodyPost_ret (v := .tuple #[.agg #[.int .i64 K, .int .i64 N, .string S], .agg #[.int .i64 K, .int .i64 N, .string S]]) (by simp [results, Try.results13, go_sem, f00, f01, f02, f10, f11, f12]) rfl ?_
    exact ⟨K, N, S, K, N, S, by omega, by omega, rfl, hbF⟩
end Go.Proofs.Ytelbcfipkanfkaa
