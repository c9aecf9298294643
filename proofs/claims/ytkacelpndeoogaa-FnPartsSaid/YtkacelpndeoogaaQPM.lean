/- Joined texts: DrawVal DrawValK DrawV7 DrawT DrawKids. -/
import Derived.Test.YtkacelpndeoogaaQPL
import Derived.Test.YtkacelpndeoogaaQPK
import Derived.Test.YtkacelpndeoogaaQPF
import Derived.Test.YtkacelpndeoogaaQPE
import Derived.Maps.AppendAt
/- Contracts of the functions that draw values. -/
namespace Go.Proofs.Ytkacelpndeoogaa
open Go.RowKit

theorem Cur.setNew5 {B C R : Nat} {a : Option Addr} {len cap : Nat} {W : World} (H : Cur B C a len cap W) (hR : C < R) (o : Nat) (v : Value) : Cur B C a len cap (W.setCell ⟨R, o, none⟩ v) := by
  obtain ⟨h1, ⟨i, h, hi, hc⟩, h3, h4⟩ := H
  refine ⟨h1, ⟨i, h, hi, (heap_setCell_other W ⟨R, o, none⟩ C v (by show C ≠ R; omega)).trans hc⟩, h3, fun j hj => ?_⟩
  obtain ⟨b, off, n, e1, e2, e3, e4, e5⟩ := h4 j hj
  exact ⟨b, off, n, e1, e2, e3, e4, (World.cell?_of_block (w := W) (a := ⟨b, off + j, none⟩) (heap_setCell_other W ⟨R, o, none⟩ b v (by show b ≠ R; omega))).trans e5⟩
theorem grown_set5 {W W' : World} {C : Nat} {R o : Nat} {v : Value} (h : W.grownBy W' (some C)) (hR : W.heap.size ≤ R) : W.grownBy (W'.setCell ⟨R, o, none⟩ v) (some C) :=
  ⟨h.os, h.tape, h.output, by simpa using h.size, fun k hk hr => (heap_setCell_other W' ⟨R, o, none⟩ k v (by show k ≠ R; omega)).trans (h.block k hk hr)⟩
theorem ValAt.turn {W W' : World} {R C : Nat} {k n : Int} {t : ByteArray} (H : ValAt W R k n t) (g : W.grownBy W' (some C)) (hR : R ≠ C) : ValAt W' R k n t :=
  (g.block R (Array.getElem?_eq_some_iff.1 H).1 (fun e => hR (by simpa using e))).trans H
/-- some value with a text of at most M bytes -/
def ValDrawE (M : Nat) (B C : Nat) (a : Option Addr) (len cap : Nat) (W : World) (e : Ending) (W' : World) : Prop :=
  ∃ (k n : Int) (t : ByteArray), (t.size ≤ M ∧ -9223372036854775808 ≤ n ∧ n ≤ 9223372036854775807) ∧ e = .returned (.agg #[.int .i64 k, .int .i64 n, .string t]) ∧ Cur B C a len cap W' ∧ W.grownBy W' (some C)

set_option maxRecDepth 100000 in
set_option maxHeartbeats 4000000 in
theorem rightV_any (B C : Nat) (a : Option Addr) (len cap : Nat) (W : World) (H : Cur B C a len cap W) :
    Calls Try.prog 210 #[.pointer (some ⟨C, 0, none⟩)] W (ValDrawE 8 B C a len cap W) := by
  have hWC := H.lt
  have r0 : ValAt (W.alloc (.cells #[.int .i64 0, .int .i64 0, .string ⟨#[]⟩] 25)) W.heap.size 0 0 ⟨#[]⟩ := heap_alloc_new W _
  have hgr := grown_alloc W (.cells #[.int .i64 0, .int .i64 0, .string ⟨#[]⟩] 25) (some C)
  go_enter Try.func210, Try.ntmps210
  go_wp2_with fail
  refine (below_any 6 B C a len cap _ (H.alloc _) (by omega) (by omega)).mono ?_
  rintro e W1 ⟨x, hx0, hx1, rfl, hc1, hg1⟩
  replace r0 := r0.turn hg1 (by omega)
  replace hgr := grown_tr hgr hg1
  clear hg1
  by_cases h0 : x = 0
  · subst h0
    have z0 := frozen_of_row W1 W.heap.size 0 _ 25 r0
    have g0 := cell_of_row W1 W.heap.size 0 _ 25 (0, 0) r0
    have z1 := frozen_of_row W1 W.heap.size 1 _ 25 r0
    have g1 := cell_of_row W1 W.heap.size 1 _ 25 (0, 0) r0
    have z2 := frozen_of_row W1 W.heap.size 2 _ 25 r0
    have g2 := cell_of_row W1 W.heap.size 2 _ 25 (0, 0) r0
    have hF := ((r0.set0 (0)).set1 (0)).set2 (⟨#[]⟩)
    have f0 := cell_of_row _ W.heap.size 0 _ 25 (0, 0) hF
    have f1 := cell_of_row _ W.heap.size 1 _ 25 (0, 0) hF
    have f2 := cell_of_row _ W.heap.size 2 _ 25 (0, 0) hF
    have hcF := ((hc1.setNew5 (R := W.heap.size) hWC 0 (.int .i64 0)).setNew5 (R := W.heap.size) hWC 1 (.int .i64 0)).setNew5 (R := W.heap.size) hWC 2 (.string ⟨#[]⟩)
    have hgF := grown_set5 (R := W.heap.size) (o := 2) (v := .string ⟨#[]⟩) (grown_set5 (R := W.heap.size) (o := 1) (v := .int .i64 0) (grown_set5 (R := W.heap.size) (o := 0) (v := .int .i64 0) hgr (Nat.le_refl _)) (Nat.le_refl _)) (Nat.le_refl _)
    go_wp2_with fail
    generalize ((W1.setCell ⟨W.heap.size, 0, none⟩ (.int .i64 0)).setCell ⟨W.heap.size, 1, none⟩ (.int .i64 0)).setCell ⟨W.heap.size, 2, none⟩ (.string ⟨#[]⟩) = wf at f0 f1 f2 hcF hgF ⊢
    refine bodyPost_ret (v := .agg #[.int .i64 0, .int .i64 0, .string ⟨#[]⟩]) (by simp [results, Try.results210, go_sem, f0, f1, f2]) rfl ?_
    exact ⟨0, 0, ⟨#[]⟩, by decide, rfl, hcF, hgF⟩
  have q0 : (x == 0) = false := by simpa using h0
  by_cases h1 : x = 1
  · subst h1
    go_wp2_with fail
    refine (pick_any 8 W1.heap.size 6 B C a len cap _ (hc1.alloc _) (by omega) (by omega) (by simp) (by have := hc1.lt; omega) ?_).mono ?_
    · intro j hj
      rw [cell_of_row _ W1.heap.size j _ 9 (0, 0) (heap_alloc_new W1 _)]
      rcases (show j = 0 ∨ j = 1 ∨ j = 2 ∨ j = 3 ∨ j = 4 ∨ j = 5 by omega) with rfl | rfl | rfl | rfl | rfl | rfl <;> exact ⟨_, by decide, rfl⟩
    · rintro e W2 ⟨S, hS, rfl, hc2, hg2'⟩
      have hg2 := grown_tr (grown_alloc W1 _ (some C)) hg2'
      clear hg2' hc1
      replace r0 := r0.turn hg2 (by omega)
      replace hgr := grown_tr hgr hg2
      go_wp2_with fail
      refine (textValue_spec S _).mono ?_
      rintro e W3 ⟨rfl, hb3⟩
      have hc3 := hc2.later hb3
      have hg3 := grown_of_new hb3 (some C)
      replace r0 := r0.turn hg3 (by omega)
      replace hgr := grown_tr hgr hg3
      have z0 := frozen_of_row W3 W.heap.size 0 _ 25 r0
      have g0 := cell_of_row W3 W.heap.size 0 _ 25 (0, 0) r0
      have z1 := frozen_of_row W3 W.heap.size 1 _ 25 r0
      have g1 := cell_of_row W3 W.heap.size 1 _ 25 (0, 0) r0
      have z2 := frozen_of_row W3 W.heap.size 2 _ 25 r0
      have g2 := cell_of_row W3 W.heap.size 2 _ 25 (0, 0) r0
      have hF := ((r0.set0 (2)).set1 (0)).set2 (S)
      have f0 := cell_of_row _ W.heap.size 0 _ 25 (0, 0) hF
      have f1 := cell_of_row _ W.heap.size 1 _ 25 (0, 0) hF
      have f2 := cell_of_row _ W.heap.size 2 _ 25 (0, 0) hF
      have hcF := ((hc3.setNew5 (R := W.heap.size) hWC 0 (.int .i64 2)).setNew5 (R := W.heap.size) hWC 1 (.int .i64 0)).setNew5 (R := W.heap.size) hWC 2 (.string S)
      have hgF := grown_set5 (R := W.heap.size) (o := 2) (v := .string S) (grown_set5 (R := W.heap.size) (o := 1) (v := .int .i64 0) (grown_set5 (R := W.heap.size) (o := 0) (v := .int .i64 2) hgr (Nat.le_refl _)) (Nat.le_refl _)) (Nat.le_refl _)
      go_wp2_with fail
      generalize ((W3.setCell ⟨W.heap.size, 0, none⟩ (.int .i64 2)).setCell ⟨W.heap.size, 1, none⟩ (.int .i64 0)).setCell ⟨W.heap.size, 2, none⟩ (.string S) = wf at f0 f1 f2 hcF hgF ⊢
      refine bodyPost_ret (v := .agg #[.int .i64 2, .int .i64 0, .string S]) (by simp [results, Try.results210, go_sem, f0, f1, f2]) rfl ?_
      exact ⟨2, 0, S, ⟨hS, by decide, by decide⟩, rfl, hcF, hgF⟩
  have q1 : (x == 1) = false := by simpa using h1
  by_cases h2 : x = 2
  · subst h2
    go_wp2_with fail
    refine (once_any 2 B C a len cap _ hc1 (by omega) (by omega)).mono ?_
    rintro e W2 ⟨b, rfl, hc2, hg2⟩
    replace r0 := r0.turn hg2 (by omega)
    replace hgr := grown_tr hgr hg2
    have hBV := fun w => boolValue_spec b w
    have hyb : -9223372036854775808 ≤ (if b then (1 : Int) else 0) ∧ (if b then (1 : Int) else 0) ≤ 9223372036854775807 := by cases b <;> decide
    generalize (if b then (1 : Int) else 0) = y at hBV hyb
    have HYB := Lib.hid hyb
    clear hyb
    go_wp2_with fail
    refine (hBV _).mono ?_
    rintro e W3 ⟨rfl, hb3⟩
    have hc3 := hc2.later hb3
    have hg3 := grown_of_new hb3 (some C)
    replace r0 := r0.turn hg3 (by omega)
    replace hgr := grown_tr hgr hg3
    clear hBV
    have z0 := frozen_of_row W3 W.heap.size 0 _ 25 r0
    have g0 := cell_of_row W3 W.heap.size 0 _ 25 (0, 0) r0
    have z1 := frozen_of_row W3 W.heap.size 1 _ 25 r0
    have g1 := cell_of_row W3 W.heap.size 1 _ 25 (0, 0) r0
    have z2 := frozen_of_row W3 W.heap.size 2 _ 25 r0
    have g2 := cell_of_row W3 W.heap.size 2 _ 25 (0, 0) r0
    have hF := ((r0.set0 (3)).set1 (y)).set2 (⟨#[]⟩)
    have f0 := cell_of_row _ W.heap.size 0 _ 25 (0, 0) hF
    have f1 := cell_of_row _ W.heap.size 1 _ 25 (0, 0) hF
    have f2 := cell_of_row _ W.heap.size 2 _ 25 (0, 0) hF
    have hcF := ((hc3.setNew5 (R := W.heap.size) hWC 0 (.int .i64 3)).setNew5 (R := W.heap.size) hWC 1 (.int .i64 y)).setNew5 (R := W.heap.size) hWC 2 (.string ⟨#[]⟩)
    have hgF := grown_set5 (R := W.heap.size) (o := 2) (v := .string ⟨#[]⟩) (grown_set5 (R := W.heap.size) (o := 1) (v := .int .i64 y) (grown_set5 (R := W.heap.size) (o := 0) (v := .int .i64 3) hgr (Nat.le_refl _)) (Nat.le_refl _)) (Nat.le_refl _)
    go_wp2_with fail
    generalize ((W3.setCell ⟨W.heap.size, 0, none⟩ (.int .i64 3)).setCell ⟨W.heap.size, 1, none⟩ (.int .i64 y)).setCell ⟨W.heap.size, 2, none⟩ (.string ⟨#[]⟩) = wf at f0 f1 f2 hcF hgF ⊢
    refine bodyPost_ret (v := .agg #[.int .i64 3, .int .i64 y, .string ⟨#[]⟩]) (by simp [results, Try.results210, go_sem, f0, f1, f2]) rfl ?_
    exact ⟨3, y, ⟨#[]⟩, ⟨by decide, HYB.out.1, HYB.out.2⟩, rfl, hcF, hgF⟩
  have q2 : (x == 2) = false := by simpa using h2
  by_cases h3 : x = 3
  · subst h3
    go_wp2_with fail
    refine (whole_any B C a len cap _ hc1).mono ?_
    rintro e W2 ⟨m, hm0, hm1, rfl, hc2, hg2⟩
    replace r0 := r0.turn hg2 (by omega)
    replace hgr := grown_tr hgr hg2
    go_wp2_with fail
    refine (intValue_spec m _).mono ?_
    rintro e W3 ⟨rfl, hb3⟩
    have hc3 := hc2.later hb3
    have hg3 := grown_of_new hb3 (some C)
    replace r0 := r0.turn hg3 (by omega)
    replace hgr := grown_tr hgr hg3
    have z0 := frozen_of_row W3 W.heap.size 0 _ 25 r0
    have g0 := cell_of_row W3 W.heap.size 0 _ 25 (0, 0) r0
    have z1 := frozen_of_row W3 W.heap.size 1 _ 25 r0
    have g1 := cell_of_row W3 W.heap.size 1 _ 25 (0, 0) r0
    have z2 := frozen_of_row W3 W.heap.size 2 _ 25 r0
    have g2 := cell_of_row W3 W.heap.size 2 _ 25 (0, 0) r0
    have hF := ((r0.set0 (1)).set1 (m)).set2 (⟨#[]⟩)
    have f0 := cell_of_row _ W.heap.size 0 _ 25 (0, 0) hF
    have f1 := cell_of_row _ W.heap.size 1 _ 25 (0, 0) hF
    have f2 := cell_of_row _ W.heap.size 2 _ 25 (0, 0) hF
    have hcF := ((hc3.setNew5 (R := W.heap.size) hWC 0 (.int .i64 1)).setNew5 (R := W.heap.size) hWC 1 (.int .i64 m)).setNew5 (R := W.heap.size) hWC 2 (.string ⟨#[]⟩)
    have hgF := grown_set5 (R := W.heap.size) (o := 2) (v := .string ⟨#[]⟩) (grown_set5 (R := W.heap.size) (o := 1) (v := .int .i64 m) (grown_set5 (R := W.heap.size) (o := 0) (v := .int .i64 1) hgr (Nat.le_refl _)) (Nat.le_refl _)) (Nat.le_refl _)
    go_wp2_with fail
    generalize ((W3.setCell ⟨W.heap.size, 0, none⟩ (.int .i64 1)).setCell ⟨W.heap.size, 1, none⟩ (.int .i64 m)).setCell ⟨W.heap.size, 2, none⟩ (.string ⟨#[]⟩) = wf at f0 f1 f2 hcF hgF ⊢
    refine bodyPost_ret (v := .agg #[.int .i64 1, .int .i64 m, .string ⟨#[]⟩]) (by simp [results, Try.results210, go_sem, f0, f1, f2]) rfl ?_
    exact ⟨1, m, ⟨#[]⟩, ⟨by decide, hm0, hm1⟩, rfl, hcF, hgF⟩
  have q3 : (x == 3) = false := by simpa using h3
  go_wp2_with fail
  refine (below_any 7 B C a len cap _ hc1 (by omega) (by omega)).mono ?_
  rintro e W2 ⟨m, hm0, hm1, rfl, hc2, hg2⟩
  replace r0 := r0.turn hg2 (by omega)
  replace hgr := grown_tr hgr hg2
  go_wp2_with fail
  refine (intValue_spec (m - 2) _).mono ?_
  rintro e W3 ⟨rfl, hb3⟩
  have hc3 := hc2.later hb3
  have hg3 := grown_of_new hb3 (some C)
  replace r0 := r0.turn hg3 (by omega)
  replace hgr := grown_tr hgr hg3
  have z0 := frozen_of_row W3 W.heap.size 0 _ 25 r0
  have g0 := cell_of_row W3 W.heap.size 0 _ 25 (0, 0) r0
  have z1 := frozen_of_row W3 W.heap.size 1 _ 25 r0
  have g1 := cell_of_row W3 W.heap.size 1 _ 25 (0, 0) r0
  have z2 := frozen_of_row W3 W.heap.size 2 _ 25 r0
  have g2 := cell_of_row W3 W.heap.size 2 _ 25 (0, 0) r0
  have hF := ((r0.set0 (1)).set1 ((m - 2))).set2 (⟨#[]⟩)
  have f0 := cell_of_row _ W.heap.size 0 _ 25 (0, 0) hF
  have f1 := cell_of_row _ W.heap.size 1 _ 25 (0, 0) hF
  have f2 := cell_of_row _ W.heap.size 2 _ 25 (0, 0) hF
  have hcF := ((hc3.setNew5 (R := W.heap.size) hWC 0 (.int .i64 1)).setNew5 (R := W.heap.size) hWC 1 (.int .i64 (m - 2))).setNew5 (R := W.heap.size) hWC 2 (.string ⟨#[]⟩)
  have hgF := grown_set5 (R := W.heap.size) (o := 2) (v := .string ⟨#[]⟩) (grown_set5 (R := W.heap.size) (o := 1) (v := .int .i64 (m - 2)) (grown_set5 (R := W.heap.size) (o := 0) (v := .int .i64 1) hgr (Nat.le_refl _)) (Nat.le_refl _)) (Nat.le_refl _)
  go_wp2_with fail
  generalize ((W3.setCell ⟨W.heap.size, 0, none⟩ (.int .i64 1)).setCell ⟨W.heap.size, 1, none⟩ (.int .i64 (m - 2))).setCell ⟨W.heap.size, 2, none⟩ (.string ⟨#[]⟩) = wf at f0 f1 f2 hcF hgF ⊢
  refine bodyPost_ret (v := .agg #[.int .i64 1, .int .i64 (m - 2), .string ⟨#[]⟩]) (by simp [results, Try.results210, go_sem, f0, f1, f2]) rfl ?_
  exact ⟨1, (m - 2), ⟨#[]⟩, ⟨by decide, by omega, by omega⟩, rfl, hcF, hgF⟩
end Go.Proofs.Ytkacelpndeoogaa

/- Drawing values, their numbers ints. -/
namespace Go.Proofs.Ytkacelpndeoogaa
open Go.RowKit

/-- some value with a text of at most M bytes, its numbers ints -/
def ValDrawK (M : Nat) (B C : Nat) (a : Option Addr) (len cap : Nat) (W : World) (e : Ending) (W' : World) : Prop :=
  ∃ (k n : Int) (t : ByteArray), (t.size ≤ M ∧ -9223372036854775808 ≤ n ∧ n ≤ 9223372036854775807 ∧ -9223372036854775808 ≤ k ∧ k ≤ 9223372036854775807) ∧ e = .returned (.agg #[.int .i64 k, .int .i64 n, .string t]) ∧ Cur B C a len cap W' ∧ W.grownBy W' (some C)
set_option maxRecDepth 100000 in
set_option maxHeartbeats 4000000 in
theorem right_anyK (B C : Nat) (a : Option Addr) (len cap : Nat) (W : World) (H : Cur B C a len cap W) :
    Calls Try.prog 210 #[.pointer (some ⟨C, 0, none⟩)] W (ValDrawK 8 B C a len cap W) := by
  have hWC := H.lt
  have r0 : ValAt (W.alloc (.cells #[.int .i64 0, .int .i64 0, .string ⟨#[]⟩] 25)) W.heap.size 0 0 ⟨#[]⟩ := heap_alloc_new W _
  have hgr := grown_alloc W (.cells #[.int .i64 0, .int .i64 0, .string ⟨#[]⟩] 25) (some C)
  go_enter Try.func210, Try.ntmps210
  go_wp2_with fail
  refine (below_any 6 B C a len cap _ (H.alloc _) (by omega) (by omega)).mono ?_
  rintro e W1 ⟨x, hx0, hx1, rfl, hc1, hg1⟩
  replace r0 := r0.turn hg1 (by omega)
  replace hgr := grown_tr hgr hg1
  clear hg1
  by_cases h0 : x = 0
  · subst h0
    have z0 := frozen_of_row W1 W.heap.size 0 _ 25 r0
    have g0 := cell_of_row W1 W.heap.size 0 _ 25 (0, 0) r0
    have z1 := frozen_of_row W1 W.heap.size 1 _ 25 r0
    have g1 := cell_of_row W1 W.heap.size 1 _ 25 (0, 0) r0
    have z2 := frozen_of_row W1 W.heap.size 2 _ 25 r0
    have g2 := cell_of_row W1 W.heap.size 2 _ 25 (0, 0) r0
    have hF := ((r0.set0 (0)).set1 (0)).set2 (⟨#[]⟩)
    have f0 := cell_of_row _ W.heap.size 0 _ 25 (0, 0) hF
    have f1 := cell_of_row _ W.heap.size 1 _ 25 (0, 0) hF
    have f2 := cell_of_row _ W.heap.size 2 _ 25 (0, 0) hF
    have hcF := ((hc1.setNew5 (R := W.heap.size) hWC 0 (.int .i64 0)).setNew5 (R := W.heap.size) hWC 1 (.int .i64 0)).setNew5 (R := W.heap.size) hWC 2 (.string ⟨#[]⟩)
    have hgF := grown_set5 (R := W.heap.size) (o := 2) (v := .string ⟨#[]⟩) (grown_set5 (R := W.heap.size) (o := 1) (v := .int .i64 0) (grown_set5 (R := W.heap.size) (o := 0) (v := .int .i64 0) hgr (Nat.le_refl _)) (Nat.le_refl _)) (Nat.le_refl _)
    go_wp2_with fail
    generalize ((W1.setCell ⟨W.heap.size, 0, none⟩ (.int .i64 0)).setCell ⟨W.heap.size, 1, none⟩ (.int .i64 0)).setCell ⟨W.heap.size, 2, none⟩ (.string ⟨#[]⟩) = wf at f0 f1 f2 hcF hgF ⊢
    refine bodyPost_ret (v := .agg #[.int .i64 0, .int .i64 0, .string ⟨#[]⟩]) (by simp [results, Try.results210, go_sem, f0, f1, f2]) rfl ?_
    exact ⟨0, 0, ⟨#[]⟩, by decide, rfl, hcF, hgF⟩
  have q0 : (x == 0) = false := by simpa using h0
  by_cases h1 : x = 1
  · subst h1
    go_wp2_with fail
    refine (pick_any 8 W1.heap.size 6 B C a len cap _ (hc1.alloc _) (by omega) (by omega) (by simp) (by have := hc1.lt; omega) ?_).mono ?_
    · intro j hj
      rw [cell_of_row _ W1.heap.size j _ 9 (0, 0) (heap_alloc_new W1 _)]
      rcases (show j = 0 ∨ j = 1 ∨ j = 2 ∨ j = 3 ∨ j = 4 ∨ j = 5 by omega) with rfl | rfl | rfl | rfl | rfl | rfl <;> exact ⟨_, by decide, rfl⟩
    · rintro e W2 ⟨S, hS, rfl, hc2, hg2'⟩
      have hg2 := grown_tr (grown_alloc W1 _ (some C)) hg2'
      clear hg2' hc1
      replace r0 := r0.turn hg2 (by omega)
      replace hgr := grown_tr hgr hg2
      go_wp2_with fail
      refine (textValue_spec S _).mono ?_
      rintro e W3 ⟨rfl, hb3⟩
      have hc3 := hc2.later hb3
      have hg3 := grown_of_new hb3 (some C)
      replace r0 := r0.turn hg3 (by omega)
      replace hgr := grown_tr hgr hg3
      have z0 := frozen_of_row W3 W.heap.size 0 _ 25 r0
      have g0 := cell_of_row W3 W.heap.size 0 _ 25 (0, 0) r0
      have z1 := frozen_of_row W3 W.heap.size 1 _ 25 r0
      have g1 := cell_of_row W3 W.heap.size 1 _ 25 (0, 0) r0
      have z2 := frozen_of_row W3 W.heap.size 2 _ 25 r0
      have g2 := cell_of_row W3 W.heap.size 2 _ 25 (0, 0) r0
      have hF := ((r0.set0 (2)).set1 (0)).set2 (S)
      have f0 := cell_of_row _ W.heap.size 0 _ 25 (0, 0) hF
      have f1 := cell_of_row _ W.heap.size 1 _ 25 (0, 0) hF
      have f2 := cell_of_row _ W.heap.size 2 _ 25 (0, 0) hF
      have hcF := ((hc3.setNew5 (R := W.heap.size) hWC 0 (.int .i64 2)).setNew5 (R := W.heap.size) hWC 1 (.int .i64 0)).setNew5 (R := W.heap.size) hWC 2 (.string S)
      have hgF := grown_set5 (R := W.heap.size) (o := 2) (v := .string S) (grown_set5 (R := W.heap.size) (o := 1) (v := .int .i64 0) (grown_set5 (R := W.heap.size) (o := 0) (v := .int .i64 2) hgr (Nat.le_refl _)) (Nat.le_refl _)) (Nat.le_refl _)
      go_wp2_with fail
      generalize ((W3.setCell ⟨W.heap.size, 0, none⟩ (.int .i64 2)).setCell ⟨W.heap.size, 1, none⟩ (.int .i64 0)).setCell ⟨W.heap.size, 2, none⟩ (.string S) = wf at f0 f1 f2 hcF hgF ⊢
      refine bodyPost_ret (v := .agg #[.int .i64 2, .int .i64 0, .string S]) (by simp [results, Try.results210, go_sem, f0, f1, f2]) rfl ?_
      exact ⟨2, 0, S, ⟨hS, by decide, by decide⟩, rfl, hcF, hgF⟩
  have q1 : (x == 1) = false := by simpa using h1
  by_cases h2 : x = 2
  · subst h2
    go_wp2_with fail
    refine (once_any 2 B C a len cap _ hc1 (by omega) (by omega)).mono ?_
    rintro e W2 ⟨b, rfl, hc2, hg2⟩
    replace r0 := r0.turn hg2 (by omega)
    replace hgr := grown_tr hgr hg2
    have hBV := fun w => boolValue_spec b w
    have hyb : -9223372036854775808 ≤ (if b then (1 : Int) else 0) ∧ (if b then (1 : Int) else 0) ≤ 9223372036854775807 := by cases b <;> decide
    generalize (if b then (1 : Int) else 0) = y at hBV hyb
    have HYB := Lib.hid hyb
    clear hyb
    go_wp2_with fail
    refine (hBV _).mono ?_
    rintro e W3 ⟨rfl, hb3⟩
    have hc3 := hc2.later hb3
    have hg3 := grown_of_new hb3 (some C)
    replace r0 := r0.turn hg3 (by omega)
    replace hgr := grown_tr hgr hg3
    clear hBV
    have z0 := frozen_of_row W3 W.heap.size 0 _ 25 r0
    have g0 := cell_of_row W3 W.heap.size 0 _ 25 (0, 0) r0
    have z1 := frozen_of_row W3 W.heap.size 1 _ 25 r0
    have g1 := cell_of_row W3 W.heap.size 1 _ 25 (0, 0) r0
    have z2 := frozen_of_row W3 W.heap.size 2 _ 25 r0
    have g2 := cell_of_row W3 W.heap.size 2 _ 25 (0, 0) r0
    have hF := ((r0.set0 (3)).set1 (y)).set2 (⟨#[]⟩)
    have f0 := cell_of_row _ W.heap.size 0 _ 25 (0, 0) hF
    have f1 := cell_of_row _ W.heap.size 1 _ 25 (0, 0) hF
    have f2 := cell_of_row _ W.heap.size 2 _ 25 (0, 0) hF
    have hcF := ((hc3.setNew5 (R := W.heap.size) hWC 0 (.int .i64 3)).setNew5 (R := W.heap.size) hWC 1 (.int .i64 y)).setNew5 (R := W.heap.size) hWC 2 (.string ⟨#[]⟩)
    have hgF := grown_set5 (R := W.heap.size) (o := 2) (v := .string ⟨#[]⟩) (grown_set5 (R := W.heap.size) (o := 1) (v := .int .i64 y) (grown_set5 (R := W.heap.size) (o := 0) (v := .int .i64 3) hgr (Nat.le_refl _)) (Nat.le_refl _)) (Nat.le_refl _)
    go_wp2_with fail
    generalize ((W3.setCell ⟨W.heap.size, 0, none⟩ (.int .i64 3)).setCell ⟨W.heap.size, 1, none⟩ (.int .i64 y)).setCell ⟨W.heap.size, 2, none⟩ (.string ⟨#[]⟩) = wf at f0 f1 f2 hcF hgF ⊢
    refine bodyPost_ret (v := .agg #[.int .i64 3, .int .i64 y, .string ⟨#[]⟩]) (by simp [results, Try.results210, go_sem, f0, f1, f2]) rfl ?_
    exact ⟨3, y, ⟨#[]⟩, ⟨by decide, HYB.out.1, HYB.out.2, by decide, by decide⟩, rfl, hcF, hgF⟩
  have q2 : (x == 2) = false := by simpa using h2
  by_cases h3 : x = 3
  · subst h3
    go_wp2_with fail
    refine (whole_any B C a len cap _ hc1).mono ?_
    rintro e W2 ⟨m, hm0, hm1, rfl, hc2, hg2⟩
    replace r0 := r0.turn hg2 (by omega)
    replace hgr := grown_tr hgr hg2
    go_wp2_with fail
    refine (intValue_spec m _).mono ?_
    rintro e W3 ⟨rfl, hb3⟩
    have hc3 := hc2.later hb3
    have hg3 := grown_of_new hb3 (some C)
    replace r0 := r0.turn hg3 (by omega)
    replace hgr := grown_tr hgr hg3
    have z0 := frozen_of_row W3 W.heap.size 0 _ 25 r0
    have g0 := cell_of_row W3 W.heap.size 0 _ 25 (0, 0) r0
    have z1 := frozen_of_row W3 W.heap.size 1 _ 25 r0
    have g1 := cell_of_row W3 W.heap.size 1 _ 25 (0, 0) r0
    have z2 := frozen_of_row W3 W.heap.size 2 _ 25 r0
    have g2 := cell_of_row W3 W.heap.size 2 _ 25 (0, 0) r0
    have hF := ((r0.set0 (1)).set1 (m)).set2 (⟨#[]⟩)
    have f0 := cell_of_row _ W.heap.size 0 _ 25 (0, 0) hF
    have f1 := cell_of_row _ W.heap.size 1 _ 25 (0, 0) hF
    have f2 := cell_of_row _ W.heap.size 2 _ 25 (0, 0) hF
    have hcF := ((hc3.setNew5 (R := W.heap.size) hWC 0 (.int .i64 1)).setNew5 (R := W.heap.size) hWC 1 (.int .i64 m)).setNew5 (R := W.heap.size) hWC 2 (.string ⟨#[]⟩)
    have hgF := grown_set5 (R := W.heap.size) (o := 2) (v := .string ⟨#[]⟩) (grown_set5 (R := W.heap.size) (o := 1) (v := .int .i64 m) (grown_set5 (R := W.heap.size) (o := 0) (v := .int .i64 1) hgr (Nat.le_refl _)) (Nat.le_refl _)) (Nat.le_refl _)
    go_wp2_with fail
    generalize ((W3.setCell ⟨W.heap.size, 0, none⟩ (.int .i64 1)).setCell ⟨W.heap.size, 1, none⟩ (.int .i64 m)).setCell ⟨W.heap.size, 2, none⟩ (.string ⟨#[]⟩) = wf at f0 f1 f2 hcF hgF ⊢
    refine bodyPost_ret (v := .agg #[.int .i64 1, .int .i64 m, .string ⟨#[]⟩]) (by simp [results, Try.results210, go_sem, f0, f1, f2]) rfl ?_
    exact ⟨1, m, ⟨#[]⟩, ⟨by decide, hm0, hm1, by decide, by decide⟩, rfl, hcF, hgF⟩
  have q3 : (x == 3) = false := by simpa using h3
  go_wp2_with fail
  refine (below_any 7 B C a len cap _ hc1 (by omega) (by omega)).mono ?_
  rintro e W2 ⟨m, hm0, hm1, rfl, hc2, hg2⟩
  replace r0 := r0.turn hg2 (by omega)
  replace hgr := grown_tr hgr hg2
  go_wp2_with fail
  refine (intValue_spec (m - 2) _).mono ?_
  rintro e W3 ⟨rfl, hb3⟩
  have hc3 := hc2.later hb3
  have hg3 := grown_of_new hb3 (some C)
  replace r0 := r0.turn hg3 (by omega)
  replace hgr := grown_tr hgr hg3
  have z0 := frozen_of_row W3 W.heap.size 0 _ 25 r0
  have g0 := cell_of_row W3 W.heap.size 0 _ 25 (0, 0) r0
  have z1 := frozen_of_row W3 W.heap.size 1 _ 25 r0
  have g1 := cell_of_row W3 W.heap.size 1 _ 25 (0, 0) r0
  have z2 := frozen_of_row W3 W.heap.size 2 _ 25 r0
  have g2 := cell_of_row W3 W.heap.size 2 _ 25 (0, 0) r0
  have hF := ((r0.set0 (1)).set1 ((m - 2))).set2 (⟨#[]⟩)
  have f0 := cell_of_row _ W.heap.size 0 _ 25 (0, 0) hF
  have f1 := cell_of_row _ W.heap.size 1 _ 25 (0, 0) hF
  have f2 := cell_of_row _ W.heap.size 2 _ 25 (0, 0) hF
  have hcF := ((hc3.setNew5 (R := W.heap.size) hWC 0 (.int .i64 1)).setNew5 (R := W.heap.size) hWC 1 (.int .i64 (m - 2))).setNew5 (R := W.heap.size) hWC 2 (.string ⟨#[]⟩)
  have hgF := grown_set5 (R := W.heap.size) (o := 2) (v := .string ⟨#[]⟩) (grown_set5 (R := W.heap.size) (o := 1) (v := .int .i64 (m - 2)) (grown_set5 (R := W.heap.size) (o := 0) (v := .int .i64 1) hgr (Nat.le_refl _)) (Nat.le_refl _)) (Nat.le_refl _)
  go_wp2_with fail
  generalize ((W3.setCell ⟨W.heap.size, 0, none⟩ (.int .i64 1)).setCell ⟨W.heap.size, 1, none⟩ (.int .i64 (m - 2))).setCell ⟨W.heap.size, 2, none⟩ (.string ⟨#[]⟩) = wf at f0 f1 f2 hcF hgF ⊢
  refine bodyPost_ret (v := .agg #[.int .i64 1, .int .i64 (m - 2), .string ⟨#[]⟩]) (by simp [results, Try.results210, go_sem, f0, f1, f2]) rfl ?_
  exact ⟨1, (m - 2), ⟨#[]⟩, ⟨by decide, by omega, by omega, by decide, by decide⟩, rfl, hcF, hgF⟩
end Go.Proofs.Ytkacelpndeoogaa

/- Drawing literals. -/
namespace Go.Proofs.Ytkacelpndeoogaa
open Go.RowKit

theorem execOp_ldV (ρ : Operand → Value) (dst : Option Tmp) (x : Operand) (ty : TypeId) (pos : String) (after : Array Edge) (guard : Option (Nat × Bool)) :
    execOp ρ { dst := dst, op := .load 25 x, type := ty, pos := pos, after := after, guard := guard } = ldX 25 (ρ x) := rfl
theorem execOp_stV (ρ : Operand → Value) (dst : Option Tmp) (x y : Operand) (ty : TypeId) (pos : String) (after : Array Edge) (guard : Option (Nat × Bool)) :
    execOp ρ { dst := dst, op := .store 25 x y, type := ty, pos := pos, after := after, guard := guard } = stX 25 (ρ x) (ρ y) := rfl
attribute [local go_sem ↓] execOp_ldV execOp_stV
theorem ldV_row {W : World} {b : Nat} {ys : List Value} (h : RowAt W b 25 ys.toArray) (hl : ys.length = 3) :
    (ldX 25 (.pointer (some ⟨b, 0, none⟩))).run Try.prog W = .ok (.value (.agg ys.toArray)) W :=
  run_ldX (P := Try.prog) (o := 0) hl Try.isAgg25 Try.sizeOf25 fun k u hk => by rw [Nat.zero_add]; exact h.cell (i := k) (by simpa using hk)
theorem stV_row {W : World} {b : Nat} {zs : Array Value} {ys : List Value} (h : RowAt W b 25 zs) (hz : zs.size = 3) (hl : ys.length = 3) (ho : ys.all Value.oneCell' = true) :
    (stX 25 (.pointer (some ⟨b, 0, none⟩)) (.agg ys.toArray)).run Try.prog W = .ok .skip (W.setRow b ys.toArray) := by
  have := storeAt_row (P := Try.prog) (zs := zs) ys (fun w => by rw [hl]; exact Try.sizeOf25 w) (by rw [hl, hz]) ho h
  simp [stX, this, Result.andThen]
set_option maxRecDepth 100000 in
set_option maxHeartbeats 4000000 in
theorem value7_any (B C : Nat) (a : Option Addr) (len cap : Nat) (W : World) (H : Cur B C a len cap W) :
    Calls Try.prog 150 #[.pointer (some ⟨C, 0, none⟩)] W (ValDrawK 8 B C a len cap W) := by
  have hWC := H.lt
  have R0 := RowAt.new W 25 #[.int .i64 0, .int .i64 0, .string ⟨#[]⟩]
  have hg0 := grown_alloc W (.cells #[.int .i64 0, .int .i64 0, .string ⟨#[]⟩] 25) (some C)
  go_enter Try.func150, Try.ntmps150
  go_wp2_with fail
  refine (right_anyK B C a len cap _ (H.alloc _)).mono ?_
  rintro e W1 ⟨K, N, S0, hT, rfl, hc, hg1⟩
  replace R0 := R0.turn hg1 (by intro e; injection e; omega)
  replace hg0 := grown_tr hg0 hg1
  have hW1 : W.heap.size + 1 ≤ W1.heap.size := by have := hg1.size; simpa using this
  clear hg1
  have P0 := R0
  have Pg := hg0
  have Pc := hc
  have R1 := RowAt.new W1 25 #[.int .i64 K, .int .i64 N, .string S0]
  replace R0 := R0.alloc (.cells #[.int .i64 K, .int .i64 N, .string S0] 25)
  replace hg0 := grown_tr hg0 (grown_alloc W1 (.cells #[.int .i64 K, .int .i64 N, .string S0] 25) (some C))
  replace hc := hc.alloc (.cells #[.int .i64 K, .int .i64 N, .string S0] 25)
  have st1 : (stX 25 (.pointer (some ⟨W1.heap.size, 0, none⟩)) (.agg #[.int .i64 K, .int .i64 N, .string S0])).run Try.prog (W1.alloc (.cells #[.int .i64 0, .int .i64 0, .string ⟨#[]⟩] 25)) = .ok .skip (W1.alloc (.cells #[.int .i64 K, .int .i64 N, .string S0] 25)) := by
    have h := stV_row (ys := [.int .i64 K, .int .i64 N, .string S0]) (RowAt.new W1 25 #[.int .i64 0, .int .i64 0, .string ⟨#[]⟩]) rfl rfl rfl
    rw [setRow_new] at h
    exact h
  by_cases hk : K = 1
  · subst hk
    have x0 := R1.cell (i := 0) (v := .int .i64 1) rfl
    have x1 := R1.cell (i := 1) (v := .int .i64 N) rfl
    have z1 := R1.soft 1
    by_cases hn : N < 0
    · have hn2 : decide (N < 0) = true := decide_eq_true hn
      replace R1 := RowAt.new W1 25 #[.int .i64 1, .int .i64 9223372036854775807, .string S0]
      replace R0 := P0.alloc (.cells #[.int .i64 1, .int .i64 9223372036854775807, .string S0] 25)
      replace hg0 := grown_tr Pg (grown_alloc W1 (.cells #[.int .i64 1, .int .i64 9223372036854775807, .string S0] 25) (some C))
      replace hc := Pc.alloc (.cells #[.int .i64 1, .int .i64 9223372036854775807, .string S0] 25)
      have hb := R0.setRow [.int .i64 1, .int .i64 9223372036854775807, .string S0].toArray
      have ld := ldV_row (ys := [.int .i64 1, .int .i64 9223372036854775807, .string S0]) R1 rfl
      have st := stV_row (ys := [.int .i64 1, .int .i64 9223372036854775807, .string S0]) R0 rfl rfl rfl
      have hgF := grown_own hg0 (setRow_grown (W1.alloc (.cells #[.int .i64 1, .int .i64 9223372036854775807, .string S0] 25)) W.heap.size [.int .i64 1, .int .i64 9223372036854775807, .string S0].toArray) (Nat.le_refl _)
      have hcF := hc.own (setRow_grown (W1.alloc (.cells #[.int .i64 1, .int .i64 9223372036854775807, .string S0] 25)) W.heap.size [.int .i64 1, .int .i64 9223372036854775807, .string S0].toArray) hWC
      go_wp2_with fail
      generalize (W1.alloc (.cells #[.int .i64 1, .int .i64 9223372036854775807, .string S0] 25)).setRow W.heap.size [.int .i64 1, .int .i64 9223372036854775807, .string S0].toArray = wf at hb hcF hgF ⊢
      have f0 := hb.cell (i := 0) (v := .int .i64 1) rfl
      have f1 := hb.cell (i := 1) (v := .int .i64 9223372036854775807) rfl
      have f2 := hb.cell (i := 2) (v := .string S0) rfl
      refine bodyPost_ret (v := .agg #[.int .i64 1, .int .i64 9223372036854775807, .string S0]) (by simp [results, Try.results150, go_sem, f0, f1, f2]) rfl ?_
      exact ⟨1, 9223372036854775807, S0, by omega, rfl, hcF, hgF⟩
    · have hn2 : decide (N < 0) = false := decide_eq_false hn
      have hb := R0.setRow [.int .i64 1, .int .i64 N, .string S0].toArray
      have ld := ldV_row (ys := [.int .i64 1, .int .i64 N, .string S0]) R1 rfl
      have st := stV_row (ys := [.int .i64 1, .int .i64 N, .string S0]) R0 rfl rfl rfl
      have hgF := grown_own hg0 (setRow_grown (W1.alloc (.cells #[.int .i64 1, .int .i64 N, .string S0] 25)) W.heap.size [.int .i64 1, .int .i64 N, .string S0].toArray) (Nat.le_refl _)
      have hcF := hc.own (setRow_grown (W1.alloc (.cells #[.int .i64 1, .int .i64 N, .string S0] 25)) W.heap.size [.int .i64 1, .int .i64 N, .string S0].toArray) hWC
      go_wp2_with fail
      generalize (W1.alloc (.cells #[.int .i64 1, .int .i64 N, .string S0] 25)).setRow W.heap.size [.int .i64 1, .int .i64 N, .string S0].toArray = wf at hb hcF hgF ⊢
      have f0 := hb.cell (i := 0) (v := .int .i64 1) rfl
      have f1 := hb.cell (i := 1) (v := .int .i64 N) rfl
      have f2 := hb.cell (i := 2) (v := .string S0) rfl
      refine bodyPost_ret (v := .agg #[.int .i64 1, .int .i64 N, .string S0]) (by simp [results, Try.results150, go_sem, f0, f1, f2]) rfl ?_
      exact ⟨1, N, S0, by omega, rfl, hcF, hgF⟩
  · have hk2 : (K == 1) = false := by simpa using hk
    have x0 := R1.cell (i := 0) (v := .int .i64 K) rfl
    have hb := R0.setRow [.int .i64 K, .int .i64 N, .string S0].toArray
    have ld := ldV_row (ys := [.int .i64 K, .int .i64 N, .string S0]) R1 rfl
    have st := stV_row (ys := [.int .i64 K, .int .i64 N, .string S0]) R0 rfl rfl rfl
    have hgF := grown_own hg0 (setRow_grown (W1.alloc (.cells #[.int .i64 K, .int .i64 N, .string S0] 25)) W.heap.size [.int .i64 K, .int .i64 N, .string S0].toArray) (Nat.le_refl _)
    have hcF := hc.own (setRow_grown (W1.alloc (.cells #[.int .i64 K, .int .i64 N, .string S0] 25)) W.heap.size [.int .i64 K, .int .i64 N, .string S0].toArray) hWC
    go_wp2_with fail
    generalize (W1.alloc (.cells #[.int .i64 K, .int .i64 N, .string S0] 25)).setRow W.heap.size [.int .i64 K, .int .i64 N, .string S0].toArray = wf at hb hcF hgF ⊢
    have f0 := hb.cell (i := 0) (v := .int .i64 K) rfl
    have f1 := hb.cell (i := 1) (v := .int .i64 N) rfl
    have f2 := hb.cell (i := 2) (v := .string S0) rfl
    refine bodyPost_ret (v := .agg #[.int .i64 K, .int .i64 N, .string S0]) (by simp [results, Try.results150, go_sem, f0, f1, f2]) rfl ?_
    exact ⟨K, N, S0, by omega, rfl, hcF, hgF⟩
end Go.Proofs.Ytkacelpndeoogaa

/- The state of a draw of trees: the cursor, the typed blocks, boxes of its own. -/
namespace Go.Proofs.Ytkacelpndeoogaa
open Go.RowKit

/-- the cursor of a draw -/
structure Cu where
  B : Nat
  C : Nat
  a : Option Addr
  len : Nat
  cap : Nat
abbrev Cu.at (c : Cu) (W : World) : Prop := Cur c.B c.C c.a c.len c.cap W
/-- where a draw stands: it began at W0 with τ0 -/
structure DS (L : Nat) (c : Cu) (τ0 τ : Tau) (W0 W : World) : Prop where
  cur : c.at W
  inv : Inv L τ 1000 W
  grown : W0.grownBy W (some c.C)
  le : TLe τ0 τ
  same : ∀ g, g < W0.heap.size → τ g = τ0 g
  lo : c.C < L
  hi : L ≤ W0.heap.size
theorem grown_refl (W : World) (r : Option Nat) : W.grownBy W r := ⟨rfl, rfl, rfl, Nat.le_refl _, fun _ _ _ => rfl⟩
theorem DS.start {L : Nat} {c : Cu} {τ : Tau} {W : World} (hc : c.at W) (hi : Inv L τ 1000 W) (lo : c.C < L) (hL : L ≤ W.heap.size) : DS L c τ τ W W :=
  ⟨hc, hi, grown_refl _ _, TLe.refl _, fun _ _ => rfl, lo, hL⟩
theorem DS.size {L : Nat} {c : Cu} {τ0 τ : Tau} {W0 W : World} (H : DS L c τ0 τ W0 W) : W0.heap.size ≤ W.heap.size := H.grown.size
theorem DS.ltC {L : Nat} {c : Cu} {τ0 τ : Tau} {W0 W : World} (H : DS L c τ0 τ W0 W) : c.C < W0.heap.size := Nat.lt_of_lt_of_le H.lo H.hi
theorem DS.draw {L : Nat} {c : Cu} {τ0 τ : Tau} {W0 W W' : World} (H : DS L c τ0 τ W0 W) (hc : c.at W') (g : W.grownBy W' (some c.C)) : DS L c τ0 τ W0 W' :=
  ⟨hc, H.inv.turn g H.lo, grown_tr H.grown g, H.le, H.same, H.lo, H.hi⟩
theorem DS.alloc {L : Nat} {c : Cu} {τ0 τ : Tau} {W0 W : World} (H : DS L c τ0 τ W0 W) (o : Obj) : DS L c τ0 τ W0 (W.alloc o) := H.draw (Cur.alloc H.cur o) (grown_alloc W o _)
theorem DS.own {L : Nat} {c : Cu} {τ0 τ : Tau} {W0 W W' : World} (H : DS L c τ0 τ W0 W) {r : Option Nat} (g : W.grownBy W' r) (hr : ∀ b, r = some b → W0.heap.size ≤ b ∧ τ b = none) : DS L c τ0 τ W0 W' := by
  have hC := H.ltC
  refine ⟨?_, H.inv.keep (fun k b hk => g.block k (H.inv.lt hk) (fun e => by have := (hr k e.symm).2; rw [this] at hk; cases hk)), ?_, H.le, H.same, H.lo, H.hi⟩
  · cases r with
    | none => exact Cur.later H.cur ⟨g.os, g.tape, g.output, g.size, fun k hk => g.block k hk (by simp)⟩
    | some b => exact Cur.own H.cur g (by have := (hr b rfl).1; omega)
  · exact ⟨g.os.trans H.grown.os, g.tape.trans H.grown.tape, g.output.trans H.grown.output, Nat.le_trans H.grown.size g.size, fun k hk hne => (g.block k (Nat.lt_of_lt_of_le hk H.grown.size) fun e => by have := (hr k e.symm).1; omega).trans (H.grown.block k hk hne)⟩
/-- a call that began where this draw stands -/
theorem DS.call {L : Nat} {c : Cu} {τ0 τ τ' : Tau} {W0 W W' : World} (H : DS L c τ0 τ W0 W) (K : DS L c τ τ' W W') : DS L c τ0 τ' W0 W' :=
  ⟨K.cur, K.inv, grown_tr H.grown K.grown, H.le.trans K.le, fun g hg => (K.same g (Nat.lt_of_lt_of_le hg H.size)).trans (H.same g hg), H.lo, H.hi⟩
theorem DS.here {L : Nat} {c : Cu} {τ0 τ : Tau} {W0 W : World} (H : DS L c τ0 τ W0 W) : DS L c τ τ W W := DS.start H.cur H.inv H.lo (Nat.le_trans H.hi H.size)
/-- a box of the draw's own -/
structure Bx (τ : Tau) (W0 W : World) (b : Nat) (T : TypeId) (arr : Array Value) : Prop where
  row : RowAt W b T arr
  free : τ b = none
  hi : W0.heap.size ≤ b
theorem Bx.new {L : Nat} {c : Cu} {τ0 τ : Tau} {W0 W : World} (H : DS L c τ0 τ W0 W) (T : TypeId) (arr : Array Value) : Bx τ W0 (W.alloc (.cells arr T)) W.heap.size T arr :=
  ⟨RowAt.new W T arr, H.inv.fresh (Nat.le_refl _), H.size⟩
theorem Bx.alloc {τ : Tau} {W0 W : World} {b : Nat} {T : TypeId} {arr : Array Value} (R : Bx τ W0 W b T arr) (o : Obj) : Bx τ W0 (W.alloc o) b T arr := ⟨R.row.alloc o, R.free, R.hi⟩
theorem Bx.draw {τ : Tau} {W0 W W' : World} {b : Nat} {T : TypeId} {arr : Array Value} {r : Option Nat} (R : Bx τ W0 W b T arr) (g : W.grownBy W' r) (hr : some b ≠ r) : Bx τ W0 W' b T arr := ⟨R.row.turn g hr, R.free, R.hi⟩
theorem Bx.drawC {L : Nat} {c : Cu} {τ0 τ : Tau} {W0 W W' : World} {b : Nat} {T : TypeId} {arr : Array Value} (R : Bx τ W0 W b T arr) (H : DS L c τ0 τ W0 W) (g : W.grownBy W' (some c.C)) : Bx τ W0 W' b T arr :=
  R.draw g (fun e => by have := H.ltC; have := R.hi; injection e; omega)
theorem Bx.call {L : Nat} {c : Cu} {τ0 τ τ' : Tau} {W0 W W' : World} {b : Nat} {T : TypeId} {arr : Array Value} (R : Bx τ W0 W b T arr) (H : DS L c τ0 τ W0 W) (K : DS L c τ τ' W W') : Bx τ' W0 W' b T arr :=
  ⟨(R.drawC H K.grown).row, (K.same b R.row.lt).trans R.free, R.hi⟩
/-- a row of a type comes back -/
def RowD (ty : Ty) (N : Nat) (L : Nat) (c : Cu) (τ : Tau) (W : World) (e : Ending) (W' : World) : Prop :=
  ∃ (τ' : Tau) (ys : List Value), e = .returned (.agg ys.toArray) ∧ GoodRow τ' 1000 ty ys N ∧ DS L c τ τ' W W'
/-- a slice of a type comes back, of n elements -/
def SlD (ty : Ty) (n N : Nat) (L : Nat) (c : Cu) (τ : Tau) (W : World) (e : Ending) (W' : World) : Prop :=
  ∃ (τ' : Tau) (g cp : Nat), e = .returned (.slice (some ⟨g, 0, none⟩) n cp) ∧ GoodV τ' 1000 ty (.slice (some ⟨g, 0, none⟩) n cp) ∧ slw τ' (.slice (some ⟨g, 0, none⟩) n cp) ≤ N ∧ DS L c τ τ' W W'
theorem finE {L N b : Nat} {c : Cu} {τ0 τ : Tau} {W0 W : World} {ty : Ty} {T : TypeId} {zs : Array Value} {ys : List Value} (H : DS L c τ0 τ W0 W) (R : Bx τ W0 W b T zs) (hy : GoodRow τ 1000 ty ys N) :
    RowD ty N L c τ0 W0 (.returned (.agg ys.toArray)) (W.setRow b ys.toArray) :=
  ⟨τ, ys, rfl, hy, H.own (setRow_grown W b ys.toArray) fun k e => by injection e with e; subst e; exact ⟨R.hi, R.free⟩⟩
/-- the ten cells of an expression -/
theorem GoodRow.ten {τ : Tau} {S : Nat} {ys : List Value} {N : Nat} (h : GoodRow τ S .exprs ys N) : ∃ (c0 c1 : Int) (c2 : Bool) (c3 c4 : Int) (c5 c6 c7 : ByteArray) (x8 x9 : Value), ys = [.int .i64 c0, .int .i64 c1, .bool c2, .int .i64 c3, .int .i64 c4, .string c5, .string c6, .string c7, x8, x9] ∧
    (-9223372036854775808 ≤ c0 ∧ c0 ≤ 9223372036854775807) ∧ (-9223372036854775808 ≤ c1 ∧ c1 ≤ 9223372036854775807) ∧ (-9223372036854775808 ≤ c3 ∧ c3 ≤ 9223372036854775807) ∧ (-9223372036854775808 ≤ c4 ∧ c4 ≤ 9223372036854775807) ∧ c5.size ≤ S ∧ c6.size ≤ S ∧ c7.size ≤ S ∧ GoodV τ S .exprs x8 ∧ GoodV τ S .queries x9 ∧ 1 + (slw τ x8 + slw τ x9) ≤ N := by
  have hl : ys.length = 10 := h.len
  obtain ⟨y0, z0, n0, rfl, b0⟩ := h.cell 0 (by decide)
  obtain ⟨y1, z1, n1, rfl, b1⟩ := h.cell 1 (by decide)
  obtain ⟨y2, z2, n2, rfl⟩ := h.cell 2 (by decide)
  obtain ⟨y3, z3, n3, rfl, b3⟩ := h.cell 3 (by decide)
  obtain ⟨y4, z4, n4, rfl, b4⟩ := h.cell 4 (by decide)
  obtain ⟨y5, z5, n5, rfl, b5⟩ := h.cell 5 (by decide)
  obtain ⟨y6, z6, n6, rfl, b6⟩ := h.cell 6 (by decide)
  obtain ⟨y7, z7, n7, rfl, b7⟩ := h.cell 7 (by decide)
  obtain ⟨y8, z8, b8⟩ := h.cell 8 (by decide)
  obtain ⟨y9, z9, b9⟩ := h.cell 9 (by decide)
  have hs := h.sum
  match ys, hl with
  | [v0, v1, v2, v3, v4, v5, v6, v7, v8, v9], _ =>
    simp only [List.getElem?_cons_zero, List.getElem?_cons_succ, Option.some.injEq] at z0 z1 z2 z3 z4 z5 z6 z7 z8 z9
    subst z0; subst z1; subst z2; subst z3; subst z4; subst z5; subst z6; subst z7; subst z8; subst z9
    refine ⟨n0, n1, n2, n3, n4, n5, n6, n7, v8, v9, rfl, b0, b1, b3, b4, b5, b6, b7, b8, b9, ?_⟩
    simpa [slw] using hs
theorem GoodRow.mk10 {τ : Tau} {S : Nat} {N : Nat} {c0 c1 : Int} {c2 : Bool} {c3 c4 : Int} {c5 c6 c7 : ByteArray} {x8 x9 : Value} (b0 : -9223372036854775808 ≤ c0 ∧ c0 ≤ 9223372036854775807) (b1 : -9223372036854775808 ≤ c1 ∧ c1 ≤ 9223372036854775807) (b3 : -9223372036854775808 ≤ c3 ∧ c3 ≤ 9223372036854775807) (b4 : -9223372036854775808 ≤ c4 ∧ c4 ≤ 9223372036854775807) (b5 : c5.size ≤ S) (b6 : c6.size ≤ S) (b7 : c7.size ≤ S) (h8 : GoodV τ S .exprs x8) (h9 : GoodV τ S .queries x9) (hs : 1 + (slw τ x8 + slw τ x9) ≤ N) :
    GoodRow τ S .exprs [.int .i64 c0, .int .i64 c1, .bool c2, .int .i64 c3, .int .i64 c4, .string c5, .string c6, .string c7, x8, x9] N := by
  refine ⟨rfl, fun j hj => ?_, by simpa [slw] using hs⟩
  match j, hj with
  | 0, _ => exact ⟨_, rfl, _, rfl, b0⟩
  | 1, _ => exact ⟨_, rfl, _, rfl, b1⟩
  | 2, _ => exact ⟨_, rfl, _, rfl⟩
  | 3, _ => exact ⟨_, rfl, _, rfl, b3⟩
  | 4, _ => exact ⟨_, rfl, _, rfl, b4⟩
  | 5, _ => exact ⟨_, rfl, _, rfl, b5⟩
  | 6, _ => exact ⟨_, rfl, _, rfl, b6⟩
  | 7, _ => exact ⟨_, rfl, _, rfl, b7⟩
  | 8, _ => exact ⟨_, rfl, h8⟩
  | 9, _ => exact ⟨_, rfl, h9⟩
  | m + 10, hj => exact absurd hj (by simp [rowTy, exprTy])
theorem GoodV.nil (τ : Tau) (S : Nat) {ty : Ty} (h : tree ty = true) : GoodV τ S ty (.slice none 0 0) := by cases ty <;> first | exact .inl rfl | cases h
theorem GoodV.slice {τ : Tau} {S : Nat} {ty : Ty} {v : Value} (h : tree ty = true) (g : GoodV τ S ty v) : ∃ a n cp, v = .slice a n cp := by
  cases ty <;> first | (rcases g with rfl | ⟨_, _, _, _, rfl, _⟩ <;> exact ⟨_, _, _, rfl⟩) | cases h
/-- the weight of an expression of some depth -/
def We : Nat → Nat
  | 0 => 1
  | d + 1 => 2 + 3 * We d
theorem We_pos : ∀ d, 1 ≤ We d
  | 0 => Nat.le_refl _
  | d + 1 => by show 1 ≤ 2 + 3 * We d; omega
end Go.Proofs.Ytkacelpndeoogaa

/- Drawing the Kids of an expression. -/
namespace Go.Proofs.Ytkacelpndeoogaa
open Go.RowKit

/- one element more in a row of the own of the draw -/
set_option maxRecDepth 100000 in
theorem appKd {ops : Array Oper} {rest : List Oper} {o : Oper} {a : Act} {Q : Exit → Act → World → Prop}
    (hgd : o.guard = none) (s x : Operand) (ho : o.op = .call { callee := .builtin .append, args := #[s, x], argTypes := #[26, 26] })
    (L : Nat) (c : Cu) (τ0 τ : Tau) (W0 W : World) (v : Value) (n : Nat) (xs ys : List Value) (l : List Nat) (N nb : Nat) (hnb : W.heap.size = nb) (hs : a.eval s = v) (hx : a.eval x = .slice (some ⟨nb, 0, none⟩) 1 1)
    (H : DS L c τ0 τ W0 W) (hown : W.ownsRow W0.heap.size 29 10 v n xs) (hrows : RowsOk τ 1000 .exprs xs l) (hfree : ∀ g, v.ownBlock = some g → τ g = none) (hy : GoodRow τ 1000 .exprs ys N) (hone : ∀ u ∈ ys, u.oneCell' = true) (hn : n ≤ 1000)
    (h : ∀ (v' : Value) (w' : World), w'.ownsRow W0.heap.size 29 10 v' (n + 1) (xs ++ ys) → RowsOk τ 1000 .exprs (xs ++ ys) (l ++ [N]) → (∀ g, v'.ownBlock = some g → τ g = none) → DS L c τ0 τ W0 w' → (∀ k, k < W.heap.size → v.ownBlock ≠ some k → w'.heap[k]? = W.heap[k]?) → wpList Try.prog ops Q rest (a.put o.dst v') w') :
    wpList Try.prog ops Q (o :: rest) a (W.alloc (.cells ys.toArray 29)) := by
  subst hnb
  obtain ⟨i, hi, hz, hsize, hby⟩ := info_parts Try.infoEx
  have hrow := heap_alloc_new W (.cells ys.toArray 29)
  have hl : ys.length = 10 := hy.len
  refine wpList_append_own_at _ hgd s x 26 ho W0.heap.size 29 i _ 10 136 Try.underlying26 hi hz hsize hby rfl (by decide) v n xs hs (World.ownsRow.alloc hown _) ⟨W.heap.size, 0, none⟩ 1 1 ys hx (by rw [hl]) (fun j u hj => ?_) hone (by unfold maxLen; omega) (by omega) (by have := H.size; simp; omega) ?_
  · have hp : (⟨W.heap.size, 0, none⟩ : Addr).add j = ⟨W.heap.size, j, none⟩ := by unfold Addr.add; split <;> simp_all
    rw [hp, cell_of_row _ W.heap.size j _ 29 (0, 0) hrow]
    simpa using hj
  · intro v' w' hown' hgr hnil hat
    have H1 := H.alloc (.cells ys.toArray 29)
    have hlow : ∀ b, v.ownBlock = some b → W0.heap.size ≤ b := fun b hb => (World.ownsRow.lt hown b hb).1
    refine h v' w' hown' (hrows.snoc hy) (fun g hg => ?_) (H1.own hgr fun b hb => ⟨hlow b hb, hfree b hb⟩) (fun k hk hne => (hgr.block k (by simp; omega) (fun e => hne e.symm)).trans (Below.heap_alloc _ _ _ hk))
    rcases hat with e | e
    · exact hfree g (e.symm.trans hg)
    · rw [e] at hg
      injection hg with hg
      exact H1.inv.fresh (by omega)
def ExprD (d : Nat) : Prop := ∀ (L : Nat) (c : Cu) (τ : Tau) (W : World), DS L c τ τ W W → Calls Try.prog 85 #[.pointer (some ⟨c.C, 0, none⟩), .int .i64 (d : Int)] W (RowD .exprs (We d) L c τ W)
def KidsD (d n : Nat) : Prop := ∀ (L : Nat) (c : Cu) (τ : Tau) (W : World), DS L c τ τ W W → Calls Try.prog 151 #[.pointer (some ⟨c.C, 0, none⟩), .int .i64 ((d : Int) + 1), .int .i64 (n : Int)] W (SlD .exprs n (n * We d) L c τ W)
theorem GoodRow.tenS {τ : Tau} {S : Nat} {ys : List Value} {N : Nat} (h : GoodRow τ S .exprs ys N) : ∃ (c0 c1 : Int) (c2 : Bool) (c3 c4 : Int) (c5 c6 c7 : ByteArray) (a8 : Option Addr) (n8 p8 : Nat) (a9 : Option Addr) (n9 p9 : Nat), ys = [.int .i64 c0, .int .i64 c1, .bool c2, .int .i64 c3, .int .i64 c4, .string c5, .string c6, .string c7, .slice a8 n8 p8, .slice a9 n9 p9] := by
  obtain ⟨c0, c1, c2, c3, c4, c5, c6, c7, x8, x9, rfl, -, -, -, -, -, -, -, g8, g9, -⟩ := h.ten
  obtain ⟨a8, n8, p8, rfl⟩ := g8.slice rfl
  obtain ⟨a9, n9, p9, rfl⟩ := g9.slice rfl
  exact ⟨c0, c1, c2, c3, c4, c5, c6, c7, a8, n8, p8, a9, n9, p9, rfl⟩
theorem GoodRow.ones {τ : Tau} {S : Nat} {ys : List Value} {N : Nat} (h : GoodRow τ S .exprs ys N) : ∀ u ∈ ys, u.oneCell' = true := by
  obtain ⟨c0, c1, c2, c3, c4, c5, c6, c7, x8, x9, rfl, -, -, -, -, -, -, -, g8, g9, -⟩ := h.ten
  obtain ⟨a8, n8, p8, rfl⟩ := g8.slice rfl
  obtain ⟨a9, n9, p9, rfl⟩ := g9.slice rfl
  intro u hu
  simp only [List.mem_cons, List.not_mem_nil, or_false] at hu
  rcases hu with rfl | rfl | rfl | rfl | rfl | rfl | rfl | rfl | rfl | rfl <;> rfl
set_option maxRecDepth 100000 in
set_option maxHeartbeats 8000000 in
theorem kids_step (d n : Nat) (hd : d ≤ 100) (hn : 1 ≤ n) (hn3 : n ≤ 4) (IH : ExprD d) : KidsD d n := by
  intro L c τ W H
  have hrow0 := heap_alloc_new W (.cells #[] 29)
  have H0 := H.alloc (.cells #[] 29)
  have hf0 : τ W.heap.size = none := H.inv.fresh (Nat.le_refl _)
  go_enter Try.func151, Try.ntmps151
  go_wp2_with fail
  generalize W.alloc (.cells #[] 29) = W1 at hrow0 H0 ⊢
  go_loopw [7, 8] (fun v i wr => ∃ (j : Nat) (τj : Tau) (xs : List Value) (l : List Nat), j ≤ n ∧ i = .int .i64 (j : Int) ∧ wr.ownsRow W.heap.size 29 10 v j xs ∧ RowsOk τj 1000 .exprs xs l ∧ l.length = j ∧ l.sum ≤ j * We d ∧ DS L c τ τj W wr ∧ (∀ g, v.ownBlock = some g → τj g = none)) (fun _ i _ => n - (intOf i).toNat)
  case atStart =>
    exact ⟨0, τ, [], [], Nat.zero_le _, rfl, ⟨rfl, .inr ⟨W.heap.size, 0, #[], rfl, Nat.le_refl _, hrow0, Nat.le_refl _, by unfold maxLen; omega, rfl, rfl⟩⟩, RowsOk.nil _ _ _, rfl, Nat.zero_le _, H0, fun g hg => by injection hg with hg; rw [← hg]; exact hf0⟩
  case round =>
    obtain ⟨j, τj, xs, l, hj, rfl, hown, hrows, hll, hls, HS, hfree⟩ := hrel
    by_cases hlt : j < n
    · have hlt2 : (j : Int) < (n : Int) := by omega
      have hE := IH L c τj wr HS.here
      clear H0 hrow0 hf0
      go_wp2_with fail
      refine hE.mono ?_
      rintro e W2 ⟨τ', ys, rfl, hy, K⟩
      have H2 := HS.call K
      have hown2 : W2.ownsRow W.heap.size 29 10 u7 j xs := World.ownsRow.kept hown K.grown (by
        rcases h : u7.ownBlock with _ | k
        · exact .inl rfl
        · refine .inr fun e => ?_
          have h1 := (World.ownsRow.lt hown k h).1
          have h2 := H.ltC
          injection e with e
          omega)
      have hfree2 : ∀ g, u7.ownBlock = some g → τ' g = none := fun g hg => (K.same g (World.ownsRow.lt hown g hg).2).trans (hfree g hg)
      have hrows2 := hrows.le K.le
      have hone := hy.ones
      clear hown hfree hrows K HS hE
      obtain ⟨c0, c1, c2, c3, c4, c5, c6, c7, a8, n8, p8, a9, n9, p9, rfl⟩ := hy.tenS
      have hs2 : (l ++ [We d]).sum ≤ (j + 1) * We d := by rw [List.sum_append, Nat.add_mul, Nat.one_mul]; simp; omega
      go_wp2_with (at_builtin; refine appKd rfl (.tmp 15) (.tmp 20) rfl L c τ τ' W W2 u7 j xs [.int .i64 c0, .int .i64 c1, .bool c2, .int .i64 c3, .int .i64 c4, .string c5, .string c6, .string c7, .slice a8 n8 p8, .slice a9 n9 p9] l (We d) W2.heap.size rfl rfl rfl H2 hown2 hrows2 hfree2 hy hone (by omega) ?_; intro v' w' hown3 hrows3 hfree3 H3 _)
      go_roundw
      case rel => exact ⟨j + 1, τ', _, _, by omega, by go_num, hown3, hrows3, by simp [hll], hs2, H3, hfree3⟩
      case measure => simp [intOf]; omega
    · obtain rfl : n = j := by omega
      obtain ⟨τ', hinv, hle, hsame, hoth, hgood, hw⟩ := HS.inv.adoptOwn (ty := .exprs) rfl H.hi hown hll.symm hrows (fun g _ _ hg => hfree g hg)
      obtain ⟨g, cp, rfl⟩ : ∃ g cp, u7 = .slice (some ⟨g, 0, none⟩) n cp := by
        rcases hown.2 with ⟨_, h0⟩ | ⟨g, cp, _, e, _⟩
        · omega
        · exact ⟨g, cp, e⟩
      clear H0 hrow0 hf0
      go_wp2_with fail
      go_ret
      exact ⟨τ', g, cp, rfl, hgood, Nat.le_trans hw hls, ⟨HS.cur, hinv, HS.grown, HS.le.trans hle, fun k hk => (hsame k hk).trans (HS.same k hk), HS.lo, HS.hi⟩⟩
end Go.Proofs.Ytkacelpndeoogaa
