/- Joined texts: Draw DrawB0 DrawS DrawVal. -/
import Derived.Test.YtjekhgekldkopaaQD
import Derived.Test.YtjekhgekldkopaaQA
/- Contracts of two drawing functions of integers: l1PickInt and l1Whole. -/
namespace Go.Proofs.Ytjekhgekldkopaa
open Go.RowKit

set_option maxRecDepth 100000 in
set_option maxHeartbeats 400000 in
theorem pickInt_any (L m : Nat) (lo hi : Int) (B C : Nat) (a : Option Addr) (len cap : Nat) (W : World) (H : Cur B C a len cap W) (hm : 1 ≤ m) (hm2 : m ≤ 1000) (hL : L < W.heap.size) (hLC : L ≠ C)
    (hv : ∀ j, j < m → ∃ v : Int, lo ≤ v ∧ v ≤ hi ∧ W.cell? ⟨L, j, none⟩ = some (.int .i64 v)) :
    Calls Try.prog 67 #[.pointer (some ⟨C, 0, none⟩), .slice (some ⟨L, 0, none⟩) m m] W (DrawE lo hi B C a len cap W) := by
  go_enter Try.func67, Try.ntmps67
  go_wp2_with fail
  refine (below_any (m : Int) B C a len cap _ H (by omega) (by omega)).mono ?_
  rintro e W1 ⟨x, hx0, hx1, rfl, hc, hg⟩
  obtain ⟨j, rfl⟩ := Int.eq_ofNat_of_zero_le hx0
  obtain ⟨v, hv0, hv1, hvc⟩ := hv j (by omega)
  have hjm : j < m := by omega
  have hcell : W1.cell? ⟨L, j, none⟩ = some (.int .i64 v) := by
    rw [World.cell?_of_block (w := W) (w' := W1) (a := ⟨L, j, none⟩) (hg.block L hL (fun e => hLC (by simpa using e)))]
    exact hvc
  go_wp2_with fail
  go_ret
  exact ⟨v, hv0, hv1, rfl, hc, hg⟩

set_option maxRecDepth 100000 in
set_option maxHeartbeats 400000 in
theorem whole_any (B C : Nat) (a : Option Addr) (len cap : Nat) (W : World) (H : Cur B C a len cap W) :
    Calls Try.prog 70 #[.pointer (some ⟨C, 0, none⟩)] W (DrawE (-9223372036854775808) 9223372036854775807 B C a len cap W) := by
  go_enter Try.func70, Try.ntmps70
  go_wp2_with fail
  refine (below_any 3 B C a len cap _ H (by omega) (by omega)).mono ?_
  rintro e W1 ⟨x, hx0, hx1, rfl, hc, hg⟩
  rcases (show x = 0 ∨ x = 1 ∨ x = 2 by omega) with rfl | rfl | rfl
  · have hlt := hc.lt
    go_wp2_with fail
    refine (pickInt_any W1.heap.size 14 (-9223372036854775808) 9223372036854775807 B C a len cap _ (hc.alloc _) (by omega) (by omega) (by simp) (by omega) ?_).mono ?_
    · intro j hj
      rw [cell_of_row _ W1.heap.size j _ 3 (0, 0) (heap_alloc_new W1 _)]
      rcases (show j = 0 ∨ j = 1 ∨ j = 2 ∨ j = 3 ∨ j = 4 ∨ j = 5 ∨ j = 6 ∨ j = 7 ∨ j = 8 ∨ j = 9 ∨ j = 10 ∨ j = 11 ∨ j = 12 ∨ j = 13 by omega) with rfl | rfl | rfl | rfl | rfl | rfl | rfl | rfl | rfl | rfl | rfl | rfl | rfl | rfl <;> exact ⟨_, by decide, by decide, rfl⟩
    · rintro e W2 ⟨y, hy0, hy1, rfl, hc2, hg2⟩
      have hg3 := grown_tr hg (grown_tr (grown_alloc W1 _ (some C)) hg2)
      go_wp2_with fail
      go_ret
      exact ⟨y, hy0, hy1, rfl, hc2, hg3⟩
  · go_wp2_with fail
    refine (below_any 1000000 B C a len cap _ hc (by omega) (by omega)).mono ?_
    rintro e W2 ⟨y, hy0, hy1, rfl, hc2, hg2⟩
    go_wp2_with fail
    go_ret
    exact ⟨_, by omega, by omega, rfl, hc2, grown_tr hg hg2⟩
  · go_wp2_with fail
    refine (below_any 20 B C a len cap _ hc (by omega) (by omega)).mono ?_
    rintro e W2 ⟨y, hy0, hy1, rfl, hc2, hg2⟩
    go_wp2_with fail
    go_ret
    exact ⟨_, by omega, by omega, rfl, hc2, grown_tr hg hg2⟩
end Go.Proofs.Ytjekhgekldkopaa

/- The contract of the function that draws bytes. -/
namespace Go.Proofs.Ytjekhgekldkopaa
open Go.RowKit

theorem Try.info5b : (Try.prog.info? 5).map (fun i => (i.zero, i.size, i.bytes)) = some (some (.int .u8 0), 1, 1) := by kernel_rfl

theorem Cur.below {B C B' : Nat} {a : Option Addr} {len cap : Nat} {W W' : World} (H : Cur B C a len cap W) (g : Below B' W W') (hC : C < B') : Cur B C a len cap W' := by
  obtain ⟨h1, ⟨i, h, hi, hc⟩, h3, h4⟩ := H
  refine ⟨h1, ⟨i, h, hi, (g.block C hC).trans hc⟩, h3, fun j hj => ?_⟩
  obtain ⟨b, off, n, e1, e2, e3, e4, e5⟩ := h4 j hj
  exact ⟨b, off, n, e1, e2, e3, e4, (World.cell?_of_block (w := W) (w' := W') (a := ⟨b, off + j, none⟩) (g.block b (by omega))).trans e5⟩
theorem OwnB.turn {e : TypeId} {Bo C : Nat} {v : Value} {l : List UInt8} {W W' : World} (H : OwnB e W Bo v l) (g : W.grownBy W' (some C)) (hC : C < Bo) : OwnB e W' Bo v l :=
  World.ownsRow.kept H g (by
    rcases h : v.ownBlock with _ | k
    · exact .inl rfl
    · refine .inr fun e => ?_
      have := (World.ownsRow.lt H k h).1
      simp at e; omega)

def BytesE (B C : Nat) (a : Option Addr) (len cap n : Nat) (W : World) (e : Ending) (W' : World) : Prop :=
  ∃ (l : List UInt8) (g c : Nat), l.length = n ∧ e = .returned (.slice (some ⟨g, 0, none⟩) n c) ∧ OwnB 5 W' W.heap.size (.slice (some ⟨g, 0, none⟩) n c) l ∧ Cur B C a len cap W' ∧ W.grownBy W' (some C)

def StringE (m : Nat) (B : Nat) (W : World) (e : Ending) (W' : World) : Prop := ∃ S : ByteArray, S.size ≤ m ∧ e = .returned (.string S) ∧ Below B W W'
end Go.Proofs.Ytjekhgekldkopaa

/- Contracts of the functions that pick a string, and that say yes once in a while. -/
namespace Go.Proofs.Ytjekhgekldkopaa
open Go.RowKit

/-- some bool comes back, the cursor goes on -/
def OnceE (B C : Nat) (a : Option Addr) (len cap : Nat) (W : World) (e : Ending) (W' : World) : Prop :=
  ∃ x : Bool, e = .returned (.bool x) ∧ Cur B C a len cap W' ∧ W.grownBy W' (some C)
theorem once_any (n : Int) (B C : Nat) (a : Option Addr) (len cap : Nat) (W : World) (H : Cur B C a len cap W) (hn : 1 ≤ n) (hn2 : n ≤ 1000000) :
    Calls Try.prog 64 #[.pointer (some ⟨C, 0, none⟩), .int .i64 n] W (OnceE B C a len cap W) := by
  go_enter Try.func64, Try.ntmps64
  go_wp2_with fail
  refine (below_any n B C a len cap _ H hn hn2).mono ?_
  rintro e W1 ⟨x, hx0, hx1, rfl, hc, hg⟩
  go_wp2_with fail
  go_ret
  exact ⟨_, rfl, hc, hg⟩

/-- some string of at most M bytes comes back, the cursor goes on -/
def TextE (M : Nat) (B C : Nat) (a : Option Addr) (len cap : Nat) (W : World) (e : Ending) (W' : World) : Prop :=
  ∃ S : ByteArray, S.size ≤ M ∧ e = .returned (.string S) ∧ Cur B C a len cap W' ∧ W.grownBy W' (some C)

set_option maxRecDepth 100000 in
set_option maxHeartbeats 400000 in
theorem pick_any (M L m : Nat) (B C : Nat) (a : Option Addr) (len cap : Nat) (W : World) (H : Cur B C a len cap W) (hm : 1 ≤ m) (hm2 : m ≤ 1000) (hL : L < W.heap.size) (hLC : L ≠ C)
    (hv : ∀ j, j < m → ∃ S : ByteArray, S.size ≤ M ∧ W.cell? ⟨L, j, none⟩ = some (.string S)) :
    Calls Try.prog 68 #[.pointer (some ⟨C, 0, none⟩), .slice (some ⟨L, 0, none⟩) m m] W (TextE M B C a len cap W) := by
  go_enter Try.func68, Try.ntmps68
  go_wp2_with fail
  refine (below_any (m : Int) B C a len cap _ H (by omega) (by omega)).mono ?_
  rintro e W1 ⟨x, hx0, hx1, rfl, hc, hg⟩
  obtain ⟨j, rfl⟩ := Int.eq_ofNat_of_zero_le hx0
  obtain ⟨S, hS, hvc⟩ := hv j (by omega)
  have hjm : j < m := by omega
  have hcell : W1.cell? ⟨L, j, none⟩ = some (.string S) := by
    rw [World.cell?_of_block (w := W) (w' := W1) (a := ⟨L, j, none⟩) (hg.block L hL (fun e => hLC (by simpa using e)))]
    exact hvc
  go_wp2_with fail
  go_ret
  exact ⟨S, hS, rfl, hc, hg⟩
end Go.Proofs.Ytjekhgekldkopaa

/- Contracts of the functions that draw values. -/
namespace Go.Proofs.Ytjekhgekldkopaa
open Go.RowKit

theorem Cur.setNew5 {B C R : Nat} {a : Option Addr} {len cap : Nat} {W : World} (H : Cur B C a len cap W) (hR : C < R) (o : Nat) (v : Value) : Cur B C a len cap (W.setCell ⟨R, o, none⟩ v) := by
  obtain ⟨h1, ⟨i, h, hi, hc⟩, h3, h4⟩ := H
  refine ⟨h1, ⟨i, h, hi, (heap_setCell_other W ⟨R, o, none⟩ C v (by show C ≠ R; omega)).trans hc⟩, h3, fun j hj => ?_⟩
  obtain ⟨b, off, n, e1, e2, e3, e4, e5⟩ := h4 j hj
  exact ⟨b, off, n, e1, e2, e3, e4, (World.cell?_of_block (w := W) (a := ⟨b, off + j, none⟩) (heap_setCell_other W ⟨R, o, none⟩ b v (by show b ≠ R; omega))).trans e5⟩
theorem grown_set5 {W W' : World} {C : Nat} {R o : Nat} {v : Value} (h : W.grownBy W' (some C)) (hR : W.heap.size ≤ R) : W.grownBy (W'.setCell ⟨R, o, none⟩ v) (some C) :=
  ⟨h.os, h.tape, h.output, by simpa using h.size, fun k hk hr => (heap_setCell_other W' ⟨R, o, none⟩ k v (by show k ≠ R; omega)).trans (h.block k hk hr)⟩
theorem ValAt.turn {W W' : World} {R C : Nat} {k n : Int} {t : ByteArray} (H : ValAt W R k n t) (g : W.grownBy W' (some C)) (hR : R ≠ C) : ValAt W' R k n t :=
  (g.block R (Array.getElem?_eq_some_iff.1 H).1 (fun e => hR (by simpa using e))).trans H
/-- some value with a text of at most M bytes -/
def ValDrawE (M : Nat) (B C : Nat) (a : Option Addr) (len cap : Nat) (W : World) (e : Ending) (W' : World) : Prop :=
  ∃ (k n : Int) (t : ByteArray), (t.size ≤ M ∧ -9223372036854775808 ≤ n ∧ n ≤ 9223372036854775807) ∧ e = .returned (.agg #[.int .i64 k, .int .i64 n, .string t]) ∧ Cur B C a len cap W' ∧ W.grownBy W' (some C)

set_option maxRecDepth 100000 in
set_option maxHeartbeats 4000000 in
theorem right_any (B C : Nat) (a : Option Addr) (len cap : Nat) (W : World) (H : Cur B C a len cap W) :
    Calls Try.prog 78 #[.pointer (some ⟨C, 0, none⟩)] W (ValDrawE 8 B C a len cap W) := by
  have hWC := H.lt
  have r0 : ValAt (W.alloc (.cells #[.int .i64 0, .int .i64 0, .string ⟨#[]⟩] 27)) W.heap.size 0 0 ⟨#[]⟩ := heap_alloc_new W _
  have hgr := grown_alloc W (.cells #[.int .i64 0, .int .i64 0, .string ⟨#[]⟩] 27) (some C)
  go_enter Try.func78, Try.ntmps78
  go_wp2_with fail
  refine (below_any 6 B C a len cap _ (H.alloc _) (by omega) (by omega)).mono ?_
  rintro e W1 ⟨x, hx0, hx1, rfl, hc1, hg1⟩
  replace r0 := r0.turn hg1 (by omega)
  replace hgr := grown_tr hgr hg1
  clear hg1
  by_cases h0 : x = 0
  · subst h0
    have z0 := frozen_of_row W1 W.heap.size 0 _ 27 r0
    have g0 := cell_of_row W1 W.heap.size 0 _ 27 (0, 0) r0
    have z1 := frozen_of_row W1 W.heap.size 1 _ 27 r0
    have g1 := cell_of_row W1 W.heap.size 1 _ 27 (0, 0) r0
    have z2 := frozen_of_row W1 W.heap.size 2 _ 27 r0
    have g2 := cell_of_row W1 W.heap.size 2 _ 27 (0, 0) r0
    have hF := ((r0.set0 (0)).set1 (0)).set2 (⟨#[]⟩)
    have f0 := cell_of_row _ W.heap.size 0 _ 27 (0, 0) hF
    have f1 := cell_of_row _ W.heap.size 1 _ 27 (0, 0) hF
    have f2 := cell_of_row _ W.heap.size 2 _ 27 (0, 0) hF
    have hcF := ((hc1.setNew5 (R := W.heap.size) hWC 0 (.int .i64 0)).setNew5 (R := W.heap.size) hWC 1 (.int .i64 0)).setNew5 (R := W.heap.size) hWC 2 (.string ⟨#[]⟩)
    have hgF := grown_set5 (R := W.heap.size) (o := 2) (v := .string ⟨#[]⟩) (grown_set5 (R := W.heap.size) (o := 1) (v := .int .i64 0) (grown_set5 (R := W.heap.size) (o := 0) (v := .int .i64 0) hgr (Nat.le_refl _)) (Nat.le_refl _)) (Nat.le_refl _)
    go_wp2_with fail
    generalize ((W1.setCell ⟨W.heap.size, 0, none⟩ (.int .i64 0)).setCell ⟨W.heap.size, 1, none⟩ (.int .i64 0)).setCell ⟨W.heap.size, 2, none⟩ (.string ⟨#[]⟩) = wf at f0 f1 f2 hcF hgF ⊢
    refine bodyPost_ret (v := .agg #[.int .i64 0, .int .i64 0, .string ⟨#[]⟩]) (by simp [results, Try.results78, go_sem, f0, f1, f2]) rfl ?_
    exact ⟨0, 0, ⟨#[]⟩, by decide, rfl, hcF, hgF⟩
  have q0 : (x == 0) = false := by simpa using h0
  by_cases h1 : x = 1
  · subst h1
    go_wp2_with fail
    refine (pick_any 8 W1.heap.size 6 B C a len cap _ (hc1.alloc _) (by omega) (by omega) (by simp) (by have := hc1.lt; omega) ?_).mono ?_
    · intro j hj
      rw [cell_of_row _ W1.heap.size j _ 9 (0, 0) (heap_alloc_new W1 _)]
      rcases (show j = 0 ∨ j = 1 ∨ j = 2 ∨ j = 3 ∨ j = 4 ∨ j = 5 by omega) with rfl | rfl | rfl | rfl | rfl | rfl <;> exact ⟨_, by decide, rfl⟩
    · rintro e W2 ⟨S, hS, rfl, hc2, hg2'⟩
      have hg2 := grown_tr (grown_alloc W1 _ (some C)) hg2'
      clear hg2' hc1
      replace r0 := r0.turn hg2 (by omega)
      replace hgr := grown_tr hgr hg2
      go_wp2_with fail
      refine (textValue_spec S _).mono ?_
      rintro e W3 ⟨rfl, hb3⟩
      have hc3 := hc2.later hb3
      have hg3 := grown_of_new hb3 (some C)
      replace r0 := r0.turn hg3 (by omega)
      replace hgr := grown_tr hgr hg3
      have z0 := frozen_of_row W3 W.heap.size 0 _ 27 r0
      have g0 := cell_of_row W3 W.heap.size 0 _ 27 (0, 0) r0
      have z1 := frozen_of_row W3 W.heap.size 1 _ 27 r0
      have g1 := cell_of_row W3 W.heap.size 1 _ 27 (0, 0) r0
      have z2 := frozen_of_row W3 W.heap.size 2 _ 27 r0
      have g2 := cell_of_row W3 W.heap.size 2 _ 27 (0, 0) r0
      have hF := ((r0.set0 (2)).set1 (0)).set2 (S)
      have f0 := cell_of_row _ W.heap.size 0 _ 27 (0, 0) hF
      have f1 := cell_of_row _ W.heap.size 1 _ 27 (0, 0) hF
      have f2 := cell_of_row _ W.heap.size 2 _ 27 (0, 0) hF
      have hcF := ((hc3.setNew5 (R := W.heap.size) hWC 0 (.int .i64 2)).setNew5 (R := W.heap.size) hWC 1 (.int .i64 0)).setNew5 (R := W.heap.size) hWC 2 (.string S)
      have hgF := grown_set5 (R := W.heap.size) (o := 2) (v := .string S) (grown_set5 (R := W.heap.size) (o := 1) (v := .int .i64 0) (grown_set5 (R := W.heap.size) (o := 0) (v := .int .i64 2) hgr (Nat.le_refl _)) (Nat.le_refl _)) (Nat.le_refl _)
      go_wp2_with fail
      generalize ((W3.setCell ⟨W.heap.size, 0, none⟩ (.int .i64 2)).setCell ⟨W.heap.size, 1, none⟩ (.int .i64 0)).setCell ⟨W.heap.size, 2, none⟩ (.string S) = wf at f0 f1 f2 hcF hgF ⊢
      refine bodyPost_ret (v := .agg #[.int .i64 2, .int .i64 0, .string S]) (by simp [results, Try.results78, go_sem, f0, f1, f2]) rfl ?_
      exact ⟨2, 0, S, ⟨hS, by decide, by decide⟩, rfl, hcF, hgF⟩
  have q1 : (x == 1) = false := by simpa using h1
  by_cases h2 : x = 2
  · subst h2
    go_wp2_with fail
    refine (once_any 2 B C a len cap _ hc1 (by omega) (by omega)).mono ?_
    rintro e W2 ⟨b, rfl, hc2, hg2⟩
    replace r0 := r0.turn hg2 (by omega)
    replace hgr := grown_tr hgr hg2
    have hBV := fun w => boolValue_spec b w
    have hyb : -9223372036854775808 ≤ (if b then (1 : Int) else 0) ∧ (if b then (1 : Int) else 0) ≤ 9223372036854775807 := by cases b <;> decide
    generalize (if b then (1 : Int) else 0) = y at hBV hyb
    have HYB := Lib.hid hyb
    clear hyb
    go_wp2_with fail
    refine (hBV _).mono ?_
    rintro e W3 ⟨rfl, hb3⟩
    have hc3 := hc2.later hb3
    have hg3 := grown_of_new hb3 (some C)
    replace r0 := r0.turn hg3 (by omega)
    replace hgr := grown_tr hgr hg3
    clear hBV
    have z0 := frozen_of_row W3 W.heap.size 0 _ 27 r0
    have g0 := cell_of_row W3 W.heap.size 0 _ 27 (0, 0) r0
    have z1 := frozen_of_row W3 W.heap.size 1 _ 27 r0
    have g1 := cell_of_row W3 W.heap.size 1 _ 27 (0, 0) r0
    have z2 := frozen_of_row W3 W.heap.size 2 _ 27 r0
    have g2 := cell_of_row W3 W.heap.size 2 _ 27 (0, 0) r0
    have hF := ((r0.set0 (3)).set1 (y)).set2 (⟨#[]⟩)
    have f0 := cell_of_row _ W.heap.size 0 _ 27 (0, 0) hF
    have f1 := cell_of_row _ W.heap.size 1 _ 27 (0, 0) hF
    have f2 := cell_of_row _ W.heap.size 2 _ 27 (0, 0) hF
    have hcF := ((hc3.setNew5 (R := W.heap.size) hWC 0 (.int .i64 3)).setNew5 (R := W.heap.size) hWC 1 (.int .i64 y)).setNew5 (R := W.heap.size) hWC 2 (.string ⟨#[]⟩)
    have hgF := grown_set5 (R := W.heap.size) (o := 2) (v := .string ⟨#[]⟩) (grown_set5 (R := W.heap.size) (o := 1) (v := .int .i64 y) (grown_set5 (R := W.heap.size) (o := 0) (v := .int .i64 3) hgr (Nat.le_refl _)) (Nat.le_refl _)) (Nat.le_refl _)
    go_wp2_with fail
    generalize ((W3.setCell ⟨W.heap.size, 0, none⟩ (.int .i64 3)).setCell ⟨W.heap.size, 1, none⟩ (.int .i64 y)).setCell ⟨W.heap.size, 2, none⟩ (.string ⟨#[]⟩) = wf at f0 f1 f2 hcF hgF ⊢
    refine bodyPost_ret (v := .agg #[.int .i64 3, .int .i64 y, .string ⟨#[]⟩]) (by simp [results, Try.results78, go_sem, f0, f1, f2]) rfl ?_
    exact ⟨3, y, ⟨#[]⟩, ⟨by decide, HYB.out.1, HYB.out.2⟩, rfl, hcF, hgF⟩
  have q2 : (x == 2) = false := by simpa using h2
  by_cases h3 : x = 3
  · subst h3
    go_wp2_with fail
    refine (whole_any B C a len cap _ hc1).mono ?_
    rintro e W2 ⟨m, hm0, hm1, rfl, hc2, hg2⟩
    replace r0 := r0.turn hg2 (by omega)
    replace hgr := grown_tr hgr hg2
    go_wp2_with fail
    refine (intValue_spec m _).mono ?_
    rintro e W3 ⟨rfl, hb3⟩
    have hc3 := hc2.later hb3
    have hg3 := grown_of_new hb3 (some C)
    replace r0 := r0.turn hg3 (by omega)
    replace hgr := grown_tr hgr hg3
    have z0 := frozen_of_row W3 W.heap.size 0 _ 27 r0
    have g0 := cell_of_row W3 W.heap.size 0 _ 27 (0, 0) r0
    have z1 := frozen_of_row W3 W.heap.size 1 _ 27 r0
    have g1 := cell_of_row W3 W.heap.size 1 _ 27 (0, 0) r0
    have z2 := frozen_of_row W3 W.heap.size 2 _ 27 r0
    have g2 := cell_of_row W3 W.heap.size 2 _ 27 (0, 0) r0
    have hF := ((r0.set0 (1)).set1 (m)).set2 (⟨#[]⟩)
    have f0 := cell_of_row _ W.heap.size 0 _ 27 (0, 0) hF
    have f1 := cell_of_row _ W.heap.size 1 _ 27 (0, 0) hF
    have f2 := cell_of_row _ W.heap.size 2 _ 27 (0, 0) hF
    have hcF := ((hc3.setNew5 (R := W.heap.size) hWC 0 (.int .i64 1)).setNew5 (R := W.heap.size) hWC 1 (.int .i64 m)).setNew5 (R := W.heap.size) hWC 2 (.string ⟨#[]⟩)
    have hgF := grown_set5 (R := W.heap.size) (o := 2) (v := .string ⟨#[]⟩) (grown_set5 (R := W.heap.size) (o := 1) (v := .int .i64 m) (grown_set5 (R := W.heap.size) (o := 0) (v := .int .i64 1) hgr (Nat.le_refl _)) (Nat.le_refl _)) (Nat.le_refl _)
    go_wp2_with fail
    generalize ((W3.setCell ⟨W.heap.size, 0, none⟩ (.int .i64 1)).setCell ⟨W.heap.size, 1, none⟩ (.int .i64 m)).setCell ⟨W.heap.size, 2, none⟩ (.string ⟨#[]⟩) = wf at f0 f1 f2 hcF hgF ⊢
    refine bodyPost_ret (v := .agg #[.int .i64 1, .int .i64 m, .string ⟨#[]⟩]) (by simp [results, Try.results78, go_sem, f0, f1, f2]) rfl ?_
    exact ⟨1, m, ⟨#[]⟩, ⟨by decide, hm0, hm1⟩, rfl, hcF, hgF⟩
  have q3 : (x == 3) = false := by simpa using h3
  go_wp2_with fail
  refine (below_any 7 B C a len cap _ hc1 (by omega) (by omega)).mono ?_
  rintro e W2 ⟨m, hm0, hm1, rfl, hc2, hg2⟩
  replace r0 := r0.turn hg2 (by omega)
  replace hgr := grown_tr hgr hg2
  go_wp2_with fail
  refine (intValue_spec (m - 2) _).mono ?_
  rintro e W3 ⟨rfl, hb3⟩
  have hc3 := hc2.later hb3
  have hg3 := grown_of_new hb3 (some C)
  replace r0 := r0.turn hg3 (by omega)
  replace hgr := grown_tr hgr hg3
  have z0 := frozen_of_row W3 W.heap.size 0 _ 27 r0
  have g0 := cell_of_row W3 W.heap.size 0 _ 27 (0, 0) r0
  have z1 := frozen_of_row W3 W.heap.size 1 _ 27 r0
  have g1 := cell_of_row W3 W.heap.size 1 _ 27 (0, 0) r0
  have z2 := frozen_of_row W3 W.heap.size 2 _ 27 r0
  have g2 := cell_of_row W3 W.heap.size 2 _ 27 (0, 0) r0
  have hF := ((r0.set0 (1)).set1 ((m - 2))).set2 (⟨#[]⟩)
  have f0 := cell_of_row _ W.heap.size 0 _ 27 (0, 0) hF
  have f1 := cell_of_row _ W.heap.size 1 _ 27 (0, 0) hF
  have f2 := cell_of_row _ W.heap.size 2 _ 27 (0, 0) hF
  have hcF := ((hc3.setNew5 (R := W.heap.size) hWC 0 (.int .i64 1)).setNew5 (R := W.heap.size) hWC 1 (.int .i64 (m - 2))).setNew5 (R := W.heap.size) hWC 2 (.string ⟨#[]⟩)
  have hgF := grown_set5 (R := W.heap.size) (o := 2) (v := .string ⟨#[]⟩) (grown_set5 (R := W.heap.size) (o := 1) (v := .int .i64 (m - 2)) (grown_set5 (R := W.heap.size) (o := 0) (v := .int .i64 1) hgr (Nat.le_refl _)) (Nat.le_refl _)) (Nat.le_refl _)
  go_wp2_with fail
  generalize ((W3.setCell ⟨W.heap.size, 0, none⟩ (.int .i64 1)).setCell ⟨W.heap.size, 1, none⟩ (.int .i64 (m - 2))).setCell ⟨W.heap.size, 2, none⟩ (.string ⟨#[]⟩) = wf at f0 f1 f2 hcF hgF ⊢
  refine bodyPost_ret (v := .agg #[.int .i64 1, .int .i64 (m - 2), .string ⟨#[]⟩]) (by simp [results, Try.results78, go_sem, f0, f1, f2]) rfl ?_
  exact ⟨1, (m - 2), ⟨#[]⟩, ⟨by decide, by omega, by omega⟩, rfl, hcF, hgF⟩
end Go.Proofs.Ytjekhgekldkopaa
