/- Joined texts: DrawVBent OpMath ValMath Toks. -/
import Derived.Test.YtjekhgekldkopaaQE
import Derived.Test.YtjekhgekldkopaaQA
import Derived.Test.YtjekhgekldkopaaQB
import Derived.RowKit
import Derived.WalkKit
import Derived.Lib.Hide
/- The contract of the function that draws a value that may be bent. -/
namespace Go.Proofs.Ytjekhgekldkopaa
open Go.RowKit

theorem ValAt.set_other5 {W : World} {B : Nat} {k a : Int} {t : ByteArray} (H : ValAt W B k a t) {C o : Nat} {v : Value} (h : B ≠ C) : ValAt (W.setCell ⟨C, o, none⟩ v) B k a t := (heap_setCell_other W ⟨C, o, none⟩ B v h).trans H
/-- how long the text of the value in block R is -/
def txtAt (w : World) (R : Nat) : Nat := match w.cell? ⟨R, 2, none⟩ with
  | some (.string s) => s.size
  | _ => 0
theorem txtAt_of {w : World} {R : Nat} {k n : Int} {t : ByteArray} (h : ValAt w R k n t) : txtAt w R = t.size := by
  have := cell_of_row w R 2 _ 27 (0, 0) h
  unfold txtAt
  rw [this]; rfl

set_option maxRecDepth 100000 in
set_option maxHeartbeats 8000000 in
theorem vbent_any (B C : Nat) (a : Option Addr) (len cap : Nat) (W : World) (H : Cur B C a len cap W) :
    Calls Try.prog 65 #[.pointer (some ⟨C, 0, none⟩)] W (ValDrawE 1000 B C a len cap W) := by
  have hWC := H.lt
  have hg0 : ValAt (W.alloc (.cells #[.int .i64 0, .int .i64 0, .string ⟨#[]⟩] 27)) W.heap.size 0 0 ⟨#[]⟩ := heap_alloc_new W _
  go_enter Try.func65, Try.ntmps65
  go_wp2_with fail
  refine (right_any B C a len cap _ (H.alloc _)).mono ?_
  rintro e W1 ⟨K, N, S0, hT, rfl, hc1, hg1⟩
  have hW1 := hg1.size
  have hW1' : W.heap.size + 1 ≤ W1.heap.size := by simpa using hW1
  have r0 := hg0.turn hg1 (by omega)
  have r0a : ValAt (W1.alloc (.cells #[.int .i64 K, .int .i64 N, .string S0] 27)) W.heap.size 0 0 ⟨#[]⟩ := (Below.heap_alloc W1 _ W.heap.size (by omega)).trans r0
  have r1a : ValAt (W1.alloc (.cells #[.int .i64 K, .int .i64 N, .string S0] 27)) W1.heap.size K N S0 := heap_alloc_new W1 _
  have hgA := grown_tr (grown_tr (grown_alloc W (.cells #[.int .i64 0, .int .i64 0, .string ⟨#[]⟩] 27) (some C)) hg1) (grown_alloc W1 (.cells #[.int .i64 K, .int .i64 N, .string S0] 27) (some C))
  have hcA := hc1.alloc (.cells #[.int .i64 K, .int .i64 N, .string S0] 27)
  go_wp2_with fail
  refine (below_any 14 B C a len cap _ hcA (by omega) (by omega)).mono ?_
  rintro e W2 ⟨x, hx0, hx1, rfl, hc2, hg2⟩
  replace r0a := r0a.turn hg2 (by omega)
  replace r1a := r1a.turn hg2 (by omega)
  replace hgA := grown_tr hgA hg2
  have hz1 := (Array.getElem?_eq_some_iff.1 r1a).1
  clear hg0 r0 hg1 hg2 hcA hc1 hW1
  by_cases h0 : x = 0
  · subst h0
    go_wp2_with fail
    refine (below_any 6 B C a len cap _ hc2 (by omega) (by omega)).mono ?_
    rintro e W3 ⟨m, hm0, hm1, rfl, hc3, hg3⟩
    replace r0a := r0a.turn hg3 (by omega)
    replace r1a := r1a.turn hg3 (by omega)
    replace hgA := grown_tr hgA hg3
    have hz1 := (Array.getElem?_eq_some_iff.1 r1a).1
    have hcX := hc3.setNew5 (R := W1.heap.size) (by omega) 0 (.int .i64 (m - 1))
    have hgX := grown_set5 (R := W1.heap.size) (o := 0) (v := .int .i64 (m - 1)) hgA (by omega)
    have r0x : ValAt (W3.setCell ⟨W1.heap.size, 0, none⟩ (.int .i64 (m - 1))) W.heap.size 0 0 ⟨#[]⟩ := r0a.set_other5 (by omega)
    have za0 := frozen_of_row W3 (W.heap.size) 0 _ 27 r0a
    have ga0 := cell_of_row W3 (W.heap.size) 0 _ 27 (0, 0) r0a
    have za1 := frozen_of_row W3 (W.heap.size) 1 _ 27 r0a
    have ga1 := cell_of_row W3 (W.heap.size) 1 _ 27 (0, 0) r0a
    have za2 := frozen_of_row W3 (W.heap.size) 2 _ 27 r0a
    have ga2 := cell_of_row W3 (W.heap.size) 2 _ 27 (0, 0) r0a
    have zb0 := frozen_of_row W3 (W1.heap.size) 0 _ 27 r1a
    have gb0 := cell_of_row W3 (W1.heap.size) 0 _ 27 (0, 0) r1a
    have zb1 := frozen_of_row W3 (W1.heap.size) 1 _ 27 r1a
    have gb1 := cell_of_row W3 (W1.heap.size) 1 _ 27 (0, 0) r1a
    have zb2 := frozen_of_row W3 (W1.heap.size) 2 _ 27 r1a
    have gb2 := cell_of_row W3 (W1.heap.size) 2 _ 27 (0, 0) r1a
    have hF := ((r0x.set0 (m - 1)).set1 N).set2 S0
    have f0 := cell_of_row _ W.heap.size 0 _ 27 (0, 0) hF
    have f1 := cell_of_row _ W.heap.size 1 _ 27 (0, 0) hF
    have f2 := cell_of_row _ W.heap.size 2 _ 27 (0, 0) hF
    have hcF := ((hcX.setNew5 (R := W.heap.size) hWC 0 (.int .i64 (m - 1))).setNew5 (R := W.heap.size) hWC 1 (.int .i64 N)).setNew5 (R := W.heap.size) hWC 2 (.string S0)
    have hgF := grown_set5 (R := W.heap.size) (o := 2) (v := .string S0) (grown_set5 (R := W.heap.size) (o := 1) (v := .int .i64 N) (grown_set5 (R := W.heap.size) (o := 0) (v := .int .i64 (m - 1)) hgX (Nat.le_refl _)) (Nat.le_refl _)) (Nat.le_refl _)
    go_wp2_with fail
    generalize (((W3.setCell ⟨W1.heap.size, 0, none⟩ (.int .i64 (m - 1))).setCell ⟨W.heap.size, 0, none⟩ (.int .i64 (m - 1))).setCell ⟨W.heap.size, 1, none⟩ (.int .i64 N)).setCell ⟨W.heap.size, 2, none⟩ (.string S0) = wf at f0 f1 f2 hcF hgF ⊢
    refine bodyPost_ret (v := .agg #[.int .i64 (m - 1), .int .i64 N, .string S0]) (by simp [results, Try.results65, go_sem, f0, f1, f2]) rfl ?_
    exact ⟨(m - 1), N, S0, by omega, rfl, hcF, hgF⟩
  have q0 : (x == 0) = false := by simpa using h0
  by_cases h1 : x = 1
  · subst h1
    go_wp2_with fail
    refine (whole_any B C a len cap _ hc2).mono ?_
    rintro e W3 ⟨m, hm0, hm1, rfl, hc3, hg3⟩
    replace r0a := r0a.turn hg3 (by omega)
    replace r1a := r1a.turn hg3 (by omega)
    replace hgA := grown_tr hgA hg3
    have hz1 := (Array.getElem?_eq_some_iff.1 r1a).1
    have hcX := hc3.setNew5 (R := W1.heap.size) (by omega) 1 (.int .i64 m)
    have hgX := grown_set5 (R := W1.heap.size) (o := 1) (v := .int .i64 m) hgA (by omega)
    have r0x : ValAt (W3.setCell ⟨W1.heap.size, 1, none⟩ (.int .i64 m)) W.heap.size 0 0 ⟨#[]⟩ := r0a.set_other5 (by omega)
    have za0 := frozen_of_row W3 (W.heap.size) 0 _ 27 r0a
    have ga0 := cell_of_row W3 (W.heap.size) 0 _ 27 (0, 0) r0a
    have za1 := frozen_of_row W3 (W.heap.size) 1 _ 27 r0a
    have ga1 := cell_of_row W3 (W.heap.size) 1 _ 27 (0, 0) r0a
    have za2 := frozen_of_row W3 (W.heap.size) 2 _ 27 r0a
    have ga2 := cell_of_row W3 (W.heap.size) 2 _ 27 (0, 0) r0a
    have zb0 := frozen_of_row W3 (W1.heap.size) 0 _ 27 r1a
    have gb0 := cell_of_row W3 (W1.heap.size) 0 _ 27 (0, 0) r1a
    have zb1 := frozen_of_row W3 (W1.heap.size) 1 _ 27 r1a
    have gb1 := cell_of_row W3 (W1.heap.size) 1 _ 27 (0, 0) r1a
    have zb2 := frozen_of_row W3 (W1.heap.size) 2 _ 27 r1a
    have gb2 := cell_of_row W3 (W1.heap.size) 2 _ 27 (0, 0) r1a
    have hF := ((r0x.set0 K).set1 m).set2 S0
    have f0 := cell_of_row _ W.heap.size 0 _ 27 (0, 0) hF
    have f1 := cell_of_row _ W.heap.size 1 _ 27 (0, 0) hF
    have f2 := cell_of_row _ W.heap.size 2 _ 27 (0, 0) hF
    have hcF := ((hcX.setNew5 (R := W.heap.size) hWC 0 (.int .i64 K)).setNew5 (R := W.heap.size) hWC 1 (.int .i64 m)).setNew5 (R := W.heap.size) hWC 2 (.string S0)
    have hgF := grown_set5 (R := W.heap.size) (o := 2) (v := .string S0) (grown_set5 (R := W.heap.size) (o := 1) (v := .int .i64 m) (grown_set5 (R := W.heap.size) (o := 0) (v := .int .i64 K) hgX (Nat.le_refl _)) (Nat.le_refl _)) (Nat.le_refl _)
    go_wp2_with fail
    generalize (((W3.setCell ⟨W1.heap.size, 1, none⟩ (.int .i64 m)).setCell ⟨W.heap.size, 0, none⟩ (.int .i64 K)).setCell ⟨W.heap.size, 1, none⟩ (.int .i64 m)).setCell ⟨W.heap.size, 2, none⟩ (.string S0) = wf at f0 f1 f2 hcF hgF ⊢
    refine bodyPost_ret (v := .agg #[.int .i64 K, .int .i64 m, .string S0]) (by simp [results, Try.results65, go_sem, f0, f1, f2]) rfl ?_
    exact ⟨K, m, S0, by omega, rfl, hcF, hgF⟩
  have q1 : (x == 1) = false := by simpa using h1
  by_cases h2 : x = 2
  · subst h2
    go_wp2_with fail
    refine (pick_any 4 W2.heap.size 3 B C a len cap _ (hc2.alloc _) (by omega) (by omega) (by simp) (by have := hc2.lt; omega) ?_).mono ?_
    · intro j hj
      rw [cell_of_row _ W2.heap.size j _ 9 (0, 0) (heap_alloc_new W2 _)]
      rcases (show j = 0 ∨ j = 1 ∨ j = 2 by omega) with rfl | rfl | rfl <;> exact ⟨_, by decide, rfl⟩
    · rintro e W3 ⟨S, hS, rfl, hc3, hg3'⟩
      have hg3 := grown_tr (grown_alloc W2 _ (some C)) hg3'
      clear hg3'
      replace r0a := r0a.turn hg3 (by omega)
      replace r1a := r1a.turn hg3 (by omega)
      replace hgA := grown_tr hgA hg3
      have hz1 := (Array.getElem?_eq_some_iff.1 r1a).1
      have r1l : ValAt (W3.setCell ⟨W1.heap.size, 2, none⟩ (.string S)) W1.heap.size K N S := r1a.set2 S
      have r0l : ValAt (W3.setCell ⟨W1.heap.size, 2, none⟩ (.string S)) W.heap.size 0 0 ⟨#[]⟩ := r0a.set_other5 (by omega)
      have hcl := hc3.setNew5 (R := W1.heap.size) (by omega) 2 (.string S)
      have hgl := grown_set5 (R := W1.heap.size) (o := 2) (v := .string S) hgA (by omega)
      have zb2 := frozen_of_row W3 W1.heap.size 2 _ 27 r1a
      have gb2 := cell_of_row W3 W1.heap.size 2 _ 27 (0, 0) r1a
      go_wp2_with fail
      clear zb2 gb2 r0a r1a hgA hc3 hg3 hc2
      generalize W3.setCell ⟨W1.heap.size, 2, none⟩ (.string S) = w0 at r1l r0l hcl hgl ⊢
      have hRR : W.heap.size ≠ W1.heap.size := by omega
      have hRC : W1.heap.size ≠ C := by omega
      have hCR : C < W1.heap.size := by omega
      clear hz1
      generalize hR1 : W1.heap.size = R1 at *
      have hWR : W.heap.size ≤ R1 := by omega
      clear hR1
      go_loopw [] (fun wr => ∃ S : ByteArray, S.size ≤ 1000 ∧ ValAt wr R1 K N S ∧ ValAt wr W.heap.size 0 0 ⟨#[]⟩ ∧ Cur B C a len cap wr ∧ W.grownBy wr (some C)) (fun wr => 400 - txtAt wr R1)
      case atStart => exact ⟨S, by omega, r1l, r0l, hcl, hgl⟩
      case round =>
        obtain ⟨S, hS, r1, r0, hc, hg⟩ := hrel
        have hRb := (Array.getElem?_eq_some_iff.1 r1).1
        go_wp2_with fail
        refine (once_any 2 B C a len cap _ hc (by omega) (by omega)).mono ?_
        rintro e W4 ⟨b, rfl, hc4, hg4⟩
        have r1a := r1.turn hg4 hRC
        have r0a := r0.turn hg4 (by omega)
        have hgA := grown_tr hg hg4
        have hm0 := txtAt_of r1
        clear hg hg4 hc r0 hRb
        cases b
        · have hcX := hc4
          have hgX := hgA
          have r0x := r0a
          have za0 := frozen_of_row W4 (W.heap.size) 0 _ 27 r0a
          have ga0 := cell_of_row W4 (W.heap.size) 0 _ 27 (0, 0) r0a
          have za1 := frozen_of_row W4 (W.heap.size) 1 _ 27 r0a
          have ga1 := cell_of_row W4 (W.heap.size) 1 _ 27 (0, 0) r0a
          have za2 := frozen_of_row W4 (W.heap.size) 2 _ 27 r0a
          have ga2 := cell_of_row W4 (W.heap.size) 2 _ 27 (0, 0) r0a
          have zb0 := frozen_of_row W4 (R1) 0 _ 27 r1a
          have gb0 := cell_of_row W4 (R1) 0 _ 27 (0, 0) r1a
          have zb1 := frozen_of_row W4 (R1) 1 _ 27 r1a
          have gb1 := cell_of_row W4 (R1) 1 _ 27 (0, 0) r1a
          have zb2 := frozen_of_row W4 (R1) 2 _ 27 r1a
          have gb2 := cell_of_row W4 (R1) 2 _ 27 (0, 0) r1a
          have hF := ((r0x.set0 K).set1 N).set2 S
          have f0 := cell_of_row _ W.heap.size 0 _ 27 (0, 0) hF
          have f1 := cell_of_row _ W.heap.size 1 _ 27 (0, 0) hF
          have f2 := cell_of_row _ W.heap.size 2 _ 27 (0, 0) hF
          have hcF := ((hcX.setNew5 (R := W.heap.size) hWC 0 (.int .i64 K)).setNew5 (R := W.heap.size) hWC 1 (.int .i64 N)).setNew5 (R := W.heap.size) hWC 2 (.string S)
          have hgF := grown_set5 (R := W.heap.size) (o := 2) (v := .string S) (grown_set5 (R := W.heap.size) (o := 1) (v := .int .i64 N) (grown_set5 (R := W.heap.size) (o := 0) (v := .int .i64 K) hgX (Nat.le_refl _)) (Nat.le_refl _)) (Nat.le_refl _)
          go_wp2_with fail
          generalize ((W4.setCell ⟨W.heap.size, 0, none⟩ (.int .i64 K)).setCell ⟨W.heap.size, 1, none⟩ (.int .i64 N)).setCell ⟨W.heap.size, 2, none⟩ (.string S) = wf at f0 f1 f2 hcF hgF ⊢
          refine bodyPost_ret (v := .agg #[.int .i64 K, .int .i64 N, .string S]) (by simp [results, Try.results65, go_sem, f0, f1, f2]) rfl ?_
          exact ⟨K, N, S, ⟨hS, hT.2⟩, rfl, hcF, hgF⟩
        · by_cases hl : S.size < 400
          · have d1 : decide ((S.size : Int) < 400) = true := by simp; omega
            have d2 : decide (S.size < 400) = true := by simp; omega
            have z2 := frozen_of_row W4 R1 2 _ 27 r1a
            have g2 := cell_of_row W4 R1 2 _ 27 (0, 0) r1a
            have hsz : (S ++ S ++ (⟨#[48, 49, 50, 51, 52, 53, 54, 55, 56, 57]⟩ : ByteArray)).size = S.size + S.size + 10 := by simp; rfl
            have r1n := r1a.set2 (S ++ S ++ ⟨#[48, 49, 50, 51, 52, 53, 54, 55, 56, 57]⟩)
            have r0n : ValAt (W4.setCell ⟨R1, 2, none⟩ (.string (S ++ S ++ ⟨#[48, 49, 50, 51, 52, 53, 54, 55, 56, 57]⟩))) W.heap.size 0 0 ⟨#[]⟩ := r0a.set_other5 hRR
            have hcn := hc4.setNew5 (R := R1) hCR 2 (.string (S ++ S ++ ⟨#[48, 49, 50, 51, 52, 53, 54, 55, 56, 57]⟩))
            have hgn := grown_set5 (R := R1) (o := 2) (v := .string (S ++ S ++ ⟨#[48, 49, 50, 51, 52, 53, 54, 55, 56, 57]⟩)) hgA hWR
            have hmn := txtAt_of r1n
            go_wp2_with fail
            go_roundw
            case rel => exact ⟨_, by rw [hsz]; omega, r1n, r0n, hcn, hgn⟩
            case measure => rw [hmn, hm0, hsz]; omega
          · have d1 : decide ((S.size : Int) < 400) = false := by simp; omega
            have d2 : decide (S.size < 400) = false := by simp; omega
            have hcX := hc4
            have hgX := hgA
            have r0x := r0a
            have za0 := frozen_of_row W4 (W.heap.size) 0 _ 27 r0a
            have ga0 := cell_of_row W4 (W.heap.size) 0 _ 27 (0, 0) r0a
            have za1 := frozen_of_row W4 (W.heap.size) 1 _ 27 r0a
            have ga1 := cell_of_row W4 (W.heap.size) 1 _ 27 (0, 0) r0a
            have za2 := frozen_of_row W4 (W.heap.size) 2 _ 27 r0a
            have ga2 := cell_of_row W4 (W.heap.size) 2 _ 27 (0, 0) r0a
            have zb0 := frozen_of_row W4 (R1) 0 _ 27 r1a
            have gb0 := cell_of_row W4 (R1) 0 _ 27 (0, 0) r1a
            have zb1 := frozen_of_row W4 (R1) 1 _ 27 r1a
            have gb1 := cell_of_row W4 (R1) 1 _ 27 (0, 0) r1a
            have zb2 := frozen_of_row W4 (R1) 2 _ 27 r1a
            have gb2 := cell_of_row W4 (R1) 2 _ 27 (0, 0) r1a
            have hF := ((r0x.set0 K).set1 N).set2 S
            have f0 := cell_of_row _ W.heap.size 0 _ 27 (0, 0) hF
            have f1 := cell_of_row _ W.heap.size 1 _ 27 (0, 0) hF
            have f2 := cell_of_row _ W.heap.size 2 _ 27 (0, 0) hF
            have hcF := ((hcX.setNew5 (R := W.heap.size) hWC 0 (.int .i64 K)).setNew5 (R := W.heap.size) hWC 1 (.int .i64 N)).setNew5 (R := W.heap.size) hWC 2 (.string S)
            have hgF := grown_set5 (R := W.heap.size) (o := 2) (v := .string S) (grown_set5 (R := W.heap.size) (o := 1) (v := .int .i64 N) (grown_set5 (R := W.heap.size) (o := 0) (v := .int .i64 K) hgX (Nat.le_refl _)) (Nat.le_refl _)) (Nat.le_refl _)
            go_wp2_with fail
            generalize ((W4.setCell ⟨W.heap.size, 0, none⟩ (.int .i64 K)).setCell ⟨W.heap.size, 1, none⟩ (.int .i64 N)).setCell ⟨W.heap.size, 2, none⟩ (.string S) = wf at f0 f1 f2 hcF hgF ⊢
            refine bodyPost_ret (v := .agg #[.int .i64 K, .int .i64 N, .string S]) (by simp [results, Try.results65, go_sem, f0, f1, f2]) rfl ?_
            exact ⟨K, N, S, ⟨hS, hT.2⟩, rfl, hcF, hgF⟩
  have q2 : (x == 2) = false := by simpa using h2
  have hcX := hc2
  have hgX := hgA
  have r0x := r0a
  have za0 := frozen_of_row W2 (W.heap.size) 0 _ 27 r0a
  have ga0 := cell_of_row W2 (W.heap.size) 0 _ 27 (0, 0) r0a
  have za1 := frozen_of_row W2 (W.heap.size) 1 _ 27 r0a
  have ga1 := cell_of_row W2 (W.heap.size) 1 _ 27 (0, 0) r0a
  have za2 := frozen_of_row W2 (W.heap.size) 2 _ 27 r0a
  have ga2 := cell_of_row W2 (W.heap.size) 2 _ 27 (0, 0) r0a
  have zb0 := frozen_of_row W2 (W1.heap.size) 0 _ 27 r1a
  have gb0 := cell_of_row W2 (W1.heap.size) 0 _ 27 (0, 0) r1a
  have zb1 := frozen_of_row W2 (W1.heap.size) 1 _ 27 r1a
  have gb1 := cell_of_row W2 (W1.heap.size) 1 _ 27 (0, 0) r1a
  have zb2 := frozen_of_row W2 (W1.heap.size) 2 _ 27 r1a
  have gb2 := cell_of_row W2 (W1.heap.size) 2 _ 27 (0, 0) r1a
  have hF := ((r0x.set0 K).set1 N).set2 S0
  have f0 := cell_of_row _ W.heap.size 0 _ 27 (0, 0) hF
  have f1 := cell_of_row _ W.heap.size 1 _ 27 (0, 0) hF
  have f2 := cell_of_row _ W.heap.size 2 _ 27 (0, 0) hF
  have hcF := ((hcX.setNew5 (R := W.heap.size) hWC 0 (.int .i64 K)).setNew5 (R := W.heap.size) hWC 1 (.int .i64 N)).setNew5 (R := W.heap.size) hWC 2 (.string S0)
  have hgF := grown_set5 (R := W.heap.size) (o := 2) (v := .string S0) (grown_set5 (R := W.heap.size) (o := 1) (v := .int .i64 N) (grown_set5 (R := W.heap.size) (o := 0) (v := .int .i64 K) hgX (Nat.le_refl _)) (Nat.le_refl _)) (Nat.le_refl _)
  go_wp2_with fail
  generalize ((W2.setCell ⟨W.heap.size, 0, none⟩ (.int .i64 K)).setCell ⟨W.heap.size, 1, none⟩ (.int .i64 N)).setCell ⟨W.heap.size, 2, none⟩ (.string S0) = wf at f0 f1 f2 hcF hgF ⊢
  refine bodyPost_ret (v := .agg #[.int .i64 K, .int .i64 N, .string S0]) (by simp [results, Try.results65, go_sem, f0, f1, f2]) rfl ?_
  exact ⟨K, N, S0, by omega, rfl, hcF, hgF⟩
end Go.Proofs.Ytjekhgekldkopaa

/- The mathematics of the operators: what fits into 64 bits, products that don't, quotients. -/
namespace Go.Proofs.Ytjekhgekldkopaa
open Go.RowKit

/-- the number fits into 64 bits -/
def fits (x : Int) : Bool := decide (-9223372036854775808 ≤ x) && decide (x ≤ 9223372036854775807)
theorem fits_iff {x : Int} : fits x = true ↔ -9223372036854775808 ≤ x ∧ x ≤ 9223372036854775807 := by
  unfold fits
  simp only [Bool.and_eq_true, decide_eq_true_eq]
/-- the number, or 0 if it does not fit -/
def outI (x : Int) : Int := if fits x then x else 0
/-- a number and whether it fits are returned -/
def NumR (x : Int) (w : World) (e : Ending) (w' : World) : Prop := e = .returned (.tuple #[.int .i64 (outI x), .bool (fits x)]) ∧ w = w'
theorem outI_yes {x : Int} (h : -9223372036854775808 ≤ x ∧ x ≤ 9223372036854775807) : outI x = x ∧ fits x = true := by
  have := fits_iff.2 h
  exact ⟨by unfold outI; rw [if_pos this], this⟩
theorem outI_no {x : Int} (h : ¬ (-9223372036854775808 ≤ x ∧ x ≤ 9223372036854775807)) : outI x = 0 ∧ fits x = false := by
  have : fits x = false := by
    cases h2 : fits x
    · rfl
    · exact absurd (fits_iff.1 h2) h
  exact ⟨by unfold outI; rw [if_neg (by simp [this])], this⟩
theorem NumR.yes {x : Int} {w w' : World} {e : Ending} (h : -9223372036854775808 ≤ x ∧ x ≤ 9223372036854775807) (he : e = .returned (.tuple #[.int .i64 x, .bool true])) (hw : w = w') : NumR x w e w' := by
  refine ⟨?_, hw⟩
  rw [(outI_yes h).1, (outI_yes h).2]; exact he
theorem NumR.no {x : Int} {w w' : World} {e : Ending} (h : ¬ (-9223372036854775808 ≤ x ∧ x ≤ 9223372036854775807)) (he : e = .returned (.tuple #[.int .i64 0, .bool false])) (hw : w = w') : NumR x w e w' := by
  refine ⟨?_, hw⟩
  rw [(outI_no h).1, (outI_no h).2]; exact he

theorem wrap64_cong (x : Int) : ∃ m : Int, wrap64 x = x - m * 18446744073709551616 := by
  refine ⟨(x + 9223372036854775808) / 18446744073709551616, ?_⟩
  unfold wrap64
  have := Int.emod_add_mul_ediv (x + 9223372036854775808) 18446744073709551616
  omega
theorem wrap64_range (x : Int) : -9223372036854775808 ≤ wrap64 x ∧ wrap64 x ≤ 9223372036854775807 := by
  unfold wrap64
  omega
/-- a quotient of what wrapped gives the factor back only where nothing wrapped -/
theorem mul_back {a b : Int} (hb : b ≠ 0) (hb0 : -9223372036854775808 ≤ b) (hb1 : b ≤ 9223372036854775807) :
    (wrap64 (a * b)).tdiv b = a ↔ (-9223372036854775808 ≤ a * b ∧ a * b ≤ 9223372036854775807) := by
  constructor
  · intro h
    have h1 := Int.tdiv_mul_add_tmod (wrap64 (a * b)) b
    rw [h] at h1
    obtain ⟨m, hm⟩ := wrap64_cong (a * b)
    have hr := wrap64_range (a * b)
    have hl : ((wrap64 (a * b)).tmod b).natAbs < b.natAbs := by
      rw [Int.natAbs_tmod]
      exact Nat.mod_lt _ (by omega)
    have : m = 0 := by
      generalize a * b = p at *
      generalize (wrap64 p).tmod b = r at *
      omega
    subst this
    omega
  · intro h
    rw [IntWalk.wrap64_in _ h]
    exact Int.mul_tdiv_cancel a hb
/-- a quotient by another divisor than 0 and -1 fits -/
theorem quo_fits {n b : Int} (hn : -9223372036854775808 ≤ n ∧ n ≤ 9223372036854775807) (h0 : b ≠ 0) (h1 : b ≠ -1) : -9223372036854775808 ≤ n.tdiv b ∧ n.tdiv b ≤ 9223372036854775807 := by
  by_cases h2 : b = 1
  · subst h2; rw [Int.tdiv_one]; exact hn
  · have h := Int.natAbs_tdiv n b
    have h3 : n.natAbs.div b.natAbs ≤ n.natAbs / 2 := Nat.div_le_div_left (by omega) (by omega)
    omega
end Go.Proofs.Ytjekhgekldkopaa

/- The order of values and of rows, and rows put in order, as plain functions. No program. -/
namespace Go.Proofs.Ytjekhgekldkopaa

/-- a value: its kind, its number, its text -/
abbrev VL := Int × Int × List UInt8

/-! ### The order of strings -/
theorem bl_nil (x : List UInt8) : Op.bytesLess x [] = false := by cases x <;> rfl
theorem bl_cons (a b : UInt8) (x y : List UInt8) : Op.bytesLess (a :: x) (b :: y) = (decide (a < b) || (a == b && Op.bytesLess x y)) := rfl
theorem bl_irrefl : ∀ x : List UInt8, Op.bytesLess x x = false
  | [] => rfl
  | a :: x => by rw [bl_cons, bl_irrefl x, decide_eq_false (UInt8.lt_irrefl a)]; simp
theorem bl_asymm : ∀ x y : List UInt8, Op.bytesLess x y = true → Op.bytesLess y x = false
  | _, [], h => by rw [bl_nil] at h; cases h
  | [], b :: y, _ => bl_nil _
  | a :: x, b :: y, h => by
    rw [bl_cons] at h ⊢
    simp only [Bool.or_eq_true, decide_eq_true_eq, Bool.and_eq_true, beq_iff_eq] at h
    rcases h with h | ⟨rfl, h⟩
    · have h1 : ¬ b < a := fun h2 => UInt8.lt_irrefl a (UInt8.lt_trans h h2)
      have h2 : ¬ b = a := fun e => by subst e; exact UInt8.lt_irrefl _ h
      simp [h1, h2]
    · rw [decide_eq_false (UInt8.lt_irrefl a), bl_asymm x y h]; simp
theorem bl_tri : ∀ x y : List UInt8, Op.bytesLess x y = false → Op.bytesLess y x = false → x = y
  | [], [], _, _ => rfl
  | [], b :: y, h, _ => by cases h
  | a :: x, [], _, h => by cases h
  | a :: x, b :: y, h, h' => by
    rw [bl_cons] at h h'
    simp only [Bool.or_eq_false_iff, decide_eq_false_iff_not, Bool.and_eq_false_iff] at h h'
    have hab : a = b := by
      rcases UInt8.lt_or_lt_of_ne (a := a) (b := b) |> fun f => Classical.em (a = b) |>.imp id f with h1 | h1
      · exact h1
      · rcases h1 with h1 | h1
        · exact absurd h1 h.1
        · exact absurd h1 h'.1
    subst hab
    have e1 : Op.bytesLess x y = false := by
      rcases h.2 with h2 | h2
      · simp at h2
      · exact h2
    have e2 : Op.bytesLess y x = false := by
      rcases h'.2 with h2 | h2
      · simp at h2
      · exact h2
    rw [bl_tri x y e1 e2]
theorem bl_trans : ∀ x y z : List UInt8, Op.bytesLess x y = true → Op.bytesLess y z = true → Op.bytesLess x z = true
  | _, _, [], _, h => by rw [bl_nil] at h; cases h
  | _, [], _ :: _, h, _ => by rw [bl_nil] at h; cases h
  | [], _ :: _, _ :: _, _, _ => rfl
  | a :: x, b :: y, c :: z, h, h' => by
    rw [bl_cons] at h h' ⊢
    simp only [Bool.or_eq_true, decide_eq_true_eq, Bool.and_eq_true, beq_iff_eq] at h h' ⊢
    rcases h with h | ⟨rfl, h⟩
    · rcases h' with h' | ⟨rfl, h'⟩
      · exact .inl (UInt8.lt_trans h h')
      · exact .inl h
    · rcases h' with h' | ⟨rfl, h'⟩
      · exact .inl h'
      · exact .inr ⟨rfl, bl_trans x y z h h'⟩

/-! ### The order of values -/
def ordV (a b : VL) : Int :=
  if a.1 < b.1 then -1 else if b.1 < a.1 then 1
  else if a.2.1 < b.2.1 then -1 else if b.2.1 < a.2.1 then 1
  else if Op.bytesLess a.2.2 b.2.2 then -1 else if Op.bytesLess b.2.2 a.2.2 then 1 else 0
theorem ordV_cases (a b : VL) :
    (ordV a b = -1 ∧ (a.1 < b.1 ∨ (a.1 = b.1 ∧ (a.2.1 < b.2.1 ∨ (a.2.1 = b.2.1 ∧ Op.bytesLess a.2.2 b.2.2 = true))))) ∨
    (ordV a b = 1 ∧ (b.1 < a.1 ∨ (a.1 = b.1 ∧ (b.2.1 < a.2.1 ∨ (a.2.1 = b.2.1 ∧ Op.bytesLess b.2.2 a.2.2 = true))))) ∨
    (ordV a b = 0 ∧ a = b) := by
  unfold ordV
  by_cases h1 : a.1 < b.1
  · rw [if_pos h1]; exact .inl ⟨rfl, .inl h1⟩
  · rw [if_neg h1]
    by_cases h2 : b.1 < a.1
    · rw [if_pos h2]; exact .inr (.inl ⟨rfl, .inl h2⟩)
    · rw [if_neg h2]
      have e1 : a.1 = b.1 := by omega
      by_cases h3 : a.2.1 < b.2.1
      · rw [if_pos h3]; exact .inl ⟨rfl, .inr ⟨e1, .inl h3⟩⟩
      · rw [if_neg h3]
        by_cases h4 : b.2.1 < a.2.1
        · rw [if_pos h4]; exact .inr (.inl ⟨rfl, .inr ⟨e1, .inl h4⟩⟩)
        · rw [if_neg h4]
          have e2 : a.2.1 = b.2.1 := by omega
          cases h5 : Op.bytesLess a.2.2 b.2.2
          · rw [if_neg (by simp)]
            cases h6 : Op.bytesLess b.2.2 a.2.2
            · rw [if_neg (by simp)]
              refine .inr (.inr ⟨rfl, ?_⟩)
              have e3 := bl_tri _ _ h5 h6
              obtain ⟨x, y, z⟩ := a
              obtain ⟨x', y', z'⟩ := b
              simp only at e1 e2 e3
              rw [e1, e2, e3]
            · rw [if_pos rfl]; exact .inr (.inl ⟨rfl, .inr ⟨e1, .inr ⟨e2, rfl⟩⟩⟩)
          · rw [if_pos rfl]; exact .inl ⟨rfl, .inr ⟨e1, .inr ⟨e2, rfl⟩⟩⟩
theorem ordV_self (a : VL) : ordV a a = 0 := by
  rcases ordV_cases a a with ⟨_, h⟩ | ⟨_, h⟩ | ⟨h, _⟩
  · rcases h with h | ⟨_, h | ⟨_, h⟩⟩
    · omega
    · omega
    · rw [bl_irrefl] at h; cases h
  · rcases h with h | ⟨_, h | ⟨_, h⟩⟩
    · omega
    · omega
    · rw [bl_irrefl] at h; cases h
  · exact h
theorem ordV_lt_iff (a b : VL) : ordV a b = -1 ↔ (a.1 < b.1 ∨ (a.1 = b.1 ∧ (a.2.1 < b.2.1 ∨ (a.2.1 = b.2.1 ∧ Op.bytesLess a.2.2 b.2.2 = true)))) := by
  constructor
  · intro h
    rcases ordV_cases a b with ⟨_, h1⟩ | ⟨h1, _⟩ | ⟨h1, _⟩
    · exact h1
    · rw [h] at h1; cases h1
    · rw [h] at h1; cases h1
  · intro h
    unfold ordV
    rcases h with h | ⟨e, h | ⟨e2, h⟩⟩
    · rw [if_pos h]
    · rw [if_neg (by omega), if_neg (by omega), if_pos h]
    · rw [if_neg (by omega), if_neg (by omega), if_neg (by omega), if_neg (by omega), if_pos h]
theorem ordV_neg (a b : VL) : ordV b a = -ordV a b := by
  rcases ordV_cases a b with ⟨h, h1⟩ | ⟨h, h1⟩ | ⟨h, rfl⟩
  · rw [h]
    rcases ordV_cases b a with ⟨h2, h3⟩ | ⟨h2, _⟩ | ⟨_, rfl⟩
    · exfalso
      rcases h1 with h1 | ⟨e1, h1 | ⟨e2, h1⟩⟩ <;> rcases h3 with h3 | ⟨e3, h3 | ⟨e4, h3⟩⟩ <;> first | omega | (rw [bl_asymm _ _ h1] at h3; cases h3)
    · rw [h2]; rfl
    · rw [ordV_self] at h; cases h
  · rw [h]
    have : ordV b a = -1 := by
      rw [ordV_lt_iff]
      rcases h1 with h1 | ⟨e, h1 | ⟨e2, h1⟩⟩
      · exact .inl h1
      · exact .inr ⟨e.symm, .inl h1⟩
      · exact .inr ⟨e.symm, .inr ⟨e2.symm, h1⟩⟩
    rw [this]
  · rw [ordV_self]; rfl
theorem ordV_zero {a b : VL} : ordV a b = 0 ↔ a = b := by
  constructor
  · intro h
    rcases ordV_cases a b with ⟨h1, _⟩ | ⟨h1, _⟩ | ⟨_, h1⟩
    · rw [h] at h1; cases h1
    · rw [h] at h1; cases h1
    · exact h1
  · rintro rfl; exact ordV_self a
theorem ordV_range (a b : VL) : ordV a b = -1 ∨ ordV a b = 0 ∨ ordV a b = 1 := by
  rcases ordV_cases a b with ⟨h, _⟩ | ⟨h, _⟩ | ⟨h, _⟩ <;> simp [h]
theorem ordV_trans_lt {a b c : VL} (h : ordV a b = -1) (g : ordV b c = -1) : ordV a c = -1 := by
  rw [ordV_lt_iff] at h g ⊢
  rcases h with h | ⟨e1, h | ⟨e2, h⟩⟩ <;> rcases g with g | ⟨f1, g | ⟨f2, g⟩⟩
  · exact .inl (by omega)
  · exact .inl (by omega)
  · exact .inl (by omega)
  · exact .inl (by omega)
  · exact .inr ⟨by omega, .inl (by omega)⟩
  · exact .inr ⟨by omega, .inl (by omega)⟩
  · exact .inl (by omega)
  · exact .inr ⟨by omega, .inl (by omega)⟩
  · exact .inr ⟨by omega, .inr ⟨by omega, bl_trans _ _ _ h g⟩⟩
theorem ordV_trans {a b c : VL} (h : ordV a b ≤ 0) (g : ordV b c ≤ 0) : ordV a c ≤ 0 := by
  rcases ordV_range a b with h1 | h1 | h1
  · rcases ordV_range b c with g1 | g1 | g1
    · rw [ordV_trans_lt h1 g1]; decide
    · rw [ordV_zero] at g1; subst g1; exact h
    · omega
  · rw [ordV_zero] at h1; subst h1; exact g
  · omega

/-! ### The order of rows -/
def ordR : List VL → List VL → Int
  | [], [] => 0
  | [], _ :: _ => -1
  | _ :: _, [] => 1
  | a :: x, b :: y => if ordV a b = 0 then ordR x y else ordV a b
theorem ordR_self : ∀ x : List VL, ordR x x = 0
  | [] => rfl
  | a :: x => by rw [ordR, if_pos (ordV_self a), ordR_self x]
theorem ordR_neg : ∀ x y : List VL, ordR y x = -ordR x y
  | [], [] => rfl
  | [], _ :: _ => rfl
  | _ :: _, [] => rfl
  | a :: x, b :: y => by
    rw [ordR, ordR, ordV_neg a b]
    by_cases h : ordV a b = 0
    · rw [if_pos h, if_pos (by omega), ordR_neg x y]
    · rw [if_neg h, if_neg (by omega)]
theorem ordR_range : ∀ x y : List VL, ordR x y = -1 ∨ ordR x y = 0 ∨ ordR x y = 1
  | [], [] => .inr (.inl rfl)
  | [], _ :: _ => .inl rfl
  | _ :: _, [] => .inr (.inr rfl)
  | a :: x, b :: y => by
    rw [ordR]
    split
    · exact ordR_range x y
    · exact ordV_range a b
theorem ordR_zero : ∀ {x y : List VL}, ordR x y = 0 → x = y
  | [], [], _ => rfl
  | [], _ :: _, h => by cases h
  | _ :: _, [], h => by cases h
  | a :: x, b :: y, h => by
    rw [ordR] at h
    by_cases h1 : ordV a b = 0
    · rw [if_pos h1] at h
      rw [ordV_zero.1 h1, ordR_zero h]
    · rw [if_neg h1] at h; exact absurd h h1
theorem ordR_trans : ∀ {x y z : List VL}, ordR x y ≤ 0 → ordR y z ≤ 0 → ordR x z ≤ 0
  | [], _, [], _, _ => by decide
  | [], _, _ :: _, _, _ => by show (-1 : Int) ≤ 0; decide
  | _ :: _, [], _, h, _ => by exact absurd h (by show ¬ (1 : Int) ≤ 0; decide)
  | _ :: _, _ :: _, [], _, h => by exact absurd h (by show ¬ (1 : Int) ≤ 0; decide)
  | a :: x, b :: y, c :: z, h, g => by
    rw [ordR] at h g ⊢
    by_cases h1 : ordV a b = 0
    · have e := ordV_zero.1 h1
      subst e
      rw [if_pos h1] at h
      by_cases g1 : ordV a c = 0
      · rw [if_pos g1] at g ⊢; exact ordR_trans h g
      · rw [if_neg g1] at g ⊢; exact g
    · rw [if_neg h1] at h
      by_cases g1 : ordV b c = 0
      · have e := ordV_zero.1 g1
        subst e
        rw [if_neg h1]; exact h
      · rw [if_neg g1] at g
        have h2 : ordV a b = -1 := by rcases ordV_range a b with h | h | h <;> omega
        have g2 : ordV b c = -1 := by rcases ordV_range b c with h | h | h <;> omega
        have := ordV_trans_lt h2 g2
        rw [if_neg (by omega)]; omega

/-! ### Rows in order -/
def SortedR (l : List (List VL)) : Prop := l.Pairwise fun x y => ordR x y ≤ 0
/-- rows that are in order are told by which rows they are -/
theorem sorted_unique : ∀ {l m : List (List VL)}, SortedR l → SortedR m → l.Perm m → l = m
  | [], m, _, _, hp => (List.Perm.nil_eq hp)
  | x :: l, [], _, _, hp => by have := hp.length_eq; simp at this
  | x :: l, y :: m, hl, hm, hp => by
    have hl' := List.pairwise_cons.1 hl
    have hm' := List.pairwise_cons.1 hm
    have hxy : x = y := by
      have h1 : x ∈ y :: m := hp.subset (List.mem_cons_self)
      have h2 : y ∈ x :: l := hp.symm.subset (List.mem_cons_self)
      rcases List.mem_cons.1 h1 with h1 | h1
      · exact h1
      · rcases List.mem_cons.1 h2 with h2 | h2
        · exact h2.symm
        · have a1 := hm'.1 x h1
          have a2 := hl'.1 y h2
          have a3 := ordR_neg x y
          exact ordR_zero (by omega)
    subst hxy
    rw [sorted_unique hl'.2 hm'.2 ((List.perm_cons x).1 hp)]

/-- where a row is put, looked for from behind -/
def posR (l : List (List VL)) (r : List VL) : Nat → Nat
  | 0 => 0
  | k + 1 => if 0 < ordR (l.getD k []) r then posR l r k else k + 1
def insR (l : List (List VL)) (r : List VL) : List (List VL) := l.take (posR l r l.length) ++ [r] ++ l.drop (posR l r l.length)
/-- the rows in order -/
def sortR (l : List (List VL)) : List (List VL) := l.foldl insR []
theorem posR_le (l : List (List VL)) (r : List VL) : ∀ k, posR l r k ≤ k
  | 0 => Nat.le_refl _
  | k + 1 => by
    unfold posR
    split
    · have := posR_le l r k; omega
    · exact Nat.le_refl _
theorem posR_above (l : List (List VL)) (r : List VL) : ∀ k j, posR l r k ≤ j → j < k → 0 < ordR (l.getD j []) r
  | 0, j, _, h => by omega
  | k + 1, j, h, hj => by
    unfold posR at h
    split at h
    · rename_i h1
      by_cases e : j = k
      · subst e; exact h1
      · exact posR_above l r k j h (by omega)
    · omega
theorem posR_at (l : List (List VL)) (r : List VL) : ∀ k, 0 < posR l r k → ordR (l.getD (posR l r k - 1) []) r ≤ 0
  | 0, h => by cases h
  | k + 1, h => by
    unfold posR at h ⊢
    split
    · rename_i h1
      rw [if_pos h1] at h
      exact posR_at l r k h
    · rename_i h1
      show ordR (l.getD (k + 1 - 1) []) r ≤ 0
      rw [Nat.add_sub_cancel]; omega
theorem insR_perm (l : List (List VL)) (r : List VL) : (insR l r).Perm (r :: l) := by
  unfold insR
  rw [List.append_assoc]
  show (l.take (posR l r l.length) ++ r :: l.drop (posR l r l.length)).Perm (r :: l)
  refine List.perm_middle.trans ?_
  rw [List.take_append_drop]
theorem getD_getElem {l : List (List VL)} {j : Nat} (h : j < l.length) : l.getD j [] = l[j] := by
  rw [List.getD_eq_getElem?_getD, List.getElem?_eq_getElem h]; rfl
theorem insR_sorted {l : List (List VL)} (h : SortedR l) (r : List VL) : SortedR (insR l r) := by
  have hp := posR_le l r l.length
  have hlow : ∀ x ∈ l.take (posR l r l.length), ordR x r ≤ 0 := by
    intro x hx
    obtain ⟨j, hj, rfl⟩ := List.getElem_of_mem hx
    rw [List.length_take] at hj
    have hjl : j < l.length := by omega
    rw [List.getElem_take]
    have h1 := posR_at l r l.length (by omega)
    rw [getD_getElem (by omega)] at h1
    by_cases e : j = posR l r l.length - 1
    · subst e; exact h1
    · exact ordR_trans (List.pairwise_iff_getElem.1 h j (posR l r l.length - 1) hjl (by omega) (by omega)) h1
  have hup : ∀ x ∈ l.drop (posR l r l.length), ordR r x ≤ 0 := by
    intro x hx
    obtain ⟨j, hj, rfl⟩ := List.getElem_of_mem hx
    rw [List.length_drop] at hj
    rw [List.getElem_drop]
    have h1 := posR_above l r l.length (posR l r l.length + j) (by omega) (by omega)
    rw [getD_getElem (by omega)] at h1
    have h2 := ordR_neg r (l[posR l r l.length + j]'(by omega))
    have h3 := ordR_neg (l[posR l r l.length + j]'(by omega)) r
    omega
  unfold insR SortedR
  have hs : (l.take (posR l r l.length) ++ l.drop (posR l r l.length)).Pairwise fun x y => ordR x y ≤ 0 := by rw [List.take_append_drop]; exact h
  rw [List.pairwise_append] at hs
  rw [List.append_assoc, List.pairwise_append]
  refine ⟨hs.1, ?_, ?_⟩
  · show (r :: l.drop _).Pairwise _
    rw [List.pairwise_cons]
    exact ⟨hup, hs.2.1⟩
  · intro x hx y hy
    rcases List.mem_cons.1 (show y ∈ r :: l.drop (posR l r l.length) from hy) with rfl | hy
    · exact hlow x hx
    · exact hs.2.2 x hx y hy
theorem sortR_step (l : List (List VL)) (r : List VL) : sortR (l ++ [r]) = insR (sortR l) r := by unfold sortR; rw [List.foldl_append]; rfl
theorem foldl_ins : ∀ (l acc : List (List VL)), SortedR acc → SortedR (l.foldl insR acc) ∧ (l.foldl insR acc).Perm (acc ++ l)
  | [], acc, h => ⟨h, by rw [List.append_nil]; exact List.Perm.refl _⟩
  | r :: l, acc, h => by
    have ih := foldl_ins l (insR acc r) (insR_sorted h r)
    refine ⟨ih.1, ih.2.trans ?_⟩
    refine ((insR_perm acc r).append_right l).trans ?_
    exact (List.perm_middle (a := r) (l₁ := acc) (l₂ := l)).symm
theorem sortR_sorted (l : List (List VL)) : SortedR (sortR l) := (foldl_ins l [] List.Pairwise.nil).1
theorem sortR_perm (l : List (List VL)) : (sortR l).Perm l := (foldl_ins l [] List.Pairwise.nil).2
/-- whatever else puts the rows in order gives the same -/
theorem sortR_only {l m : List (List VL)} (hs : SortedR m) (hp : m.Perm l) : m = sortR l := sorted_unique hs (sortR_sorted l) (hp.trans (sortR_perm l).symm)
theorem sortR_len (l : List (List VL)) : (sortR l).length = l.length := (sortR_perm l).length_eq
/-- each row stands in both as often -/
theorem sortR_count (l : List (List VL)) (p : List VL → Bool) : (sortR l).countP p = l.countP p := (sortR_perm l).countP_eq p
end Go.Proofs.Ytjekhgekldkopaa

/- Slices of tokens that a call owns; what a lexer hands back. -/
namespace Go.Proofs.Ytjekhgekldkopaa
open Go.RowKit

/-- a token's cells -/
def tkCells (t : Tk) : List Value := [.int .i64 t.k, .string ⟨t.t.toArray⟩, .int .i64 (t.a : Int)]
def toksCells (L : List Tk) : List Value := L.flatMap tkCells
theorem toksCells_snoc (L : List Tk) (t : Tk) : toksCells (L ++ [t]) = toksCells L ++ tkCells t := by simp [toksCells]
end Go.Proofs.Ytjekhgekldkopaa
