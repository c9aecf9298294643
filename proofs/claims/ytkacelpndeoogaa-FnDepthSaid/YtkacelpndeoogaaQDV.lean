/- Joined texts: DrawVBent DrawVBentK. -/
import Derived.Test.YtkacelpndeoogaaQDR
/- The contract of the function that draws a value that may be bent. -/
namespace Go.Proofs.Ytkacelpndeoogaa
open Go.RowKit

theorem ValAt.set_other5 {W : World} {B : Nat} {k a : Int} {t : ByteArray} (H : ValAt W B k a t) {C o : Nat} {v : Value} (h : B ≠ C) : ValAt (W.setCell ⟨C, o, none⟩ v) B k a t := (heap_setCell_other W ⟨C, o, none⟩ B v h).trans H
/-- how long the text of the value in block R is -/
def txtAt (w : World) (R : Nat) : Nat := match w.cell? ⟨R, 2, none⟩ with
  | some (.string s) => s.size
  | _ => 0
theorem txtAt_of {w : World} {R : Nat} {k n : Int} {t : ByteArray} (h : ValAt w R k n t) : txtAt w R = t.size := by
  have := cell_of_row w R 2 _ 25 (0, 0) h
  unfold txtAt
  rw [this]; rfl

set_option maxRecDepth 100000 in
set_option maxHeartbeats 8000000 in
theorem vbent_any (B C : Nat) (a : Option Addr) (len cap : Nat) (W : World) (H : Cur B C a len cap W) :
    Calls Try.prog 155 #[.pointer (some ⟨C, 0, none⟩)] W (ValDrawE 1000 B C a len cap W) := by
  have hWC := H.lt
  have hg0 : ValAt (W.alloc (.cells #[.int .i64 0, .int .i64 0, .string ⟨#[]⟩] 25)) W.heap.size 0 0 ⟨#[]⟩ := heap_alloc_new W _
  go_enter Try.func155, Try.ntmps155
  go_wp2_with fail
  refine (right_any B C a len cap _ (H.alloc _)).mono ?_
  rintro e W1 ⟨K, N, S0, hT, rfl, hc1, hg1⟩
  have hW1 := hg1.size
  have hW1' : W.heap.size + 1 ≤ W1.heap.size := by simpa using hW1
  have r0 := hg0.turn hg1 (by omega)
  have r0a : ValAt (W1.alloc (.cells #[.int .i64 K, .int .i64 N, .string S0] 25)) W.heap.size 0 0 ⟨#[]⟩ := (Below.heap_alloc W1 _ W.heap.size (by omega)).trans r0
  have r1a : ValAt (W1.alloc (.cells #[.int .i64 K, .int .i64 N, .string S0] 25)) W1.heap.size K N S0 := heap_alloc_new W1 _
  have hgA := grown_tr (grown_tr (grown_alloc W (.cells #[.int .i64 0, .int .i64 0, .string ⟨#[]⟩] 25) (some C)) hg1) (grown_alloc W1 (.cells #[.int .i64 K, .int .i64 N, .string S0] 25) (some C))
  have hcA := hc1.alloc (.cells #[.int .i64 K, .int .i64 N, .string S0] 25)
  go_wp2_with fail
  refine (below_any 14 B C a len cap _ hcA (by omega) (by omega)).mono ?_
  rintro e W2 ⟨x, hx0, hx1, rfl, hc2, hg2⟩
  replace r0a := r0a.turn hg2 (by omega)
  replace r1a := r1a.turn hg2 (by omega)
  replace hgA := grown_tr hgA hg2
  have hz1 := (Array.getElem?_eq_some_iff.1 r1a).1
  clear hg0 r0 hg1 hg2 hcA hc1 hW1
  by_cases h0 : x = 0
  · subst h0
    go_wp2_with fail
    refine (below_any 6 B C a len cap _ hc2 (by omega) (by omega)).mono ?_
    rintro e W3 ⟨m, hm0, hm1, rfl, hc3, hg3⟩
    replace r0a := r0a.turn hg3 (by omega)
    replace r1a := r1a.turn hg3 (by omega)
    replace hgA := grown_tr hgA hg3
    have hz1 := (Array.getElem?_eq_some_iff.1 r1a).1
    have hcX := hc3.setNew5 (R := W1.heap.size) (by omega) 0 (.int .i64 (m - 1))
    have hgX := grown_set5 (R := W1.heap.size) (o := 0) (v := .int .i64 (m - 1)) hgA (by omega)
    have r0x : ValAt (W3.setCell ⟨W1.heap.size, 0, none⟩ (.int .i64 (m - 1))) W.heap.size 0 0 ⟨#[]⟩ := r0a.set_other5 (by omega)
    have za0 := frozen_of_row W3 (W.heap.size) 0 _ 25 r0a
    have ga0 := cell_of_row W3 (W.heap.size) 0 _ 25 (0, 0) r0a
    have za1 := frozen_of_row W3 (W.heap.size) 1 _ 25 r0a
    have ga1 := cell_of_row W3 (W.heap.size) 1 _ 25 (0, 0) r0a
    have za2 := frozen_of_row W3 (W.heap.size) 2 _ 25 r0a
    have ga2 := cell_of_row W3 (W.heap.size) 2 _ 25 (0, 0) r0a
    have zb0 := frozen_of_row W3 (W1.heap.size) 0 _ 25 r1a
    have gb0 := cell_of_row W3 (W1.heap.size) 0 _ 25 (0, 0) r1a
    have zb1 := frozen_of_row W3 (W1.heap.size) 1 _ 25 r1a
    have gb1 := cell_of_row W3 (W1.heap.size) 1 _ 25 (0, 0) r1a
    have zb2 := frozen_of_row W3 (W1.heap.size) 2 _ 25 r1a
    have gb2 := cell_of_row W3 (W1.heap.size) 2 _ 25 (0, 0) r1a
    have hF := ((r0x.set0 (m - 1)).set1 N).set2 S0
    have f0 := cell_of_row _ W.heap.size 0 _ 25 (0, 0) hF
    have f1 := cell_of_row _ W.heap.size 1 _ 25 (0, 0) hF
    have f2 := cell_of_row _ W.heap.size 2 _ 25 (0, 0) hF
    have hcF := ((hcX.setNew5 (R := W.heap.size) hWC 0 (.int .i64 (m - 1))).setNew5 (R := W.heap.size) hWC 1 (.int .i64 N)).setNew5 (R := W.heap.size) hWC 2 (.string S0)
    have hgF := grown_set5 (R := W.heap.size) (o := 2) (v := .string S0) (grown_set5 (R := W.heap.size) (o := 1) (v := .int .i64 N) (grown_set5 (R := W.heap.size) (o := 0) (v := .int .i64 (m - 1)) hgX (Nat.le_refl _)) (Nat.le_refl _)) (Nat.le_refl _)
    go_wp2_with fail
    generalize (((W3.setCell ⟨W1.heap.size, 0, none⟩ (.int .i64 (m - 1))).setCell ⟨W.heap.size, 0, none⟩ (.int .i64 (m - 1))).setCell ⟨W.heap.size, 1, none⟩ (.int .i64 N)).setCell ⟨W.heap.size, 2, none⟩ (.string S0) = wf at f0 f1 f2 hcF hgF ⊢
    refine bodyPost_ret (v := .agg #[.int .i64 (m - 1), .int .i64 N, .string S0]) (by simp [results, Try.results155, go_sem, f0, f1, f2]) rfl ?_
    exact ⟨(m - 1), N, S0, by omega, rfl, hcF, hgF⟩
  have q0 : (x == 0) = false := by simpa using h0
  by_cases h1 : x = 1
  · subst h1
    go_wp2_with fail
    refine (whole_any B C a len cap _ hc2).mono ?_
    rintro e W3 ⟨m, hm0, hm1, rfl, hc3, hg3⟩
    replace r0a := r0a.turn hg3 (by omega)
    replace r1a := r1a.turn hg3 (by omega)
    replace hgA := grown_tr hgA hg3
    have hz1 := (Array.getElem?_eq_some_iff.1 r1a).1
    have hcX := hc3.setNew5 (R := W1.heap.size) (by omega) 1 (.int .i64 m)
    have hgX := grown_set5 (R := W1.heap.size) (o := 1) (v := .int .i64 m) hgA (by omega)
    have r0x : ValAt (W3.setCell ⟨W1.heap.size, 1, none⟩ (.int .i64 m)) W.heap.size 0 0 ⟨#[]⟩ := r0a.set_other5 (by omega)
    have za0 := frozen_of_row W3 (W.heap.size) 0 _ 25 r0a
    have ga0 := cell_of_row W3 (W.heap.size) 0 _ 25 (0, 0) r0a
    have za1 := frozen_of_row W3 (W.heap.size) 1 _ 25 r0a
    have ga1 := cell_of_row W3 (W.heap.size) 1 _ 25 (0, 0) r0a
    have za2 := frozen_of_row W3 (W.heap.size) 2 _ 25 r0a
    have ga2 := cell_of_row W3 (W.heap.size) 2 _ 25 (0, 0) r0a
    have zb0 := frozen_of_row W3 (W1.heap.size) 0 _ 25 r1a
    have gb0 := cell_of_row W3 (W1.heap.size) 0 _ 25 (0, 0) r1a
    have zb1 := frozen_of_row W3 (W1.heap.size) 1 _ 25 r1a
    have gb1 := cell_of_row W3 (W1.heap.size) 1 _ 25 (0, 0) r1a
    have zb2 := frozen_of_row W3 (W1.heap.size) 2 _ 25 r1a
    have gb2 := cell_of_row W3 (W1.heap.size) 2 _ 25 (0, 0) r1a
    have hF := ((r0x.set0 K).set1 m).set2 S0
    have f0 := cell_of_row _ W.heap.size 0 _ 25 (0, 0) hF
    have f1 := cell_of_row _ W.heap.size 1 _ 25 (0, 0) hF
    have f2 := cell_of_row _ W.heap.size 2 _ 25 (0, 0) hF
    have hcF := ((hcX.setNew5 (R := W.heap.size) hWC 0 (.int .i64 K)).setNew5 (R := W.heap.size) hWC 1 (.int .i64 m)).setNew5 (R := W.heap.size) hWC 2 (.string S0)
    have hgF := grown_set5 (R := W.heap.size) (o := 2) (v := .string S0) (grown_set5 (R := W.heap.size) (o := 1) (v := .int .i64 m) (grown_set5 (R := W.heap.size) (o := 0) (v := .int .i64 K) hgX (Nat.le_refl _)) (Nat.le_refl _)) (Nat.le_refl _)
    go_wp2_with fail
    generalize (((W3.setCell ⟨W1.heap.size, 1, none⟩ (.int .i64 m)).setCell ⟨W.heap.size, 0, none⟩ (.int .i64 K)).setCell ⟨W.heap.size, 1, none⟩ (.int .i64 m)).setCell ⟨W.heap.size, 2, none⟩ (.string S0) = wf at f0 f1 f2 hcF hgF ⊢
    refine bodyPost_ret (v := .agg #[.int .i64 K, .int .i64 m, .string S0]) (by simp [results, Try.results155, go_sem, f0, f1, f2]) rfl ?_
    exact ⟨K, m, S0, by omega, rfl, hcF, hgF⟩
  have q1 : (x == 1) = false := by simpa using h1
  by_cases h2 : x = 2
  · subst h2
    go_wp2_with fail
    refine (pick_any 4 W2.heap.size 3 B C a len cap _ (hc2.alloc _) (by omega) (by omega) (by simp) (by have := hc2.lt; omega) ?_).mono ?_
    · intro j hj
      rw [cell_of_row _ W2.heap.size j _ 9 (0, 0) (heap_alloc_new W2 _)]
      rcases (show j = 0 ∨ j = 1 ∨ j = 2 by omega) with rfl | rfl | rfl <;> exact ⟨_, by decide, rfl⟩
    · rintro e W3 ⟨S, hS, rfl, hc3, hg3'⟩
      have hg3 := grown_tr (grown_alloc W2 _ (some C)) hg3'
      clear hg3'
      replace r0a := r0a.turn hg3 (by omega)
      replace r1a := r1a.turn hg3 (by omega)
      replace hgA := grown_tr hgA hg3
      have hz1 := (Array.getElem?_eq_some_iff.1 r1a).1
      have r1l : ValAt (W3.setCell ⟨W1.heap.size, 2, none⟩ (.string S)) W1.heap.size K N S := r1a.set2 S
      have r0l : ValAt (W3.setCell ⟨W1.heap.size, 2, none⟩ (.string S)) W.heap.size 0 0 ⟨#[]⟩ := r0a.set_other5 (by omega)
      have hcl := hc3.setNew5 (R := W1.heap.size) (by omega) 2 (.string S)
      have hgl := grown_set5 (R := W1.heap.size) (o := 2) (v := .string S) hgA (by omega)
      have zb2 := frozen_of_row W3 W1.heap.size 2 _ 25 r1a
      have gb2 := cell_of_row W3 W1.heap.size 2 _ 25 (0, 0) r1a
      go_wp2_with fail
      clear zb2 gb2 r0a r1a hgA hc3 hg3 hc2
      generalize W3.setCell ⟨W1.heap.size, 2, none⟩ (.string S) = w0 at r1l r0l hcl hgl ⊢
      have hRR : W.heap.size ≠ W1.heap.size := by omega
      have hRC : W1.heap.size ≠ C := by omega
      have hCR : C < W1.heap.size := by omega
      clear hz1
      generalize hR1 : W1.heap.size = R1 at *
      have hWR : W.heap.size ≤ R1 := by omega
      clear hR1
      go_loopw [] (fun wr => ∃ S : ByteArray, S.size ≤ 1000 ∧ ValAt wr R1 K N S ∧ ValAt wr W.heap.size 0 0 ⟨#[]⟩ ∧ Cur B C a len cap wr ∧ W.grownBy wr (some C)) (fun wr => 400 - txtAt wr R1)
      case atStart => exact ⟨S, by omega, r1l, r0l, hcl, hgl⟩
      case round =>
        obtain ⟨S, hS, r1, r0, hc, hg⟩ := hrel
        have hRb := (Array.getElem?_eq_some_iff.1 r1).1
        go_wp2_with fail
        refine (once_any 2 B C a len cap _ hc (by omega) (by omega)).mono ?_
        rintro e W4 ⟨b, rfl, hc4, hg4⟩
        have r1a := r1.turn hg4 hRC
        have r0a := r0.turn hg4 (by omega)
        have hgA := grown_tr hg hg4
        have hm0 := txtAt_of r1
        clear hg hg4 hc r0 hRb
        cases b
        · have hcX := hc4
          have hgX := hgA
          have r0x := r0a
          have za0 := frozen_of_row W4 (W.heap.size) 0 _ 25 r0a
          have ga0 := cell_of_row W4 (W.heap.size) 0 _ 25 (0, 0) r0a
          have za1 := frozen_of_row W4 (W.heap.size) 1 _ 25 r0a
          have ga1 := cell_of_row W4 (W.heap.size) 1 _ 25 (0, 0) r0a
          have za2 := frozen_of_row W4 (W.heap.size) 2 _ 25 r0a
          have ga2 := cell_of_row W4 (W.heap.size) 2 _ 25 (0, 0) r0a
          have zb0 := frozen_of_row W4 (R1) 0 _ 25 r1a
          have gb0 := cell_of_row W4 (R1) 0 _ 25 (0, 0) r1a
          have zb1 := frozen_of_row W4 (R1) 1 _ 25 r1a
          have gb1 := cell_of_row W4 (R1) 1 _ 25 (0, 0) r1a
          have zb2 := frozen_of_row W4 (R1) 2 _ 25 r1a
          have gb2 := cell_of_row W4 (R1) 2 _ 25 (0, 0) r1a
          have hF := ((r0x.set0 K).set1 N).set2 S
          have f0 := cell_of_row _ W.heap.size 0 _ 25 (0, 0) hF
          have f1 := cell_of_row _ W.heap.size 1 _ 25 (0, 0) hF
          have f2 := cell_of_row _ W.heap.size 2 _ 25 (0, 0) hF
          have hcF := ((hcX.setNew5 (R := W.heap.size) hWC 0 (.int .i64 K)).setNew5 (R := W.heap.size) hWC 1 (.int .i64 N)).setNew5 (R := W.heap.size) hWC 2 (.string S)
          have hgF := grown_set5 (R := W.heap.size) (o := 2) (v := .string S) (grown_set5 (R := W.heap.size) (o := 1) (v := .int .i64 N) (grown_set5 (R := W.heap.size) (o := 0) (v := .int .i64 K) hgX (Nat.le_refl _)) (Nat.le_refl _)) (Nat.le_refl _)
          go_wp2_with fail
          generalize ((W4.setCell ⟨W.heap.size, 0, none⟩ (.int .i64 K)).setCell ⟨W.heap.size, 1, none⟩ (.int .i64 N)).setCell ⟨W.heap.size, 2, none⟩ (.string S) = wf at f0 f1 f2 hcF hgF ⊢
          refine bodyPost_ret (v := .agg #[.int .i64 K, .int .i64 N, .string S]) (by simp [results, Try.results155, go_sem, f0, f1, f2]) rfl ?_
          exact ⟨K, N, S, ⟨hS, hT.2⟩, rfl, hcF, hgF⟩
        · by_cases hl : S.size < 400
          · have d1 : decide ((S.size : Int) < 400) = true := by simp; omega
            have d2 : decide (S.size < 400) = true := by simp; omega
            have z2 := frozen_of_row W4 R1 2 _ 25 r1a
            have g2 := cell_of_row W4 R1 2 _ 25 (0, 0) r1a
            have hsz : (S ++ S ++ (⟨#[48, 49, 50, 51, 52, 53, 54, 55, 56, 57]⟩ : ByteArray)).size = S.size + S.size + 10 := by simp; rfl
            have r1n := r1a.set2 (S ++ S ++ ⟨#[48, 49, 50, 51, 52, 53, 54, 55, 56, 57]⟩)
            have r0n : ValAt (W4.setCell ⟨R1, 2, none⟩ (.string (S ++ S ++ ⟨#[48, 49, 50, 51, 52, 53, 54, 55, 56, 57]⟩))) W.heap.size 0 0 ⟨#[]⟩ := r0a.set_other5 hRR
            have hcn := hc4.setNew5 (R := R1) hCR 2 (.string (S ++ S ++ ⟨#[48, 49, 50, 51, 52, 53, 54, 55, 56, 57]⟩))
            have hgn := grown_set5 (R := R1) (o := 2) (v := .string (S ++ S ++ ⟨#[48, 49, 50, 51, 52, 53, 54, 55, 56, 57]⟩)) hgA hWR
            have hmn := txtAt_of r1n
            go_wp2_with fail
            go_roundw
            case rel => exact ⟨_, by rw [hsz]; omega, r1n, r0n, hcn, hgn⟩
            case measure => rw [hmn, hm0, hsz]; omega
          · have d1 : decide ((S.size : Int) < 400) = false := by simp; omega
            have d2 : decide (S.size < 400) = false := by simp; omega
            have hcX := hc4
            have hgX := hgA
            have r0x := r0a
            have za0 := frozen_of_row W4 (W.heap.size) 0 _ 25 r0a
            have ga0 := cell_of_row W4 (W.heap.size) 0 _ 25 (0, 0) r0a
            have za1 := frozen_of_row W4 (W.heap.size) 1 _ 25 r0a
            have ga1 := cell_of_row W4 (W.heap.size) 1 _ 25 (0, 0) r0a
            have za2 := frozen_of_row W4 (W.heap.size) 2 _ 25 r0a
            have ga2 := cell_of_row W4 (W.heap.size) 2 _ 25 (0, 0) r0a
            have zb0 := frozen_of_row W4 (R1) 0 _ 25 r1a
            have gb0 := cell_of_row W4 (R1) 0 _ 25 (0, 0) r1a
            have zb1 := frozen_of_row W4 (R1) 1 _ 25 r1a
            have gb1 := cell_of_row W4 (R1) 1 _ 25 (0, 0) r1a
            have zb2 := frozen_of_row W4 (R1) 2 _ 25 r1a
            have gb2 := cell_of_row W4 (R1) 2 _ 25 (0, 0) r1a
            have hF := ((r0x.set0 K).set1 N).set2 S
            have f0 := cell_of_row _ W.heap.size 0 _ 25 (0, 0) hF
            have f1 := cell_of_row _ W.heap.size 1 _ 25 (0, 0) hF
            have f2 := cell_of_row _ W.heap.size 2 _ 25 (0, 0) hF
            have hcF := ((hcX.setNew5 (R := W.heap.size) hWC 0 (.int .i64 K)).setNew5 (R := W.heap.size) hWC 1 (.int .i64 N)).setNew5 (R := W.heap.size) hWC 2 (.string S)
            have hgF := grown_set5 (R := W.heap.size) (o := 2) (v := .string S) (grown_set5 (R := W.heap.size) (o := 1) (v := .int .i64 N) (grown_set5 (R := W.heap.size) (o := 0) (v := .int .i64 K) hgX (Nat.le_refl _)) (Nat.le_refl _)) (Nat.le_refl _)
            go_wp2_with fail
            generalize ((W4.setCell ⟨W.heap.size, 0, none⟩ (.int .i64 K)).setCell ⟨W.heap.size, 1, none⟩ (.int .i64 N)).setCell ⟨W.heap.size, 2, none⟩ (.string S) = wf at f0 f1 f2 hcF hgF ⊢
            refine bodyPost_ret (v := .agg #[.int .i64 K, .int .i64 N, .string S]) (by simp [results, Try.results155, go_sem, f0, f1, f2]) rfl ?_
            exact ⟨K, N, S, ⟨hS, hT.2⟩, rfl, hcF, hgF⟩
  have q2 : (x == 2) = false := by simpa using h2
  have hcX := hc2
  have hgX := hgA
  have r0x := r0a
  have za0 := frozen_of_row W2 (W.heap.size) 0 _ 25 r0a
  have ga0 := cell_of_row W2 (W.heap.size) 0 _ 25 (0, 0) r0a
  have za1 := frozen_of_row W2 (W.heap.size) 1 _ 25 r0a
  have ga1 := cell_of_row W2 (W.heap.size) 1 _ 25 (0, 0) r0a
  have za2 := frozen_of_row W2 (W.heap.size) 2 _ 25 r0a
  have ga2 := cell_of_row W2 (W.heap.size) 2 _ 25 (0, 0) r0a
  have zb0 := frozen_of_row W2 (W1.heap.size) 0 _ 25 r1a
  have gb0 := cell_of_row W2 (W1.heap.size) 0 _ 25 (0, 0) r1a
  have zb1 := frozen_of_row W2 (W1.heap.size) 1 _ 25 r1a
  have gb1 := cell_of_row W2 (W1.heap.size) 1 _ 25 (0, 0) r1a
  have zb2 := frozen_of_row W2 (W1.heap.size) 2 _ 25 r1a
  have gb2 := cell_of_row W2 (W1.heap.size) 2 _ 25 (0, 0) r1a
  have hF := ((r0x.set0 K).set1 N).set2 S0
  have f0 := cell_of_row _ W.heap.size 0 _ 25 (0, 0) hF
  have f1 := cell_of_row _ W.heap.size 1 _ 25 (0, 0) hF
  have f2 := cell_of_row _ W.heap.size 2 _ 25 (0, 0) hF
  have hcF := ((hcX.setNew5 (R := W.heap.size) hWC 0 (.int .i64 K)).setNew5 (R := W.heap.size) hWC 1 (.int .i64 N)).setNew5 (R := W.heap.size) hWC 2 (.string S0)
  have hgF := grown_set5 (R := W.heap.size) (o := 2) (v := .string S0) (grown_set5 (R := W.heap.size) (o := 1) (v := .int .i64 N) (grown_set5 (R := W.heap.size) (o := 0) (v := .int .i64 K) hgX (Nat.le_refl _)) (Nat.le_refl _)) (Nat.le_refl _)
  go_wp2_with fail
  generalize ((W2.setCell ⟨W.heap.size, 0, none⟩ (.int .i64 K)).setCell ⟨W.heap.size, 1, none⟩ (.int .i64 N)).setCell ⟨W.heap.size, 2, none⟩ (.string S0) = wf at f0 f1 f2 hcF hgF ⊢
  refine bodyPost_ret (v := .agg #[.int .i64 K, .int .i64 N, .string S0]) (by simp [results, Try.results155, go_sem, f0, f1, f2]) rfl ?_
  exact ⟨K, N, S0, by omega, rfl, hcF, hgF⟩
end Go.Proofs.Ytkacelpndeoogaa

/- Drawing bent values, their numbers ints. -/
namespace Go.Proofs.Ytkacelpndeoogaa
open Go.RowKit

set_option maxRecDepth 100000 in
set_option maxHeartbeats 8000000 in
theorem vbent_anyK (B C : Nat) (a : Option Addr) (len cap : Nat) (W : World) (H : Cur B C a len cap W) :
    Calls Try.prog 155 #[.pointer (some ⟨C, 0, none⟩)] W (ValDrawK 1000 B C a len cap W) := by
  have hWC := H.lt
  have hg0 : ValAt (W.alloc (.cells #[.int .i64 0, .int .i64 0, .string ⟨#[]⟩] 25)) W.heap.size 0 0 ⟨#[]⟩ := heap_alloc_new W _
  go_enter Try.func155, Try.ntmps155
  go_wp2_with fail
  refine (right_anyK B C a len cap _ (H.alloc _)).mono ?_
  rintro e W1 ⟨K, N, S0, hT, rfl, hc1, hg1⟩
  have hW1 := hg1.size
  have hW1' : W.heap.size + 1 ≤ W1.heap.size := by simpa using hW1
  have r0 := hg0.turn hg1 (by omega)
  have r0a : ValAt (W1.alloc (.cells #[.int .i64 K, .int .i64 N, .string S0] 25)) W.heap.size 0 0 ⟨#[]⟩ := (Below.heap_alloc W1 _ W.heap.size (by omega)).trans r0
  have r1a : ValAt (W1.alloc (.cells #[.int .i64 K, .int .i64 N, .string S0] 25)) W1.heap.size K N S0 := heap_alloc_new W1 _
  have hgA := grown_tr (grown_tr (grown_alloc W (.cells #[.int .i64 0, .int .i64 0, .string ⟨#[]⟩] 25) (some C)) hg1) (grown_alloc W1 (.cells #[.int .i64 K, .int .i64 N, .string S0] 25) (some C))
  have hcA := hc1.alloc (.cells #[.int .i64 K, .int .i64 N, .string S0] 25)
  go_wp2_with fail
  refine (below_any 14 B C a len cap _ hcA (by omega) (by omega)).mono ?_
  rintro e W2 ⟨x, hx0, hx1, rfl, hc2, hg2⟩
  replace r0a := r0a.turn hg2 (by omega)
  replace r1a := r1a.turn hg2 (by omega)
  replace hgA := grown_tr hgA hg2
  have hz1 := (Array.getElem?_eq_some_iff.1 r1a).1
  clear hg0 r0 hg1 hg2 hcA hc1 hW1
  by_cases h0 : x = 0
  · subst h0
    go_wp2_with fail
    refine (below_any 6 B C a len cap _ hc2 (by omega) (by omega)).mono ?_
    rintro e W3 ⟨m, hm0, hm1, rfl, hc3, hg3⟩
    replace r0a := r0a.turn hg3 (by omega)
    replace r1a := r1a.turn hg3 (by omega)
    replace hgA := grown_tr hgA hg3
    have hz1 := (Array.getElem?_eq_some_iff.1 r1a).1
    have hcX := hc3.setNew5 (R := W1.heap.size) (by omega) 0 (.int .i64 (m - 1))
    have hgX := grown_set5 (R := W1.heap.size) (o := 0) (v := .int .i64 (m - 1)) hgA (by omega)
    have r0x : ValAt (W3.setCell ⟨W1.heap.size, 0, none⟩ (.int .i64 (m - 1))) W.heap.size 0 0 ⟨#[]⟩ := r0a.set_other5 (by omega)
    have za0 := frozen_of_row W3 (W.heap.size) 0 _ 25 r0a
    have ga0 := cell_of_row W3 (W.heap.size) 0 _ 25 (0, 0) r0a
    have za1 := frozen_of_row W3 (W.heap.size) 1 _ 25 r0a
    have ga1 := cell_of_row W3 (W.heap.size) 1 _ 25 (0, 0) r0a
    have za2 := frozen_of_row W3 (W.heap.size) 2 _ 25 r0a
    have ga2 := cell_of_row W3 (W.heap.size) 2 _ 25 (0, 0) r0a
    have zb0 := frozen_of_row W3 (W1.heap.size) 0 _ 25 r1a
    have gb0 := cell_of_row W3 (W1.heap.size) 0 _ 25 (0, 0) r1a
    have zb1 := frozen_of_row W3 (W1.heap.size) 1 _ 25 r1a
    have gb1 := cell_of_row W3 (W1.heap.size) 1 _ 25 (0, 0) r1a
    have zb2 := frozen_of_row W3 (W1.heap.size) 2 _ 25 r1a
    have gb2 := cell_of_row W3 (W1.heap.size) 2 _ 25 (0, 0) r1a
    have hF := ((r0x.set0 (m - 1)).set1 N).set2 S0
    have f0 := cell_of_row _ W.heap.size 0 _ 25 (0, 0) hF
    have f1 := cell_of_row _ W.heap.size 1 _ 25 (0, 0) hF
    have f2 := cell_of_row _ W.heap.size 2 _ 25 (0, 0) hF
    have hcF := ((hcX.setNew5 (R := W.heap.size) hWC 0 (.int .i64 (m - 1))).setNew5 (R := W.heap.size) hWC 1 (.int .i64 N)).setNew5 (R := W.heap.size) hWC 2 (.string S0)
    have hgF := grown_set5 (R := W.heap.size) (o := 2) (v := .string S0) (grown_set5 (R := W.heap.size) (o := 1) (v := .int .i64 N) (grown_set5 (R := W.heap.size) (o := 0) (v := .int .i64 (m - 1)) hgX (Nat.le_refl _)) (Nat.le_refl _)) (Nat.le_refl _)
    go_wp2_with fail
    generalize (((W3.setCell ⟨W1.heap.size, 0, none⟩ (.int .i64 (m - 1))).setCell ⟨W.heap.size, 0, none⟩ (.int .i64 (m - 1))).setCell ⟨W.heap.size, 1, none⟩ (.int .i64 N)).setCell ⟨W.heap.size, 2, none⟩ (.string S0) = wf at f0 f1 f2 hcF hgF ⊢
    refine bodyPost_ret (v := .agg #[.int .i64 (m - 1), .int .i64 N, .string S0]) (by simp [results, Try.results155, go_sem, f0, f1, f2]) rfl ?_
    exact ⟨(m - 1), N, S0, by omega, rfl, hcF, hgF⟩
  have q0 : (x == 0) = false := by simpa using h0
  by_cases h1 : x = 1
  · subst h1
    go_wp2_with fail
    refine (whole_any B C a len cap _ hc2).mono ?_
    rintro e W3 ⟨m, hm0, hm1, rfl, hc3, hg3⟩
    replace r0a := r0a.turn hg3 (by omega)
    replace r1a := r1a.turn hg3 (by omega)
    replace hgA := grown_tr hgA hg3
    have hz1 := (Array.getElem?_eq_some_iff.1 r1a).1
    have hcX := hc3.setNew5 (R := W1.heap.size) (by omega) 1 (.int .i64 m)
    have hgX := grown_set5 (R := W1.heap.size) (o := 1) (v := .int .i64 m) hgA (by omega)
    have r0x : ValAt (W3.setCell ⟨W1.heap.size, 1, none⟩ (.int .i64 m)) W.heap.size 0 0 ⟨#[]⟩ := r0a.set_other5 (by omega)
    have za0 := frozen_of_row W3 (W.heap.size) 0 _ 25 r0a
    have ga0 := cell_of_row W3 (W.heap.size) 0 _ 25 (0, 0) r0a
    have za1 := frozen_of_row W3 (W.heap.size) 1 _ 25 r0a
    have ga1 := cell_of_row W3 (W.heap.size) 1 _ 25 (0, 0) r0a
    have za2 := frozen_of_row W3 (W.heap.size) 2 _ 25 r0a
    have ga2 := cell_of_row W3 (W.heap.size) 2 _ 25 (0, 0) r0a
    have zb0 := frozen_of_row W3 (W1.heap.size) 0 _ 25 r1a
    have gb0 := cell_of_row W3 (W1.heap.size) 0 _ 25 (0, 0) r1a
    have zb1 := frozen_of_row W3 (W1.heap.size) 1 _ 25 r1a
    have gb1 := cell_of_row W3 (W1.heap.size) 1 _ 25 (0, 0) r1a
    have zb2 := frozen_of_row W3 (W1.heap.size) 2 _ 25 r1a
    have gb2 := cell_of_row W3 (W1.heap.size) 2 _ 25 (0, 0) r1a
    have hF := ((r0x.set0 K).set1 m).set2 S0
    have f0 := cell_of_row _ W.heap.size 0 _ 25 (0, 0) hF
    have f1 := cell_of_row _ W.heap.size 1 _ 25 (0, 0) hF
    have f2 := cell_of_row _ W.heap.size 2 _ 25 (0, 0) hF
    have hcF := ((hcX.setNew5 (R := W.heap.size) hWC 0 (.int .i64 K)).setNew5 (R := W.heap.size) hWC 1 (.int .i64 m)).setNew5 (R := W.heap.size) hWC 2 (.string S0)
    have hgF := grown_set5 (R := W.heap.size) (o := 2) (v := .string S0) (grown_set5 (R := W.heap.size) (o := 1) (v := .int .i64 m) (grown_set5 (R := W.heap.size) (o := 0) (v := .int .i64 K) hgX (Nat.le_refl _)) (Nat.le_refl _)) (Nat.le_refl _)
    go_wp2_with fail
    generalize (((W3.setCell ⟨W1.heap.size, 1, none⟩ (.int .i64 m)).setCell ⟨W.heap.size, 0, none⟩ (.int .i64 K)).setCell ⟨W.heap.size, 1, none⟩ (.int .i64 m)).setCell ⟨W.heap.size, 2, none⟩ (.string S0) = wf at f0 f1 f2 hcF hgF ⊢
    refine bodyPost_ret (v := .agg #[.int .i64 K, .int .i64 m, .string S0]) (by simp [results, Try.results155, go_sem, f0, f1, f2]) rfl ?_
    exact ⟨K, m, S0, by omega, rfl, hcF, hgF⟩
  have q1 : (x == 1) = false := by simpa using h1
  by_cases h2 : x = 2
  · subst h2
    go_wp2_with fail
    refine (pick_any 4 W2.heap.size 3 B C a len cap _ (hc2.alloc _) (by omega) (by omega) (by simp) (by have := hc2.lt; omega) ?_).mono ?_
    · intro j hj
      rw [cell_of_row _ W2.heap.size j _ 9 (0, 0) (heap_alloc_new W2 _)]
      rcases (show j = 0 ∨ j = 1 ∨ j = 2 by omega) with rfl | rfl | rfl <;> exact ⟨_, by decide, rfl⟩
    · rintro e W3 ⟨S, hS, rfl, hc3, hg3'⟩
      have hg3 := grown_tr (grown_alloc W2 _ (some C)) hg3'
      clear hg3'
      replace r0a := r0a.turn hg3 (by omega)
      replace r1a := r1a.turn hg3 (by omega)
      replace hgA := grown_tr hgA hg3
      have hz1 := (Array.getElem?_eq_some_iff.1 r1a).1
      have r1l : ValAt (W3.setCell ⟨W1.heap.size, 2, none⟩ (.string S)) W1.heap.size K N S := r1a.set2 S
      have r0l : ValAt (W3.setCell ⟨W1.heap.size, 2, none⟩ (.string S)) W.heap.size 0 0 ⟨#[]⟩ := r0a.set_other5 (by omega)
      have hcl := hc3.setNew5 (R := W1.heap.size) (by omega) 2 (.string S)
      have hgl := grown_set5 (R := W1.heap.size) (o := 2) (v := .string S) hgA (by omega)
      have zb2 := frozen_of_row W3 W1.heap.size 2 _ 25 r1a
      have gb2 := cell_of_row W3 W1.heap.size 2 _ 25 (0, 0) r1a
      go_wp2_with fail
      clear zb2 gb2 r0a r1a hgA hc3 hg3 hc2
      generalize W3.setCell ⟨W1.heap.size, 2, none⟩ (.string S) = w0 at r1l r0l hcl hgl ⊢
      have hRR : W.heap.size ≠ W1.heap.size := by omega
      have hRC : W1.heap.size ≠ C := by omega
      have hCR : C < W1.heap.size := by omega
      clear hz1
      generalize hR1 : W1.heap.size = R1 at *
      have hWR : W.heap.size ≤ R1 := by omega
      clear hR1
      go_loopw [] (fun wr => ∃ S : ByteArray, S.size ≤ 1000 ∧ ValAt wr R1 K N S ∧ ValAt wr W.heap.size 0 0 ⟨#[]⟩ ∧ Cur B C a len cap wr ∧ W.grownBy wr (some C)) (fun wr => 400 - txtAt wr R1)
      case atStart => exact ⟨S, by omega, r1l, r0l, hcl, hgl⟩
      case round =>
        obtain ⟨S, hS, r1, r0, hc, hg⟩ := hrel
        have hRb := (Array.getElem?_eq_some_iff.1 r1).1
        go_wp2_with fail
        refine (once_any 2 B C a len cap _ hc (by omega) (by omega)).mono ?_
        rintro e W4 ⟨b, rfl, hc4, hg4⟩
        have r1a := r1.turn hg4 hRC
        have r0a := r0.turn hg4 (by omega)
        have hgA := grown_tr hg hg4
        have hm0 := txtAt_of r1
        clear hg hg4 hc r0 hRb
        cases b
        · have hcX := hc4
          have hgX := hgA
          have r0x := r0a
          have za0 := frozen_of_row W4 (W.heap.size) 0 _ 25 r0a
          have ga0 := cell_of_row W4 (W.heap.size) 0 _ 25 (0, 0) r0a
          have za1 := frozen_of_row W4 (W.heap.size) 1 _ 25 r0a
          have ga1 := cell_of_row W4 (W.heap.size) 1 _ 25 (0, 0) r0a
          have za2 := frozen_of_row W4 (W.heap.size) 2 _ 25 r0a
          have ga2 := cell_of_row W4 (W.heap.size) 2 _ 25 (0, 0) r0a
          have zb0 := frozen_of_row W4 (R1) 0 _ 25 r1a
          have gb0 := cell_of_row W4 (R1) 0 _ 25 (0, 0) r1a
          have zb1 := frozen_of_row W4 (R1) 1 _ 25 r1a
          have gb1 := cell_of_row W4 (R1) 1 _ 25 (0, 0) r1a
          have zb2 := frozen_of_row W4 (R1) 2 _ 25 r1a
          have gb2 := cell_of_row W4 (R1) 2 _ 25 (0, 0) r1a
          have hF := ((r0x.set0 K).set1 N).set2 S
          have f0 := cell_of_row _ W.heap.size 0 _ 25 (0, 0) hF
          have f1 := cell_of_row _ W.heap.size 1 _ 25 (0, 0) hF
          have f2 := cell_of_row _ W.heap.size 2 _ 25 (0, 0) hF
          have hcF := ((hcX.setNew5 (R := W.heap.size) hWC 0 (.int .i64 K)).setNew5 (R := W.heap.size) hWC 1 (.int .i64 N)).setNew5 (R := W.heap.size) hWC 2 (.string S)
          have hgF := grown_set5 (R := W.heap.size) (o := 2) (v := .string S) (grown_set5 (R := W.heap.size) (o := 1) (v := .int .i64 N) (grown_set5 (R := W.heap.size) (o := 0) (v := .int .i64 K) hgX (Nat.le_refl _)) (Nat.le_refl _)) (Nat.le_refl _)
          go_wp2_with fail
          generalize ((W4.setCell ⟨W.heap.size, 0, none⟩ (.int .i64 K)).setCell ⟨W.heap.size, 1, none⟩ (.int .i64 N)).setCell ⟨W.heap.size, 2, none⟩ (.string S) = wf at f0 f1 f2 hcF hgF ⊢
          refine bodyPost_ret (v := .agg #[.int .i64 K, .int .i64 N, .string S]) (by simp [results, Try.results155, go_sem, f0, f1, f2]) rfl ?_
          exact ⟨K, N, S, ⟨hS, hT.2⟩, rfl, hcF, hgF⟩
        · by_cases hl : S.size < 400
          · have d1 : decide ((S.size : Int) < 400) = true := by simp; omega
            have d2 : decide (S.size < 400) = true := by simp; omega
            have z2 := frozen_of_row W4 R1 2 _ 25 r1a
            have g2 := cell_of_row W4 R1 2 _ 25 (0, 0) r1a
            have hsz : (S ++ S ++ (⟨#[48, 49, 50, 51, 52, 53, 54, 55, 56, 57]⟩ : ByteArray)).size = S.size + S.size + 10 := by simp; rfl
            have r1n := r1a.set2 (S ++ S ++ ⟨#[48, 49, 50, 51, 52, 53, 54, 55, 56, 57]⟩)
            have r0n : ValAt (W4.setCell ⟨R1, 2, none⟩ (.string (S ++ S ++ ⟨#[48, 49, 50, 51, 52, 53, 54, 55, 56, 57]⟩))) W.heap.size 0 0 ⟨#[]⟩ := r0a.set_other5 hRR
            have hcn := hc4.setNew5 (R := R1) hCR 2 (.string (S ++ S ++ ⟨#[48, 49, 50, 51, 52, 53, 54, 55, 56, 57]⟩))
            have hgn := grown_set5 (R := R1) (o := 2) (v := .string (S ++ S ++ ⟨#[48, 49, 50, 51, 52, 53, 54, 55, 56, 57]⟩)) hgA hWR
            have hmn := txtAt_of r1n
            go_wp2_with fail
            go_roundw
            case rel => exact ⟨_, by rw [hsz]; omega, r1n, r0n, hcn, hgn⟩
            case measure => rw [hmn, hm0, hsz]; omega
          · have d1 : decide ((S.size : Int) < 400) = false := by simp; omega
            have d2 : decide (S.size < 400) = false := by simp; omega
            have hcX := hc4
            have hgX := hgA
            have r0x := r0a
            have za0 := frozen_of_row W4 (W.heap.size) 0 _ 25 r0a
            have ga0 := cell_of_row W4 (W.heap.size) 0 _ 25 (0, 0) r0a
            have za1 := frozen_of_row W4 (W.heap.size) 1 _ 25 r0a
            have ga1 := cell_of_row W4 (W.heap.size) 1 _ 25 (0, 0) r0a
            have za2 := frozen_of_row W4 (W.heap.size) 2 _ 25 r0a
            have ga2 := cell_of_row W4 (W.heap.size) 2 _ 25 (0, 0) r0a
            have zb0 := frozen_of_row W4 (R1) 0 _ 25 r1a
            have gb0 := cell_of_row W4 (R1) 0 _ 25 (0, 0) r1a
            have zb1 := frozen_of_row W4 (R1) 1 _ 25 r1a
            have gb1 := cell_of_row W4 (R1) 1 _ 25 (0, 0) r1a
            have zb2 := frozen_of_row W4 (R1) 2 _ 25 r1a
            have gb2 := cell_of_row W4 (R1) 2 _ 25 (0, 0) r1a
            have hF := ((r0x.set0 K).set1 N).set2 S
            have f0 := cell_of_row _ W.heap.size 0 _ 25 (0, 0) hF
            have f1 := cell_of_row _ W.heap.size 1 _ 25 (0, 0) hF
            have f2 := cell_of_row _ W.heap.size 2 _ 25 (0, 0) hF
            have hcF := ((hcX.setNew5 (R := W.heap.size) hWC 0 (.int .i64 K)).setNew5 (R := W.heap.size) hWC 1 (.int .i64 N)).setNew5 (R := W.heap.size) hWC 2 (.string S)
            have hgF := grown_set5 (R := W.heap.size) (o := 2) (v := .string S) (grown_set5 (R := W.heap.size) (o := 1) (v := .int .i64 N) (grown_set5 (R := W.heap.size) (o := 0) (v := .int .i64 K) hgX (Nat.le_refl _)) (Nat.le_refl _)) (Nat.le_refl _)
            go_wp2_with fail
            generalize ((W4.setCell ⟨W.heap.size, 0, none⟩ (.int .i64 K)).setCell ⟨W.heap.size, 1, none⟩ (.int .i64 N)).setCell ⟨W.heap.size, 2, none⟩ (.string S) = wf at f0 f1 f2 hcF hgF ⊢
            refine bodyPost_ret (v := .agg #[.int .i64 K, .int .i64 N, .string S]) (by simp [results, Try.results155, go_sem, f0, f1, f2]) rfl ?_
            exact ⟨K, N, S, ⟨hS, hT.2⟩, rfl, hcF, hgF⟩
  have q2 : (x == 2) = false := by simpa using h2
  have hcX := hc2
  have hgX := hgA
  have r0x := r0a
  have za0 := frozen_of_row W2 (W.heap.size) 0 _ 25 r0a
  have ga0 := cell_of_row W2 (W.heap.size) 0 _ 25 (0, 0) r0a
  have za1 := frozen_of_row W2 (W.heap.size) 1 _ 25 r0a
  have ga1 := cell_of_row W2 (W.heap.size) 1 _ 25 (0, 0) r0a
  have za2 := frozen_of_row W2 (W.heap.size) 2 _ 25 r0a
  have ga2 := cell_of_row W2 (W.heap.size) 2 _ 25 (0, 0) r0a
  have zb0 := frozen_of_row W2 (W1.heap.size) 0 _ 25 r1a
  have gb0 := cell_of_row W2 (W1.heap.size) 0 _ 25 (0, 0) r1a
  have zb1 := frozen_of_row W2 (W1.heap.size) 1 _ 25 r1a
  have gb1 := cell_of_row W2 (W1.heap.size) 1 _ 25 (0, 0) r1a
  have zb2 := frozen_of_row W2 (W1.heap.size) 2 _ 25 r1a
  have gb2 := cell_of_row W2 (W1.heap.size) 2 _ 25 (0, 0) r1a
  have hF := ((r0x.set0 K).set1 N).set2 S0
  have f0 := cell_of_row _ W.heap.size 0 _ 25 (0, 0) hF
  have f1 := cell_of_row _ W.heap.size 1 _ 25 (0, 0) hF
  have f2 := cell_of_row _ W.heap.size 2 _ 25 (0, 0) hF
  have hcF := ((hcX.setNew5 (R := W.heap.size) hWC 0 (.int .i64 K)).setNew5 (R := W.heap.size) hWC 1 (.int .i64 N)).setNew5 (R := W.heap.size) hWC 2 (.string S0)
  have hgF := grown_set5 (R := W.heap.size) (o := 2) (v := .string S0) (grown_set5 (R := W.heap.size) (o := 1) (v := .int .i64 N) (grown_set5 (R := W.heap.size) (o := 0) (v := .int .i64 K) hgX (Nat.le_refl _)) (Nat.le_refl _)) (Nat.le_refl _)
  go_wp2_with fail
  generalize ((W2.setCell ⟨W.heap.size, 0, none⟩ (.int .i64 K)).setCell ⟨W.heap.size, 1, none⟩ (.int .i64 N)).setCell ⟨W.heap.size, 2, none⟩ (.string S0) = wf at f0 f1 f2 hcF hgF ⊢
  refine bodyPost_ret (v := .agg #[.int .i64 K, .int .i64 N, .string S0]) (by simp [results, Try.results155, go_sem, f0, f1, f2]) rfl ?_
  exact ⟨K, N, S0, by omega, rfl, hcF, hgF⟩
end Go.Proofs.Ytkacelpndeoogaa
