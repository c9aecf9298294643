/- Joined texts: DrawName DrawAny DrawTok DrawSrc. -/
import Derived.Test.YtcadoplfgclbjaaGreatDoorQL
import Derived.Test.YtcadoplfgclbjaaGreatDoorQB
import Derived.Test.YtcadoplfgclbjaaGreatDoorQF
import Derived.Test.YtcadoplfgclbjaaGreatDoorQC
import Derived.Test.YtcadoplfgclbjaaGreatDoorQG
import Derived.Deep.RegionWith
/- The contract of the function that draws a name. -/
namespace Go.Proofs.YtcadoplfgclbjaaGreatDoor
open Go.RowKit

set_option maxRecDepth 100000 in
set_option maxHeartbeats 800000 in
theorem name_any (B C : Nat) (a : Option Addr) (len cap : Nat) (W : World) (H : Cur B C a len cap W) :
    Calls Tryz.prog 80 #[.pointer (some ⟨C, 0, none⟩)] W (TextE 24 B C a len cap W) := by
  go_enter Tryz.func80, Tryz.ntmps80
  go_wp2_with fail
  refine (once_any 6 B C a len cap _ H (by omega) (by omega)).mono ?_
  rintro e W1 ⟨x, rfl, hc, hg⟩
  have hlt := hc.lt
  cases x
  · go_wp2_with fail
    refine (pick_any 24 W1.heap.size 10 B C a len cap _ (hc.alloc _) (by omega) (by omega) (by simp) (by omega) ?_).mono ?_
    · intro j hj
      rw [cell_of_row _ W1.heap.size j _ 9 (0, 0) (heap_alloc_new W1 _)]
      rcases (show j = 0 ∨ j = 1 ∨ j = 2 ∨ j = 3 ∨ j = 4 ∨ j = 5 ∨ j = 6 ∨ j = 7 ∨ j = 8 ∨ j = 9 by omega) with rfl | rfl | rfl | rfl | rfl | rfl | rfl | rfl | rfl | rfl <;> exact ⟨_, by decide, rfl⟩
    · rintro e W2 ⟨S, hS, rfl, hc2, hg2⟩
      have hg3 := grown_tr hg (grown_tr (grown_alloc W1 _ (some C)) hg2)
      go_wp2_with fail
      go_ret
      exact ⟨S, hS, rfl, hc2, hg3⟩
  · go_wp2_with fail
    refine (pick_any 24 W1.heap.size 10 B C a len cap _ (hc.alloc _) (by omega) (by omega) (by simp) (by omega) ?_).mono ?_
    · intro j hj
      rw [cell_of_row _ W1.heap.size j _ 9 (0, 0) (heap_alloc_new W1 _)]
      rcases (show j = 0 ∨ j = 1 ∨ j = 2 ∨ j = 3 ∨ j = 4 ∨ j = 5 ∨ j = 6 ∨ j = 7 ∨ j = 8 ∨ j = 9 by omega) with rfl | rfl | rfl | rfl | rfl | rfl | rfl | rfl | rfl | rfl <;> exact ⟨_, by decide, rfl⟩
    · rintro e W2 ⟨S, hS, rfl, hc2, hg2⟩
      have hg3 := grown_tr hg (grown_tr (grown_alloc W1 _ (some C)) hg2)
      go_wp2_with fail
      go_ret
      exact ⟨S, hS, rfl, hc2, hg3⟩
end Go.Proofs.YtcadoplfgclbjaaGreatDoor

/- The contract of the function that draws any string as a name. -/
namespace Go.Proofs.YtcadoplfgclbjaaGreatDoor
open Go.RowKit

end Go.Proofs.YtcadoplfgclbjaaGreatDoor

/- Contracts of the functions that draw tokens. -/
namespace Go.Proofs.YtcadoplfgclbjaaGreatDoor
open Go.RowKit
open Go.Lib (decDigits itoa)

theorem maxZero_any (x : Int) (w : World) (h : x ≤ 9223372036854775807) : Calls Tryz.prog 82 #[.int .i64 0, .int .i64 x] w fun e w' => ∃ n : Nat, n ≤ 9223372036854775807 ∧ e = .returned (.int .i64 (n : Int)) ∧ w = w' := by
  by_cases h0 : x < 0
  · have d : decide (x < 0) = true := by simpa using h0
    go_enter Tryz.func82, Tryz.ntmps82
    go_wp2
    go_ret
    exact ⟨0, by omega, rfl, rfl⟩
  · have d : decide (x < 0) = false := by simpa using h0
    obtain ⟨n, rfl⟩ := Int.eq_ofNat_of_zero_le (show 0 ≤ x by omega)
    go_enter Tryz.func82, Tryz.ntmps82
    go_wp2
    go_ret
    exact ⟨n, by omega, rfl, rfl⟩

set_option maxRecDepth 100000 in
set_option maxHeartbeats 800000 in
theorem sign_any (B C : Nat) (a : Option Addr) (len cap : Nat) (W : World) (H : Cur B C a len cap W) :
    Calls Tryz.prog 83 #[.pointer (some ⟨C, 0, none⟩)] W (TextE 24 B C a len cap W) := by
  have hlt := H.lt
  go_enter Tryz.func83, Tryz.ntmps83
  go_wp2_with fail
  refine (pick_any 24 W.heap.size 16 B C a len cap _ (H.alloc _) (by omega) (by omega) (by simp) (by omega) ?_).mono ?_
  · intro j hj
    rw [cell_of_row _ W.heap.size j _ 9 (0, 0) (heap_alloc_new W _)]
    rcases (show j = 0 ∨ j = 1 ∨ j = 2 ∨ j = 3 ∨ j = 4 ∨ j = 5 ∨ j = 6 ∨ j = 7 ∨ j = 8 ∨ j = 9 ∨ j = 10 ∨ j = 11 ∨ j = 12 ∨ j = 13 ∨ j = 14 ∨ j = 15 by omega) with rfl | rfl | rfl | rfl | rfl | rfl | rfl | rfl | rfl | rfl | rfl | rfl | rfl | rfl | rfl | rfl <;> exact ⟨_, by decide, rfl⟩
  · rintro e W2 ⟨S, hS, rfl, hc2, hg2⟩
    have hg3 := grown_tr (grown_alloc W _ (some C)) hg2
    go_wp2_with fail
    go_ret
    exact ⟨S, hS, rfl, hc2, hg3⟩

/-- a store into a block that is new since W keeps the cursor -/
theorem Cur.setNew {B C R : Nat} {a : Option Addr} {len cap : Nat} {W : World} (H : Cur B C a len cap W) (hR : C < R) (o : Nat) (v : Value) : Cur B C a len cap (W.setCell ⟨R, o, none⟩ v) := by
  obtain ⟨h1, ⟨i, h, hi, hc⟩, h3, h4⟩ := H
  refine ⟨h1, ⟨i, h, hi, (heap_setCell_other W ⟨R, o, none⟩ C v (by show C ≠ R; omega)).trans hc⟩, h3, fun j hj => ?_⟩
  obtain ⟨b, off, n, e1, e2, e3, e4, e5⟩ := h4 j hj
  exact ⟨b, off, n, e1, e2, e3, e4, (World.cell?_of_block (w := W) (a := ⟨b, off + j, none⟩) (heap_setCell_other W ⟨R, o, none⟩ b v (by show b ≠ R; omega))).trans e5⟩
theorem grown_set3 {W W' : World} {C : Nat} (h : W.grownBy W' (some C)) (x y z : Value) :
    W.grownBy (((W'.setCell ⟨W.heap.size, 0, none⟩ x).setCell ⟨W.heap.size, 1, none⟩ y).setCell ⟨W.heap.size, 2, none⟩ z) (some C) := by
  have one : ∀ {X : World} (_ : W.grownBy X (some C)) (o : Nat) (v : Value), W.grownBy (X.setCell ⟨W.heap.size, o, none⟩ v) (some C) := fun {X} hX o v =>
    ⟨hX.os, hX.tape, hX.output, by simpa using hX.size, fun k hk hr => (heap_setCell_other X ⟨W.heap.size, o, none⟩ k v (by show k ≠ W.heap.size; omega)).trans (hX.block k hk hr)⟩
  exact one (one (one h 0 x) 1 y) 2 z
/-- the zero token of the result is still there -/
theorem tokZ_kept {W W' : World} {C : Nat} (h0 : TokAt (W.alloc (.cells #[.int .i64 0, .string ⟨#[]⟩, .int .i64 0] 40)) W.heap.size 0 ⟨#[]⟩ 0) (h : (W.alloc (.cells #[.int .i64 0, .string ⟨#[]⟩, .int .i64 0] 40)).grownBy W' (some C)) (hC : C < W.heap.size) : TokAt W' W.heap.size 0 ⟨#[]⟩ 0 :=
  (h.block W.heap.size (by simp) (fun e => by simp at e; omega)).trans h0

/-- some token with a text of at most M bytes -/
def TokDrawE (M : Nat) (B C : Nat) (a : Option Addr) (len cap : Nat) (W : World) (e : Ending) (W' : World) : Prop :=
  ∃ (k : Int) (t : ByteArray) (x : Int), t.size ≤ M ∧ e = .returned (.agg #[.int .i64 k, .string t, .int .i64 x]) ∧ Cur B C a len cap W' ∧ W.grownBy W' (some C)

set_option maxRecDepth 100000 in
set_option maxHeartbeats 4000000 in
theorem token_any (B C : Nat) (a : Option Addr) (len cap : Nat) (W : World) (H : Cur B C a len cap W) :
    Calls Tryz.prog 52 #[.pointer (some ⟨C, 0, none⟩)] W (TokDrawE 24 B C a len cap W) := by
  have hWC := H.lt
  have hg0 : TokAt (W.alloc (.cells #[.int .i64 0, .string ⟨#[]⟩, .int .i64 0] 40)) W.heap.size 0 ⟨#[]⟩ 0 := heap_alloc_new W _
  go_enter Tryz.func52, Tryz.ntmps52
  go_wp2_with fail
  refine (below_any 6 B C a len cap _ (H.alloc _) (by omega) (by omega)).mono ?_
  rintro e W1 ⟨x, hx0, hx1, rfl, hc, hg⟩
  by_cases h0 : x = 0
  · subst h0
    go_wp2_with fail
    refine (words_spec _).mono ?_
    rintro e W2 ⟨rfl, hrow, hb⟩
    have hc2 := hc.later hb
    have hg2 := grown_tr hg (grown_of_new hb (some C))
    have hlt1 := hc.lt
    go_wp2_with fail
    refine (below_any 28 B C a len cap _ hc2 (by omega) (by omega)).mono ?_
    rintro e W3 ⟨y, hy0, hy1, rfl, hc3, hg3⟩
    obtain ⟨j, rfl⟩ := Int.eq_ofNat_of_zero_le hy0
    have hj : 1 + j < 29 := by omega
    have hrow3 := hrow.keep (w' := W3) (hg3.block W1.heap.size hrow.1 (by simp; omega)) hg3.size
    obtain ⟨hcell, _⟩ := hrow3.2 (1 + j) hj
    have hj2 : 1 + (j : Int) < 29 := by omega
    have hws : (wordB (1 + j)).size ≤ 24 := by
      have := word_len (k := 1 + j) (by omega)
      show (word (1 + j)).length ≤ 24
      omega
    have hgg := grown_tr hg2 hg3
    generalize wordB (1 + j) = S at hcell hws
    have hR := tokZ_kept hg0 hgg hWC
    have z0 := frozen_of_row W3 W.heap.size 0 _ 40 hR
    have z1 := frozen_of_row W3 W.heap.size 1 _ 40 hR
    have z2 := frozen_of_row W3 W.heap.size 2 _ 40 hR
    have g0 := cell_of_row W3 W.heap.size 0 _ 40 (0, 0) hR
    have g1 := cell_of_row W3 W.heap.size 1 _ 40 (0, 0) hR
    have g2 := cell_of_row W3 W.heap.size 2 _ 40 (0, 0) hR
    have hF := ((hR.set0 1).set1 S).set2 0
    have f0 := cell_of_row _ W.heap.size 0 _ 40 (0, 0) hF
    have f1 := cell_of_row _ W.heap.size 1 _ 40 (0, 0) hF
    have f2 := cell_of_row _ W.heap.size 2 _ 40 (0, 0) hF
    have hcF := ((hc3.setNew hWC 0 (.int .i64 1)).setNew hWC 1 (.string S)).setNew hWC 2 (.int .i64 0)
    have hgF := grown_set3 (W := W) (grown_tr (grown_alloc W (.cells #[.int .i64 0, .string ⟨#[]⟩, .int .i64 0] 40) (some C)) hgg) (.int .i64 1) (.string S) (.int .i64 0)
    go_wp2_with fail
    generalize ((W3.setCell ⟨W.heap.size, 0, none⟩ (.int .i64 1)).setCell ⟨W.heap.size, 1, none⟩ (.string S)).setCell ⟨W.heap.size, 2, none⟩ (.int .i64 0) = wf at f0 f1 f2 hcF hgF ⊢
    refine bodyPost_ret (v := .agg #[.int .i64 1, .string S, .int .i64 0]) (by simp [results, Tryz.results52, go_sem, f0, f1, f2]) rfl ?_
    exact ⟨1, S, 0, hws, rfl, hcF, hgF⟩
  · have q0 : (x == 0) = false := by simpa using h0
    by_cases h1 : x = 1
    · subst h1
      go_wp2_with fail
      refine (name_any B C a len cap _ hc).mono ?_
      rintro e W3 ⟨S, hS, rfl, hc3, hg3⟩
      have hgg := grown_tr hg hg3
      have hR := tokZ_kept hg0 hgg hWC
      have z0 := frozen_of_row W3 W.heap.size 0 _ 40 hR
      have z1 := frozen_of_row W3 W.heap.size 1 _ 40 hR
      have z2 := frozen_of_row W3 W.heap.size 2 _ 40 hR
      have g0 := cell_of_row W3 W.heap.size 0 _ 40 (0, 0) hR
      have g1 := cell_of_row W3 W.heap.size 1 _ 40 (0, 0) hR
      have g2 := cell_of_row W3 W.heap.size 2 _ 40 (0, 0) hR
      have hF := ((hR.set0 2).set1 S).set2 0
      have f0 := cell_of_row _ W.heap.size 0 _ 40 (0, 0) hF
      have f1 := cell_of_row _ W.heap.size 1 _ 40 (0, 0) hF
      have f2 := cell_of_row _ W.heap.size 2 _ 40 (0, 0) hF
      have hcF := ((hc3.setNew hWC 0 (.int .i64 2)).setNew hWC 1 (.string S)).setNew hWC 2 (.int .i64 0)
      have hgF := grown_set3 (W := W) (grown_tr (grown_alloc W (.cells #[.int .i64 0, .string ⟨#[]⟩, .int .i64 0] 40) (some C)) hgg) (.int .i64 2) (.string S) (.int .i64 0)
      go_wp2_with fail
      generalize ((W3.setCell ⟨W.heap.size, 0, none⟩ (.int .i64 2)).setCell ⟨W.heap.size, 1, none⟩ (.string S)).setCell ⟨W.heap.size, 2, none⟩ (.int .i64 0) = wf at f0 f1 f2 hcF hgF ⊢
      refine bodyPost_ret (v := .agg #[.int .i64 2, .string S, .int .i64 0]) (by simp [results, Tryz.results52, go_sem, f0, f1, f2]) rfl ?_
      exact ⟨2, S, 0, hS, rfl, hcF, hgF⟩
    · have q1 : (x == 1) = false := by simpa using h1
      by_cases h2 : x = 2
      · subst h2
        go_wp2_with fail
        refine (whole_any B C a len cap _ hc).mono ?_
        rintro e W2 ⟨y, hy0, hy1, rfl, hc2, hg2⟩
        go_wp2_with fail
        refine (maxZero_any y _ hy1).mono ?_
        rintro e W2' ⟨n, hn, rfl, rfl⟩
        go_wp2_with fail
        refine (digits_spec (n : Int) _ (by omega) (by omega)).mono ?_
        rintro e W3 ⟨rfl, hb3⟩
        have hS : (⟨(itoa (n : Int)).toArray⟩ : ByteArray).size ≤ 24 := by
          show (itoa (n : Int)).length ≤ 24
          have e : itoa (n : Int) = decDigits n := by unfold itoa; rw [if_neg (by omega)]; rfl
          rw [e]
          have := dec_len 18 n (by omega)
          omega
        generalize (⟨(itoa (n : Int)).toArray⟩ : ByteArray) = S at hS ⊢
        have hc3 := hc2.later hb3
        have hgg := grown_tr (grown_tr hg hg2) (grown_of_new hb3 (some C))
        have hR := tokZ_kept hg0 hgg hWC
        have z0 := frozen_of_row W3 W.heap.size 0 _ 40 hR
        have z1 := frozen_of_row W3 W.heap.size 1 _ 40 hR
        have z2 := frozen_of_row W3 W.heap.size 2 _ 40 hR
        have g0 := cell_of_row W3 W.heap.size 0 _ 40 (0, 0) hR
        have g1 := cell_of_row W3 W.heap.size 1 _ 40 (0, 0) hR
        have g2 := cell_of_row W3 W.heap.size 2 _ 40 (0, 0) hR
        have hF := ((hR.set0 3).set1 S).set2 0
        have f0 := cell_of_row _ W.heap.size 0 _ 40 (0, 0) hF
        have f1 := cell_of_row _ W.heap.size 1 _ 40 (0, 0) hF
        have f2 := cell_of_row _ W.heap.size 2 _ 40 (0, 0) hF
        have hcF := ((hc3.setNew hWC 0 (.int .i64 3)).setNew hWC 1 (.string S)).setNew hWC 2 (.int .i64 0)
        have hgF := grown_set3 (W := W) (grown_tr (grown_alloc W (.cells #[.int .i64 0, .string ⟨#[]⟩, .int .i64 0] 40) (some C)) hgg) (.int .i64 3) (.string S) (.int .i64 0)
        go_wp2_with fail
        generalize ((W3.setCell ⟨W.heap.size, 0, none⟩ (.int .i64 3)).setCell ⟨W.heap.size, 1, none⟩ (.string S)).setCell ⟨W.heap.size, 2, none⟩ (.int .i64 0) = wf at f0 f1 f2 hcF hgF ⊢
        refine bodyPost_ret (v := .agg #[.int .i64 3, .string S, .int .i64 0]) (by simp [results, Tryz.results52, go_sem, f0, f1, f2]) rfl ?_
        exact ⟨3, S, 0, hS, rfl, hcF, hgF⟩
      · have q2 : (x == 2) = false := by simpa using h2
        by_cases h3 : x = 3
        · subst h3
          go_wp2_with fail
          have hltp := hc.lt
          refine (pick_any 24 W1.heap.size 8 B C a len cap _ (hc.alloc _) (by omega) (by omega) (by simp) (by omega) ?_).mono ?_
          · intro j hj
            rw [cell_of_row _ W1.heap.size j _ 9 (0, 0) (heap_alloc_new W1 _)]
            rcases (show j = 0 ∨ j = 1 ∨ j = 2 ∨ j = 3 ∨ j = 4 ∨ j = 5 ∨ j = 6 ∨ j = 7 by omega) with rfl | rfl | rfl | rfl | rfl | rfl | rfl | rfl <;> exact ⟨_, by decide, rfl⟩
          · rintro e W3 ⟨S, hS, rfl, hc3, hg3⟩
            have hgg := grown_tr hg (grown_tr (grown_alloc W1 _ (some C)) hg3)
            have hR := tokZ_kept hg0 hgg hWC
            have z0 := frozen_of_row W3 W.heap.size 0 _ 40 hR
            have z1 := frozen_of_row W3 W.heap.size 1 _ 40 hR
            have z2 := frozen_of_row W3 W.heap.size 2 _ 40 hR
            have g0 := cell_of_row W3 W.heap.size 0 _ 40 (0, 0) hR
            have g1 := cell_of_row W3 W.heap.size 1 _ 40 (0, 0) hR
            have g2 := cell_of_row W3 W.heap.size 2 _ 40 (0, 0) hR
            have hF := ((hR.set0 4).set1 S).set2 0
            have f0 := cell_of_row _ W.heap.size 0 _ 40 (0, 0) hF
            have f1 := cell_of_row _ W.heap.size 1 _ 40 (0, 0) hF
            have f2 := cell_of_row _ W.heap.size 2 _ 40 (0, 0) hF
            have hcF := ((hc3.setNew hWC 0 (.int .i64 4)).setNew hWC 1 (.string S)).setNew hWC 2 (.int .i64 0)
            have hgF := grown_set3 (W := W) (grown_tr (grown_alloc W (.cells #[.int .i64 0, .string ⟨#[]⟩, .int .i64 0] 40) (some C)) hgg) (.int .i64 4) (.string S) (.int .i64 0)
            go_wp2_with fail
            generalize ((W3.setCell ⟨W.heap.size, 0, none⟩ (.int .i64 4)).setCell ⟨W.heap.size, 1, none⟩ (.string S)).setCell ⟨W.heap.size, 2, none⟩ (.int .i64 0) = wf at f0 f1 f2 hcF hgF ⊢
            refine bodyPost_ret (v := .agg #[.int .i64 4, .string S, .int .i64 0]) (by simp [results, Tryz.results52, go_sem, f0, f1, f2]) rfl ?_
            exact ⟨4, S, 0, hS, rfl, hcF, hgF⟩
        · have q3 : (x == 3) = false := by simpa using h3
          clear h0 h1 h2 h3
          go_wp2_with fail
          refine (sign_any B C a len cap _ hc).mono ?_
          rintro e W3 ⟨S, hS, rfl, hc3, hg3⟩
          have hgg := grown_tr hg hg3
          have hR := tokZ_kept hg0 hgg hWC
          have z0 := frozen_of_row W3 W.heap.size 0 _ 40 hR
          have z1 := frozen_of_row W3 W.heap.size 1 _ 40 hR
          have z2 := frozen_of_row W3 W.heap.size 2 _ 40 hR
          have g0 := cell_of_row W3 W.heap.size 0 _ 40 (0, 0) hR
          have g1 := cell_of_row W3 W.heap.size 1 _ 40 (0, 0) hR
          have g2 := cell_of_row W3 W.heap.size 2 _ 40 (0, 0) hR
          have hF := ((hR.set0 5).set1 S).set2 0
          have f0 := cell_of_row _ W.heap.size 0 _ 40 (0, 0) hF
          have f1 := cell_of_row _ W.heap.size 1 _ 40 (0, 0) hF
          have f2 := cell_of_row _ W.heap.size 2 _ 40 (0, 0) hF
          have hcF := ((hc3.setNew hWC 0 (.int .i64 5)).setNew hWC 1 (.string S)).setNew hWC 2 (.int .i64 0)
          have hgF := grown_set3 (W := W) (grown_tr (grown_alloc W (.cells #[.int .i64 0, .string ⟨#[]⟩, .int .i64 0] 40) (some C)) hgg) (.int .i64 5) (.string S) (.int .i64 0)
          go_wp2_with fail
          generalize ((W3.setCell ⟨W.heap.size, 0, none⟩ (.int .i64 5)).setCell ⟨W.heap.size, 1, none⟩ (.string S)).setCell ⟨W.heap.size, 2, none⟩ (.int .i64 0) = wf at f0 f1 f2 hcF hgF ⊢
          refine bodyPost_ret (v := .agg #[.int .i64 5, .string S, .int .i64 0]) (by simp [results, Tryz.results52, go_sem, f0, f1, f2]) rfl ?_
          exact ⟨5, S, 0, hS, rfl, hcF, hgF⟩
end Go.Proofs.YtcadoplfgclbjaaGreatDoor

/- The contract of the function that draws a text for the lexer. -/
namespace Go.Proofs.YtcadoplfgclbjaaGreatDoor
open Go.RowKit

theorem nameL_len (l : List UInt8) : (nameL l).length ≤ 2 * l.length + 2 := by
  unfold nameL
  split
  · split
    · omega
    · have := dbl_len 34 l
      unfold quoted; simp; omega
  · simp
theorem tokText_len (k : Int) (l : List UInt8) : (tokTextL k l).length ≤ 2 * l.length + 2 := by
  unfold tokTextL
  split
  · split
    · exact nameL_len l
    · split
      · have := dbl_len 39 l
        unfold quoted; simp; omega
      · omega
  · simp

def strLen : Value → Nat
  | .string s => s.size
  | _ => 0

set_option maxRecDepth 100000 in
set_option maxHeartbeats 4000000 in
theorem source_any (B C : Nat) (a : Option Addr) (len cap : Nat) (W : World) (H : Cur B C a len cap W) :
    Calls Tryz.prog 24 #[.pointer (some ⟨C, 0, none⟩)] W (TextE 4000 B C a len cap W) := by
  go_enter Tryz.func24, Tryz.ntmps24
  go_wp2_with fail
  refine (below_any 8 B C a len cap _ H (by omega) (by omega)).mono ?_
  rintro e W0 ⟨x, hx0, hx1, rfl, hc, hg⟩
  obtain ⟨n, rfl⟩ := Int.eq_ofNat_of_zero_le hx0
  go_wp2_with fail
  go_loopw [3, 5] (fun v i wr => ∃ (k : Nat) (S : ByteArray), k ≤ n ∧ i = .int .i64 (k : Int) ∧ v = .string S ∧ S.size ≤ 80 * k ∧ Cur B C a len cap wr ∧ W.grownBy wr (some C)) (fun _ i _ => n - (intOf i).toNat)
  case atStart => exact ⟨0, ⟨#[]⟩, by omega, rfl, rfl, by decide, hc, hg⟩
  case round =>
    obtain ⟨k, S, hk, rfl, rfl, hS, hck, hgk⟩ := hrel
    clear hc hg
    by_cases hlt : k < n
    · have hlt2 : (k : Int) < (n : Int) := by omega
      go_wp2_with fail
      have hltp := hck.lt
      refine (pick_any 24 wr.heap.size 8 B C a len cap _ (hck.alloc _) (by omega) (by omega) (by simp) (by omega) ?_).mono ?_
      · intro j hj
        rw [cell_of_row _ wr.heap.size j _ 9 (0, 0) (heap_alloc_new wr _)]
        rcases (show j = 0 ∨ j = 1 ∨ j = 2 ∨ j = 3 ∨ j = 4 ∨ j = 5 ∨ j = 6 ∨ j = 7 by omega) with rfl | rfl | rfl | rfl | rfl | rfl | rfl | rfl <;> exact ⟨_, by decide, rfl⟩
      rintro e W1 ⟨P, hP, rfl, hcp, hgp⟩
      have hg1 := grown_tr hgk (grown_tr (grown_alloc wr _ (some C)) hgp)
      have hsz1 : S.size + P.size ≤ 1000000 := by omega
      have hszE : (S ++ P).size = S.size + P.size := ByteArray.size_append
      go_wp2_with fail
      obtain ⟨S1, hS1⟩ : ∃ S1, S ++ P = S1 := ⟨_, rfl⟩
      rw [hS1] at hszE
      rw [hS1]
      refine (token_any B C a len cap _ hcp).mono ?_
      rintro e W2 ⟨kk, tt, aa, htt, rfl, hc2, hg2⟩
      go_wp2_with fail
      refine (tokenText_spec kk tt aa _ (by omega)).mono ?_
      rintro e W3 ⟨rfl, hb3⟩
      have hc3 := hc2.later hb3
      have hg3 := grown_tr (grown_tr hg1 hg2) (grown_of_new hb3 (some C))
      have hTz : (⟨(tokTextL kk tt.data.toList).toArray⟩ : ByteArray).size ≤ 50 := by
        show (tokTextL kk tt.data.toList).length ≤ 50
        have h1 := tokText_len kk tt.data.toList
        have h2 : tt.data.toList.length = tt.size := rfl
        omega
      generalize (⟨(tokTextL kk tt.data.toList).toArray⟩ : ByteArray) = T at hTz ⊢
      have hsz2 : S1.size + T.size ≤ 1000000 := by omega
      have hsE2 : (S1 ++ T).size = S1.size + T.size := ByteArray.size_append
      go_wp2_with fail
      go_roundw
      case rel => exact ⟨k + 1, S1 ++ T, by omega, by go_num, rfl, by omega, hc3, hg3⟩
      case measure => simp [intOf]; omega
    · have hS7 : S.size ≤ 600 := by omega
      clear hS
      go_wp2_with fail
      refine (below_any 10 B C a len cap _ hck (by omega) (by omega)).mono ?_
      rintro e W1 ⟨x, hx0, hx1, rfl, hc1, hg1⟩
      have hgg1 := grown_tr hgk hg1
      clear hck hgk hg1
      by_cases h0 : x = 0
      case' pos =>
        subst h0
        go_wp2_with fail
        have hltp := hc1.lt
        refine (pick_any 24 W1.heap.size 12 B C a len cap _ (hc1.alloc _) (by omega) (by omega) (by simp) (by omega) ?_).mono ?_
        · intro j hj
          rw [cell_of_row _ W1.heap.size j _ 9 (0, 0) (heap_alloc_new W1 _)]
          rcases (show j = 0 ∨ j = 1 ∨ j = 2 ∨ j = 3 ∨ j = 4 ∨ j = 5 ∨ j = 6 ∨ j = 7 ∨ j = 8 ∨ j = 9 ∨ j = 10 ∨ j = 11 by omega) with rfl | rfl | rfl | rfl | rfl | rfl | rfl | rfl | rfl | rfl | rfl | rfl <;> exact ⟨_, by decide, rfl⟩
        rintro e Wt ⟨P, hP, rfl, hcp, hgp⟩
        have hct := hcp
        have hgt := grown_tr hgg1 (grown_tr (grown_alloc W1 _ (some C)) hgp)
        have hsz1 : S.size + P.size ≤ 1000000 := by omega
        have hszE : (S ++ P).size = S.size + P.size := ByteArray.size_append
        go_wp2_with fail
        obtain ⟨U, hU⟩ : ∃ U, S ++ P = U := ⟨_, rfl⟩
        rw [hU] at hszE
        have hUz : U.size ≤ 700 := by omega
        simp only [hU]
        clear hU hszE hsz1 hcp hgp hP
        refine (once_any 60 B C a len cap _ hct (by omega) (by omega)).mono ?_
        rintro e W5 ⟨b, rfl, hc5, hg5⟩
        have hgg5 := grown_tr hgt hg5
        cases b
        · go_wp2_with fail
          go_ret
          exact ⟨U, by omega, rfl, hc5, hgg5⟩
        · go_wp2_with fail
          go_loopw [3] (fun v wr => ∃ V : ByteArray, v = .string V ∧ V.size ≤ 2020 ∧ wr = W5) (fun v _ => 3000 - strLen v)
          case atStart => exact ⟨U, rfl, by omega, rfl⟩
          case round =>
            obtain ⟨V, rfl, hV, rfl⟩ := hrel
            by_cases hV1 : V.size < 2001
            · have hV2 : (V.size : Int) < 2001 := by omega
              have hVs : V.size + 20 ≤ 1000000 := by omega
              go_wp2_with fail
              go_roundw
              case rel => exact ⟨_, rfl, by rw [ByteArray.size_append]; show V.size + 20 ≤ 2020; omega, trivial⟩
              case measure =>
                show 3000 - (V ++ _ : ByteArray).size < 3000 - V.size
                rw [ByteArray.size_append]
                show 3000 - (V.size + 20) < 3000 - V.size
                omega
            · have dV : decide ((V.size : Int) < 2001) = false := by simp; omega
              go_wp2_with fail
              refine (below_any 2 B C a len cap _ hc5 (by omega) (by omega)).mono ?_
              rintro e W6 ⟨z, hz0, hz1, rfl, hc6, hg6⟩
              have hgg6 := grown_tr hgg5 hg6
              rcases (show z = 0 ∨ z = 1 by omega) with rfl | rfl
              · have hV3 : (2000 : Int) ≤ (V.size : Int) := by omega
                go_wp2_with fail
                go_ret
                exact ⟨_, by simp; omega, rfl, hc6, hgg6⟩
              · have hV3 : (2001 : Int) ≤ (V.size : Int) := by omega
                go_wp2_with fail
                go_ret
                exact ⟨_, by simp; omega, rfl, hc6, hgg6⟩
      case' neg =>
        have q0 : (x == 0) = false := by simpa using h0
        by_cases h1 : x = 1
        · subst h1
          go_wp2_with fail
          refine (below_any ((S.size : Int) + 1) B C a len cap _ hc1 (by omega) (by omega)).mono ?_
          rintro e W3 ⟨y, hy0, hy1, rfl, hc3, hg3⟩
          obtain ⟨q, rfl⟩ := Int.eq_ofNat_of_zero_le hy0
          have hq : q ≤ S.size := by omega
          have hqi : (q : Int) ≤ (S.size : Int) := by omega
          have hgg3 := grown_tr hgg1 hg3
          have hA0 : (S.extract 0 q).size ≤ 600 := by simp; omega
          have hZ0 : (S.extract q S.size).size ≤ 600 := by simp; omega
          obtain ⟨A, hA⟩ : ∃ A, S.extract 0 q = A := ⟨_, rfl⟩
          obtain ⟨Z, hZ⟩ : ∃ Z, S.extract q S.size = Z := ⟨_, rfl⟩
          rw [hA] at hA0
          rw [hZ] at hZ0
          have hE : (S.extract 0 q).size + (S.extract q S.size).size ≤ 600 := by simp; omega
          rw [hA, hZ] at hE
          have hc3d : Cur B C a len cap W3.drew := hc3
          go_wp2_with fail
          first | go_region_with (go_at_call 53; refine (bytes_any 1 B C a len cap _ hc3d (by omega)).mono ?_; rintro e W4 ⟨l, g, c, hl, rfl, hown, hc4, hg4⟩; have hcv := OwnB.string (src := 22) (dst := 9) hown hl.symm Tryz.underlying22 Tryz.underlying5 Tryz.underlying9; have hXz : (⟨l.toArray⟩ : ByteArray).size = 1 := hl; have hAX : (A ++ (⟨l.toArray⟩ : ByteArray)).size = A.size + 1 := by rw [ByteArray.size_append, hXz]) | fail
          all_goals
            have hct := hc4
            have hgt := grown_tr hgg3 (show W3.grownBy W4 (some C) from ⟨hg4.os, hg4.tape, hg4.output, hg4.size, hg4.block⟩)
            have hUz : (A ++ (⟨l.toArray⟩ : ByteArray) ++ Z).size ≤ 700 := by rw [ByteArray.size_append, hAX]; omega
            clear hAX hXz hown hcv
            go_wp2_with fail
            generalize (A ++ (⟨l.toArray⟩ : ByteArray) ++ Z) = U at hUz ⊢
            refine (once_any 60 B C a len cap _ hct (by omega) (by omega)).mono ?_
            rintro e W5 ⟨b, rfl, hc5, hg5⟩
            have hgg5 := grown_tr hgt hg5
            cases b
            · go_wp2_with fail
              go_ret
              exact ⟨U, by omega, rfl, hc5, hgg5⟩
            · go_wp2_with fail
              go_loopw [3] (fun v wr => ∃ V : ByteArray, v = .string V ∧ V.size ≤ 2020 ∧ wr = W5) (fun v _ => 3000 - strLen v)
              case atStart => exact ⟨U, rfl, by omega, rfl⟩
              case round =>
                obtain ⟨V, rfl, hV, rfl⟩ := hrel
                by_cases hV1 : V.size < 2001
                · have hV2 : (V.size : Int) < 2001 := by omega
                  have hVs : V.size + 20 ≤ 1000000 := by omega
                  go_wp2_with fail
                  go_roundw
                  case rel => exact ⟨_, rfl, by rw [ByteArray.size_append]; show V.size + 20 ≤ 2020; omega, trivial⟩
                  case measure =>
                    show 3000 - (V ++ _ : ByteArray).size < 3000 - V.size
                    rw [ByteArray.size_append]
                    show 3000 - (V.size + 20) < 3000 - V.size
                    omega
                · have dV : decide ((V.size : Int) < 2001) = false := by simp; omega
                  go_wp2_with fail
                  refine (below_any 2 B C a len cap _ hc5 (by omega) (by omega)).mono ?_
                  rintro e W6 ⟨z, hz0, hz1, rfl, hc6, hg6⟩
                  have hgg6 := grown_tr hgg5 hg6
                  rcases (show z = 0 ∨ z = 1 by omega) with rfl | rfl
                  · have hV3 : (2000 : Int) ≤ (V.size : Int) := by omega
                    go_wp2_with fail
                    go_ret
                    exact ⟨_, by simp; omega, rfl, hc6, hgg6⟩
                  · have hV3 : (2001 : Int) ≤ (V.size : Int) := by omega
                    go_wp2_with fail
                    go_ret
                    exact ⟨_, by simp; omega, rfl, hc6, hgg6⟩
        · have q1 : (x == 1) = false := by simpa using h1
          by_cases h2 : x = 2
          · subst h2
            go_wp2_with fail
            refine (fold_spec S _ (by omega)).mono ?_
            rintro e Wt ⟨rfl, hbt⟩
            have hct := hc1.later hbt
            have hgt := grown_tr hgg1 (grown_of_new hbt (some C))
            have hUz : (⟨(upL S.data.toList).toArray⟩ : ByteArray).size ≤ 700 := by
              show (upL S.data.toList).length ≤ 700
              rw [upL_len]
              show S.size ≤ 700
              omega
            generalize (⟨(upL S.data.toList).toArray⟩ : ByteArray) = U at hUz ⊢
            go_wp2_with fail
            refine (once_any 60 B C a len cap _ hct (by omega) (by omega)).mono ?_
            rintro e W5 ⟨b, rfl, hc5, hg5⟩
            have hgg5 := grown_tr hgt hg5
            cases b
            · go_wp2_with fail
              go_ret
              exact ⟨U, by omega, rfl, hc5, hgg5⟩
            · go_wp2_with fail
              go_loopw [3] (fun v wr => ∃ V : ByteArray, v = .string V ∧ V.size ≤ 2020 ∧ wr = W5) (fun v _ => 3000 - strLen v)
              case atStart => exact ⟨U, rfl, by omega, rfl⟩
              case round =>
                obtain ⟨V, rfl, hV, rfl⟩ := hrel
                by_cases hV1 : V.size < 2001
                · have hV2 : (V.size : Int) < 2001 := by omega
                  have hVs : V.size + 20 ≤ 1000000 := by omega
                  go_wp2_with fail
                  go_roundw
                  case rel => exact ⟨_, rfl, by rw [ByteArray.size_append]; show V.size + 20 ≤ 2020; omega, trivial⟩
                  case measure =>
                    show 3000 - (V ++ _ : ByteArray).size < 3000 - V.size
                    rw [ByteArray.size_append]
                    show 3000 - (V.size + 20) < 3000 - V.size
                    omega
                · have dV : decide ((V.size : Int) < 2001) = false := by simp; omega
                  go_wp2_with fail
                  refine (below_any 2 B C a len cap _ hc5 (by omega) (by omega)).mono ?_
                  rintro e W6 ⟨z, hz0, hz1, rfl, hc6, hg6⟩
                  have hgg6 := grown_tr hgg5 hg6
                  rcases (show z = 0 ∨ z = 1 by omega) with rfl | rfl
                  · have hV3 : (2000 : Int) ≤ (V.size : Int) := by omega
                    go_wp2_with fail
                    go_ret
                    exact ⟨_, by simp; omega, rfl, hc6, hgg6⟩
                  · have hV3 : (2001 : Int) ≤ (V.size : Int) := by omega
                    go_wp2_with fail
                    go_ret
                    exact ⟨_, by simp; omega, rfl, hc6, hgg6⟩
          · have q2 : (x == 2) = false := by simpa using h2
            clear h0 h1 h2
            have hct := hc1
            have hgt := hgg1
            have hUz : S.size ≤ 700 := by omega
            go_wp2_with fail
            refine (once_any 60 B C a len cap _ hct (by omega) (by omega)).mono ?_
            rintro e W5 ⟨b, rfl, hc5, hg5⟩
            have hgg5 := grown_tr hgt hg5
            cases b
            · go_wp2_with fail
              go_ret
              exact ⟨S, by omega, rfl, hc5, hgg5⟩
            · go_wp2_with fail
              go_loopw [3] (fun v wr => ∃ V : ByteArray, v = .string V ∧ V.size ≤ 2020 ∧ wr = W5) (fun v _ => 3000 - strLen v)
              case atStart => exact ⟨S, rfl, by omega, rfl⟩
              case round =>
                obtain ⟨V, rfl, hV, rfl⟩ := hrel
                by_cases hV1 : V.size < 2001
                · have hV2 : (V.size : Int) < 2001 := by omega
                  have hVs : V.size + 20 ≤ 1000000 := by omega
                  go_wp2_with fail
                  go_roundw
                  case rel => exact ⟨_, rfl, by rw [ByteArray.size_append]; show V.size + 20 ≤ 2020; omega, trivial⟩
                  case measure =>
                    show 3000 - (V ++ _ : ByteArray).size < 3000 - V.size
                    rw [ByteArray.size_append]
                    show 3000 - (V.size + 20) < 3000 - V.size
                    omega
                · have dV : decide ((V.size : Int) < 2001) = false := by simp; omega
                  go_wp2_with fail
                  refine (below_any 2 B C a len cap _ hc5 (by omega) (by omega)).mono ?_
                  rintro e W6 ⟨z, hz0, hz1, rfl, hc6, hg6⟩
                  have hgg6 := grown_tr hgg5 hg6
                  rcases (show z = 0 ∨ z = 1 by omega) with rfl | rfl
                  · have hV3 : (2000 : Int) ≤ (V.size : Int) := by omega
                    go_wp2_with fail
                    go_ret
                    exact ⟨_, by simp; omega, rfl, hc6, hgg6⟩
                  · have hV3 : (2001 : Int) ≤ (V.size : Int) := by omega
                    go_wp2_with fail
                    go_ret
                    exact ⟨_, by simp; omega, rfl, hc6, hgg6⟩
end Go.Proofs.YtcadoplfgclbjaaGreatDoor
