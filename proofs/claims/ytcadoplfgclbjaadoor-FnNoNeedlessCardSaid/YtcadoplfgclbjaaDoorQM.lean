/- Joined texts: DrawName DrawAny DrawTok DrawSrc. -/
import Derived.Test.YtcadoplfgclbjaaDoorQL
import Derived.Test.YtcadoplfgclbjaaDoorQB
import Derived.Test.YtcadoplfgclbjaaDoorQF
import Derived.Test.YtcadoplfgclbjaaDoorQC
import Derived.Test.YtcadoplfgclbjaaDoorQG
import Derived.Deep.RegionWith
/- The contract of the function that draws a name. -/
namespace Go.Proofs.YtcadoplfgclbjaaDoor
open Go.RowKit

set_option maxRecDepth 100000 in
set_option maxHeartbeats 800000 in
theorem name_any (B C : Nat) (a : Option Addr) (len cap : Nat) (W : World) (H : Cur B C a len cap W) :
    Calls Tryd.prog 77 #[.pointer (some ⟨C, 0, none⟩)] W (TextE 24 B C a len cap W) := by
  go_enter Tryd.func77, Tryd.ntmps77
  go_wp2_with fail
  refine (once_any 6 B C a len cap _ H (by omega) (by omega)).mono ?_
  rintro e W1 ⟨x, rfl, hc, hg⟩
  have hlt := hc.lt
  cases x
  · go_wp2_with fail
    refine (pick_any 24 W1.heap.size 10 B C a len cap _ (hc.alloc _) (by omega) (by omega) (by simp) (by omega) ?_).mono ?_
    · intro j hj
      rw [cell_of_row _ W1.heap.size j _ 9 (0, 0) (heap_alloc_new W1 _)]
      rcases (show j = 0 ∨ j = 1 ∨ j = 2 ∨ j = 3 ∨ j = 4 ∨ j = 5 ∨ j = 6 ∨ j = 7 ∨ j = 8 ∨ j = 9 by omega) with rfl | rfl | rfl | rfl | rfl | rfl | rfl | rfl | rfl | rfl <;> exact ⟨_, by decide, rfl⟩
    · rintro e W2 ⟨S, hS, rfl, hc2, hg2⟩
      have hg3 := grown_tr hg (grown_tr (grown_alloc W1 _ (some C)) hg2)
      go_wp2_with fail
      go_ret
      exact ⟨S, hS, rfl, hc2, hg3⟩
  · go_wp2_with fail
    refine (pick_any 24 W1.heap.size 10 B C a len cap _ (hc.alloc _) (by omega) (by omega) (by simp) (by omega) ?_).mono ?_
    · intro j hj
      rw [cell_of_row _ W1.heap.size j _ 9 (0, 0) (heap_alloc_new W1 _)]
      rcases (show j = 0 ∨ j = 1 ∨ j = 2 ∨ j = 3 ∨ j = 4 ∨ j = 5 ∨ j = 6 ∨ j = 7 ∨ j = 8 ∨ j = 9 by omega) with rfl | rfl | rfl | rfl | rfl | rfl | rfl | rfl | rfl | rfl <;> exact ⟨_, by decide, rfl⟩
    · rintro e W2 ⟨S, hS, rfl, hc2, hg2⟩
      have hg3 := grown_tr hg (grown_tr (grown_alloc W1 _ (some C)) hg2)
      go_wp2_with fail
      go_ret
      exact ⟨S, hS, rfl, hc2, hg3⟩
end Go.Proofs.YtcadoplfgclbjaaDoor

/- The contract of the function that draws any string as a name. -/
namespace Go.Proofs.YtcadoplfgclbjaaDoor
open Go.RowKit

end Go.Proofs.YtcadoplfgclbjaaDoor

/- Contracts of the functions that draw tokens. -/
namespace Go.Proofs.YtcadoplfgclbjaaDoor
open Go.RowKit
open Go.Lib (decDigits itoa)

theorem maxZero_any (x : Int) (w : World) (h : x ≤ 9223372036854775807) : Calls Tryd.prog 78 #[.int .i64 0, .int .i64 x] w fun e w' => ∃ n : Nat, n ≤ 9223372036854775807 ∧ e = .returned (.int .i64 (n : Int)) ∧ w = w' := by
  by_cases h0 : x < 0
  · have d : decide (x < 0) = true := by simpa using h0
    go_enter Tryd.func78, Tryd.ntmps78
    go_wp2
    go_ret
    exact ⟨0, by omega, rfl, rfl⟩
  · have d : decide (x < 0) = false := by simpa using h0
    obtain ⟨n, rfl⟩ := Int.eq_ofNat_of_zero_le (show 0 ≤ x by omega)
    go_enter Tryd.func78, Tryd.ntmps78
    go_wp2
    go_ret
    exact ⟨n, by omega, rfl, rfl⟩

set_option maxRecDepth 100000 in
set_option maxHeartbeats 800000 in
theorem sign_any (B C : Nat) (a : Option Addr) (len cap : Nat) (W : World) (H : Cur B C a len cap W) :
    Calls Tryd.prog 26 #[.pointer (some ⟨C, 0, none⟩)] W (TextE 24 B C a len cap W) := by
  have hlt := H.lt
  go_enter Tryd.func26, Tryd.ntmps26
  go_wp2_with fail
  refine (pick_any 24 W.heap.size 16 B C a len cap _ (H.alloc _) (by omega) (by omega) (by simp) (by omega) ?_).mono ?_
  · intro j hj
    rw [cell_of_row _ W.heap.size j _ 9 (0, 0) (heap_alloc_new W _)]
    rcases (show j = 0 ∨ j = 1 ∨ j = 2 ∨ j = 3 ∨ j = 4 ∨ j = 5 ∨ j = 6 ∨ j = 7 ∨ j = 8 ∨ j = 9 ∨ j = 10 ∨ j = 11 ∨ j = 12 ∨ j = 13 ∨ j = 14 ∨ j = 15 by omega) with rfl | rfl | rfl | rfl | rfl | rfl | rfl | rfl | rfl | rfl | rfl | rfl | rfl | rfl | rfl | rfl <;> exact ⟨_, by decide, rfl⟩
  · rintro e W2 ⟨S, hS, rfl, hc2, hg2⟩
    have hg3 := grown_tr (grown_alloc W _ (some C)) hg2
    go_wp2_with fail
    go_ret
    exact ⟨S, hS, rfl, hc2, hg3⟩

/-- a store into a block that is new since W keeps the cursor -/
theorem Cur.setNew {B C R : Nat} {a : Option Addr} {len cap : Nat} {W : World} (H : Cur B C a len cap W) (hR : C < R) (o : Nat) (v : Value) : Cur B C a len cap (W.setCell ⟨R, o, none⟩ v) := by
  obtain ⟨h1, ⟨i, h, hi, hc⟩, h3, h4⟩ := H
  refine ⟨h1, ⟨i, h, hi, (heap_setCell_other W ⟨R, o, none⟩ C v (by show C ≠ R; omega)).trans hc⟩, h3, fun j hj => ?_⟩
  obtain ⟨b, off, n, e1, e2, e3, e4, e5⟩ := h4 j hj
  exact ⟨b, off, n, e1, e2, e3, e4, (World.cell?_of_block (w := W) (a := ⟨b, off + j, none⟩) (heap_setCell_other W ⟨R, o, none⟩ b v (by show b ≠ R; omega))).trans e5⟩
theorem grown_set3 {W W' : World} {C : Nat} (h : W.grownBy W' (some C)) (x y z : Value) :
    W.grownBy (((W'.setCell ⟨W.heap.size, 0, none⟩ x).setCell ⟨W.heap.size, 1, none⟩ y).setCell ⟨W.heap.size, 2, none⟩ z) (some C) := by
  have one : ∀ {X : World} (_ : W.grownBy X (some C)) (o : Nat) (v : Value), W.grownBy (X.setCell ⟨W.heap.size, o, none⟩ v) (some C) := fun {X} hX o v =>
    ⟨hX.os, hX.tape, hX.output, by simpa using hX.size, fun k hk hr => (heap_setCell_other X ⟨W.heap.size, o, none⟩ k v (by show k ≠ W.heap.size; omega)).trans (hX.block k hk hr)⟩
  exact one (one (one h 0 x) 1 y) 2 z
/-- the zero token of the result is still there -/
theorem tokZ_kept {W W' : World} {C : Nat} (h0 : TokAt (W.alloc (.cells #[.int .i64 0, .string ⟨#[]⟩, .int .i64 0] 25)) W.heap.size 0 ⟨#[]⟩ 0) (h : (W.alloc (.cells #[.int .i64 0, .string ⟨#[]⟩, .int .i64 0] 25)).grownBy W' (some C)) (hC : C < W.heap.size) : TokAt W' W.heap.size 0 ⟨#[]⟩ 0 :=
  (h.block W.heap.size (by simp) (fun e => by simp at e; omega)).trans h0

/-- some token with a text of at most M bytes -/
def TokDrawE (M : Nat) (B C : Nat) (a : Option Addr) (len cap : Nat) (W : World) (e : Ending) (W' : World) : Prop :=
  ∃ (k : Int) (t : ByteArray) (x : Int), t.size ≤ M ∧ e = .returned (.agg #[.int .i64 k, .string t, .int .i64 x]) ∧ Cur B C a len cap W' ∧ W.grownBy W' (some C)

set_option maxRecDepth 100000 in
set_option maxHeartbeats 4000000 in
theorem token_any (B C : Nat) (a : Option Addr) (len cap : Nat) (W : World) (H : Cur B C a len cap W) :
    Calls Tryd.prog 50 #[.pointer (some ⟨C, 0, none⟩)] W (TokDrawE 24 B C a len cap W) := by
  have hWC := H.lt
  have hg0 : TokAt (W.alloc (.cells #[.int .i64 0, .string ⟨#[]⟩, .int .i64 0] 25)) W.heap.size 0 ⟨#[]⟩ 0 := heap_alloc_new W _
  go_enter Tryd.func50, Tryd.ntmps50
  go_wp2_with fail
  refine (below_any 6 B C a len cap _ (H.alloc _) (by omega) (by omega)).mono ?_
  rintro e W1 ⟨x, hx0, hx1, rfl, hc, hg⟩
  by_cases h0 : x = 0
  · subst h0
    go_wp2_with fail
    refine (words_spec _).mono ?_
    rintro e W2 ⟨rfl, hrow, hb⟩
    have hc2 := hc.later hb
    have hg2 := grown_tr hg (grown_of_new hb (some C))
    have hlt1 := hc.lt
    go_wp2_with fail
    refine (below_any 28 B C a len cap _ hc2 (by omega) (by omega)).mono ?_
    rintro e W3 ⟨y, hy0, hy1, rfl, hc3, hg3⟩
    obtain ⟨j, rfl⟩ := Int.eq_ofNat_of_zero_le hy0
    have hj : 1 + j < 29 := by omega
    have hrow3 := hrow.keep (w' := W3) (hg3.block W1.heap.size hrow.1 (by simp; omega)) hg3.size
    obtain ⟨hcell, _⟩ := hrow3.2 (1 + j) hj
    have hj2 : 1 + (j : Int) < 29 := by omega
    have hws : (wordB (1 + j)).size ≤ 24 := by
      have := word_len (k := 1 + j) (by omega)
      show (word (1 + j)).length ≤ 24
      omega
    have hgg := grown_tr hg2 hg3
    generalize wordB (1 + j) = S at hcell hws
    have hR := tokZ_kept hg0 hgg hWC
    have z0 := frozen_of_row W3 W.heap.size 0 _ 25 hR
    have z1 := frozen_of_row W3 W.heap.size 1 _ 25 hR
    have z2 := frozen_of_row W3 W.heap.size 2 _ 25 hR
    have g0 := cell_of_row W3 W.heap.size 0 _ 25 (0, 0) hR
    have g1 := cell_of_row W3 W.heap.size 1 _ 25 (0, 0) hR
    have g2 := cell_of_row W3 W.heap.size 2 _ 25 (0, 0) hR
    have hF := ((hR.set0 1).set1 S).set2 0
    have f0 := cell_of_row _ W.heap.size 0 _ 25 (0, 0) hF
    have f1 := cell_of_row _ W.heap.size 1 _ 25 (0, 0) hF
    have f2 := cell_of_row _ W.heap.size 2 _ 25 (0, 0) hF
    have hcF := ((hc3.setNew hWC 0 (.int .i64 1)).setNew hWC 1 (.string S)).setNew hWC 2 (.int .i64 0)
    have hgF := grown_set3 (W := W) (grown_tr (grown_alloc W (.cells #[.int .i64 0, .string ⟨#[]⟩, .int .i64 0] 25) (some C)) hgg) (.int .i64 1) (.string S) (.int .i64 0)
    go_wp2_with fail
    generalize ((W3.setCell ⟨W.heap.size, 0, none⟩ (.int .i64 1)).setCell ⟨W.heap.size, 1, none⟩ (.string S)).setCell ⟨W.heap.size, 2, none⟩ (.int .i64 0) = wf at f0 f1 f2 hcF hgF ⊢
    refine bodyPost_ret (v := .agg #[.int .i64 1, .string S, .int .i64 0]) (by simp [results, Tryd.results50, go_sem, f0, f1, f2]) rfl ?_
    exact ⟨1, S, 0, hws, rfl, hcF, hgF⟩
  · have q0 : (x == 0) = false := by simpa using h0
    by_cases h1 : x = 1
    · subst h1
      go_wp2_with fail
      refine (name_any B C a len cap _ hc).mono ?_
      rintro e W3 ⟨S, hS, rfl, hc3, hg3⟩
      have hgg := grown_tr hg hg3
      have hR := tokZ_kept hg0 hgg hWC
      have z0 := frozen_of_row W3 W.heap.size 0 _ 25 hR
      have z1 := frozen_of_row W3 W.heap.size 1 _ 25 hR
      have z2 := frozen_of_row W3 W.heap.size 2 _ 25 hR
      have g0 := cell_of_row W3 W.heap.size 0 _ 25 (0, 0) hR
      have g1 := cell_of_row W3 W.heap.size 1 _ 25 (0, 0) hR
      have g2 := cell_of_row W3 W.heap.size 2 _ 25 (0, 0) hR
      have hF := ((hR.set0 2).set1 S).set2 0
      have f0 := cell_of_row _ W.heap.size 0 _ 25 (0, 0) hF
      have f1 := cell_of_row _ W.heap.size 1 _ 25 (0, 0) hF
      have f2 := cell_of_row _ W.heap.size 2 _ 25 (0, 0) hF
      have hcF := ((hc3.setNew hWC 0 (.int .i64 2)).setNew hWC 1 (.string S)).setNew hWC 2 (.int .i64 0)
      have hgF := grown_set3 (W := W) (grown_tr (grown_alloc W (.cells #[.int .i64 0, .string ⟨#[]⟩, .int .i64 0] 25) (some C)) hgg) (.int .i64 2) (.string S) (.int .i64 0)
      go_wp2_with fail
      generalize ((W3.setCell ⟨W.heap.size, 0, none⟩ (.int .i64 2)).setCell ⟨W.heap.size, 1, none⟩ (.string S)).setCell ⟨W.heap.size, 2, none⟩ (.int .i64 0) = wf at f0 f1 f2 hcF hgF ⊢
      refine bodyPost_ret (v := .agg #[.int .i64 2, .string S, .int .i64 0]) (by simp [results, Tryd.results50, go_sem, f0, f1, f2]) rfl ?_
      exact ⟨2, S, 0, hS, rfl, hcF, hgF⟩
    · have q1 : (x == 1) = false := by simpa using h1
      by_cases h2 : x = 2
      · subst h2
        go_wp2_with fail
        refine (whole_any B C a len cap _ hc).mono ?_
        rintro e W2 ⟨y, hy0, hy1, rfl, hc2, hg2⟩
        go_wp2_with fail
        refine (maxZero_any y _ hy1).mono ?_
        rintro e W2' ⟨n, hn, rfl, rfl⟩
        go_wp2_with fail
        refine (digits_spec (n : Int) _ (by omega) (by omega)).mono ?_
        rintro e W3 ⟨rfl, hb3⟩
        have hS : (⟨(itoa (n : Int)).toArray⟩ : ByteArray).size ≤ 24 := by
          show (itoa (n : Int)).length ≤ 24
          have e : itoa (n : Int) = decDigits n := by unfold itoa; rw [if_neg (by omega)]; rfl
          rw [e]
          have := dec_len 18 n (by omega)
          omega
        generalize (⟨(itoa (n : Int)).toArray⟩ : ByteArray) = S at hS ⊢
        have hc3 := hc2.later hb3
        have hgg := grown_tr (grown_tr hg hg2) (grown_of_new hb3 (some C))
        have hR := tokZ_kept hg0 hgg hWC
        have z0 := frozen_of_row W3 W.heap.size 0 _ 25 hR
        have z1 := frozen_of_row W3 W.heap.size 1 _ 25 hR
        have z2 := frozen_of_row W3 W.heap.size 2 _ 25 hR
        have g0 := cell_of_row W3 W.heap.size 0 _ 25 (0, 0) hR
        have g1 := cell_of_row W3 W.heap.size 1 _ 25 (0, 0) hR
        have g2 := cell_of_row W3 W.heap.size 2 _ 25 (0, 0) hR
        have hF := ((hR.set0 3).set1 S).set2 0
        have f0 := cell_of_row _ W.heap.size 0 _ 25 (0, 0) hF
        have f1 := cell_of_row _ W.heap.size 1 _ 25 (0, 0) hF
        have f2 := cell_of_row _ W.heap.size 2 _ 25 (0, 0) hF
        have hcF := ((hc3.setNew hWC 0 (.int .i64 3)).setNew hWC 1 (.string S)).setNew hWC 2 (.int .i64 0)
        have hgF := grown_set3 (W := W) (grown_tr (grown_alloc W (.cells #[.int .i64 0, .string ⟨#[]⟩, .int .i64 0] 25) (some C)) hgg) (.int .i64 3) (.string S) (.int .i64 0)
        go_wp2_with fail
        generalize ((W3.setCell ⟨W.heap.size, 0, none⟩ (.int .i64 3)).setCell ⟨W.heap.size, 1, none⟩ (.string S)).setCell ⟨W.heap.size, 2, none⟩ (.int .i64 0) = wf at f0 f1 f2 hcF hgF ⊢
        refine bodyPost_ret (v := .agg #[.int .i64 3, .string S, .int .i64 0]) (by simp [results, Tryd.results50, go_sem, f0, f1, f2]) rfl ?_
        exact ⟨3, S, 0, hS, rfl, hcF, hgF⟩
      · have q2 : (x == 2) = false := by simpa using h2
        by_cases h3 : x = 3
        · subst h3
          go_wp2_with fail
          have hltp := hc.lt
          refine (pick_any 24 W1.heap.size 8 B C a len cap _ (hc.alloc _) (by omega) (by omega) (by simp) (by omega) ?_).mono ?_
          · intro j hj
            rw [cell_of_row _ W1.heap.size j _ 9 (0, 0) (heap_alloc_new W1 _)]
            rcases (show j = 0 ∨ j = 1 ∨ j = 2 ∨ j = 3 ∨ j = 4 ∨ j = 5 ∨ j = 6 ∨ j = 7 by omega) with rfl | rfl | rfl | rfl | rfl | rfl | rfl | rfl <;> exact ⟨_, by decide, rfl⟩
          · rintro e W3 ⟨S, hS, rfl, hc3, hg3⟩
            have hgg := grown_tr hg (grown_tr (grown_alloc W1 _ (some C)) hg3)
            have hR := tokZ_kept hg0 hgg hWC
            have z0 := frozen_of_row W3 W.heap.size 0 _ 25 hR
            have z1 := frozen_of_row W3 W.heap.size 1 _ 25 hR
            have z2 := frozen_of_row W3 W.heap.size 2 _ 25 hR
            have g0 := cell_of_row W3 W.heap.size 0 _ 25 (0, 0) hR
            have g1 := cell_of_row W3 W.heap.size 1 _ 25 (0, 0) hR
            have g2 := cell_of_row W3 W.heap.size 2 _ 25 (0, 0) hR
            have hF := ((hR.set0 4).set1 S).set2 0
            have f0 := cell_of_row _ W.heap.size 0 _ 25 (0, 0) hF
            have f1 := cell_of_row _ W.heap.size 1 _ 25 (0, 0) hF
            have f2 := cell_of_row _ W.heap.size 2 _ 25 (0, 0) hF
            have hcF := ((hc3.setNew hWC 0 (.int .i64 4)).setNew hWC 1 (.string S)).setNew hWC 2 (.int .i64 0)
            have hgF := grown_set3 (W := W) (grown_tr (grown_alloc W (.cells #[.int .i64 0, .string ⟨#[]⟩, .int .i64 0] 25) (some C)) hgg) (.int .i64 4) (.string S) (.int .i64 0)
            go_wp2_with fail
            generalize ((W3.setCell ⟨W.heap.size, 0, none⟩ (.int .i64 4)).setCell ⟨W.heap.size, 1, none⟩ (.string S)).setCell ⟨W.heap.size, 2, none⟩ (.int .i64 0) = wf at f0 f1 f2 hcF hgF ⊢
            refine bodyPost_ret (v := .agg #[.int .i64 4, .string S, .int .i64 0]) (by simp [results, Tryd.results50, go_sem, f0, f1, f2]) rfl ?_
            exact ⟨4, S, 0, hS, rfl, hcF, hgF⟩
        · have q3 : (x == 3) = false := by simpa using h3
          clear h0 h1 h2 h3
          go_wp2_with fail
          refine (sign_any B C a len cap _ hc).mono ?_
          rintro e W3 ⟨S, hS, rfl, hc3, hg3⟩
          have hgg := grown_tr hg hg3
          have hR := tokZ_kept hg0 hgg hWC
          have z0 := frozen_of_row W3 W.heap.size 0 _ 25 hR
          have z1 := frozen_of_row W3 W.heap.size 1 _ 25 hR
          have z2 := frozen_of_row W3 W.heap.size 2 _ 25 hR
          have g0 := cell_of_row W3 W.heap.size 0 _ 25 (0, 0) hR
          have g1 := cell_of_row W3 W.heap.size 1 _ 25 (0, 0) hR
          have g2 := cell_of_row W3 W.heap.size 2 _ 25 (0, 0) hR
          have hF := ((hR.set0 5).set1 S).set2 0
          have f0 := cell_of_row _ W.heap.size 0 _ 25 (0, 0) hF
          have f1 := cell_of_row _ W.heap.size 1 _ 25 (0, 0) hF
          have f2 := cell_of_row _ W.heap.size 2 _ 25 (0, 0) hF
          have hcF := ((hc3.setNew hWC 0 (.int .i64 5)).setNew hWC 1 (.string S)).setNew hWC 2 (.int .i64 0)
          have hgF := grown_set3 (W := W) (grown_tr (grown_alloc W (.cells #[.int .i64 0, .string ⟨#[]⟩, .int .i64 0] 25) (some C)) hgg) (.int .i64 5) (.string S) (.int .i64 0)
          go_wp2_with fail
          generalize ((W3.setCell ⟨W.heap.size, 0, none⟩ (.int .i64 5)).setCell ⟨W.heap.size, 1, none⟩ (.string S)).setCell ⟨W.heap.size, 2, none⟩ (.int .i64 0) = wf at f0 f1 f2 hcF hgF ⊢
          refine bodyPost_ret (v := .agg #[.int .i64 5, .string S, .int .i64 0]) (by simp [results, Tryd.results50, go_sem, f0, f1, f2]) rfl ?_
          exact ⟨5, S, 0, hS, rfl, hcF, hgF⟩
end Go.Proofs.YtcadoplfgclbjaaDoor

/- The contract of the function that draws a text for the lexer. -/
namespace Go.Proofs.YtcadoplfgclbjaaDoor
open Go.RowKit

theorem nameL_len (l : List UInt8) : (nameL l).length ≤ 2 * l.length + 2 := by
  unfold nameL
  split
  · split
    · omega
    · have := dbl_len 34 l
      unfold quoted; simp; omega
  · simp
theorem tokText_len (k : Int) (l : List UInt8) : (tokTextL k l).length ≤ 2 * l.length + 2 := by
  unfold tokTextL
  split
  · split
    · exact nameL_len l
    · split
      · have := dbl_len 39 l
        unfold quoted; simp; omega
      · omega
  · simp

def strLen : Value → Nat
  | .string s => s.size
  | _ => 0

end Go.Proofs.YtcadoplfgclbjaaDoor
