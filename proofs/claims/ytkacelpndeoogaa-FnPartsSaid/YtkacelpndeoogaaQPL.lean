/- Joined texts: Fold KeyOf DrawName DrawCol ValS Draw. -/
import Derived.Test.YtkacelpndeoogaaQPA
import Derived.Test.YtkacelpndeoogaaQPB
import Derived.Test.YtkacelpndeoogaaQPC
import Derived.Test.YtkacelpndeoogaaQPK
import Derived.Test.YtkacelpndeoogaaQPD
/- Contracts of Fold, program and model. -/
namespace Go.Proofs.Ytkacelpndeoogaa
open Go.RowKit

theorem upL_getD (l : List UInt8) (j : Nat) : upB (l.getD j 0) = (upL l).getD j 0 := by
  unfold upL
  rw [List.getD_eq_getElem?_getD, List.getD_eq_getElem?_getD, List.getElem?_map]
  cases l[j]? <;> rfl

end Go.Proofs.Ytkacelpndeoogaa

/- Contracts of KeyOf, program and model, and of the list of keywords. -/
namespace Go.Proofs.Ytkacelpndeoogaa
open Go.RowKit Go.Maps

theorem ownsMap_below {H : Type} {P : Program} {k : TypeId} {R : Value → Option (DataW H × List MemPlace)} {w w' : World} {b n B : Nat} {D : DataW H} (h : w.ownsMap P k R b n D) (hb : Below B w w') (hB : b < B) : w'.ownsMap P k R b n D := by
  obtain ⟨es, clock, h1, F, hs, hD⟩ := h
  exact ⟨es, clock, (hb.block b hB).trans h1, F, hs, hD⟩

set_option maxRecDepth 100000 in
set_option maxHeartbeats 400000 in
theorem words_spec (w : World) :
    Calls Try.prog 177 #[] w fun e w' => e = .returned (.slice (some ⟨w.heap.size, 0, none⟩) 29 29) ∧ StrRow w' w.heap.size 29 wordB ∧ Below w.heap.size w w' := by
  go_enter Try.func177, Try.ntmps177
  go_wp2
  go_ret
  refine ⟨rfl, ⟨by simp, fun j hj => ⟨?_, frozen_of_row _ w.heap.size j _ 9 (heap_alloc_new w _)⟩⟩, (Below.refl _ _).alloc (Nat.le_refl _) _⟩
  rw [cell_of_row _ w.heap.size j _ 9 (0, 0) (heap_alloc_new w _)]
  rcases (show j = 0 ∨ j = 1 ∨ j = 2 ∨ j = 3 ∨ j = 4 ∨ j = 5 ∨ j = 6 ∨ j = 7 ∨ j = 8 ∨ j = 9 ∨ j = 10 ∨ j = 11 ∨ j = 12 ∨ j = 13 ∨ j = 14 ∨ j = 15 ∨ j = 16 ∨ j = 17 ∨ j = 18 ∨ j = 19 ∨ j = 20 ∨ j = 21 ∨ j = 22 ∨ j = 23 ∨ j = 24 ∨ j = 25 ∨ j = 26 ∨ j = 27 ∨ j = 28 by omega) with rfl | rfl | rfl | rfl | rfl | rfl | rfl | rfl | rfl | rfl | rfl | rfl | rfl | rfl | rfl | rfl | rfl | rfl | rfl | rfl | rfl | rfl | rfl | rfl | rfl | rfl | rfl | rfl | rfl <;> rfl

theorem word_eq {k : Nat} {F : ByteArray} {l : List UInt8} (hF : F = ⟨l.toArray⟩) : ((wordB k).toList == F.toList) = decide (word k = l) := by
  subst hF
  by_cases h : word k = l
  · rw [decide_eq_true h, Lib.bytes_beq_iff]
    unfold wordB; rw [h]
  · rw [decide_eq_false h, Lib.bytes_beq_false_iff]
    intro e
    exact h (by have := congrArg (fun b : ByteArray => b.data.toList) e; simpa [wordB] using this)

end Go.Proofs.Ytkacelpndeoogaa

/- The contract of the function that draws a name. -/
namespace Go.Proofs.Ytkacelpndeoogaa
open Go.RowKit

set_option maxRecDepth 100000 in
set_option maxHeartbeats 800000 in
theorem name_any (B C : Nat) (a : Option Addr) (len cap : Nat) (W : World) (H : Cur B C a len cap W) :
    Calls Try.prog 175 #[.pointer (some ⟨C, 0, none⟩)] W (TextE 24 B C a len cap W) := by
  go_enter Try.func175, Try.ntmps175
  go_wp2_with fail
  refine (once_any 6 B C a len cap _ H (by omega) (by omega)).mono ?_
  rintro e W1 ⟨x, rfl, hc, hg⟩
  have hlt := hc.lt
  cases x
  · go_wp2_with fail
    refine (pick_any 24 W1.heap.size 10 B C a len cap _ (hc.alloc _) (by omega) (by omega) (by simp) (by omega) ?_).mono ?_
    · intro j hj
      rw [cell_of_row _ W1.heap.size j _ 9 (0, 0) (heap_alloc_new W1 _)]
      rcases (show j = 0 ∨ j = 1 ∨ j = 2 ∨ j = 3 ∨ j = 4 ∨ j = 5 ∨ j = 6 ∨ j = 7 ∨ j = 8 ∨ j = 9 by omega) with rfl | rfl | rfl | rfl | rfl | rfl | rfl | rfl | rfl | rfl <;> exact ⟨_, by decide, rfl⟩
    · rintro e W2 ⟨S, hS, rfl, hc2, hg2⟩
      have hg3 := grown_tr hg (grown_tr (grown_alloc W1 _ (some C)) hg2)
      go_wp2_with fail
      go_ret
      exact ⟨S, hS, rfl, hc2, hg3⟩
  · go_wp2_with fail
    refine (pick_any 24 W1.heap.size 10 B C a len cap _ (hc.alloc _) (by omega) (by omega) (by simp) (by omega) ?_).mono ?_
    · intro j hj
      rw [cell_of_row _ W1.heap.size j _ 9 (0, 0) (heap_alloc_new W1 _)]
      rcases (show j = 0 ∨ j = 1 ∨ j = 2 ∨ j = 3 ∨ j = 4 ∨ j = 5 ∨ j = 6 ∨ j = 7 ∨ j = 8 ∨ j = 9 by omega) with rfl | rfl | rfl | rfl | rfl | rfl | rfl | rfl | rfl | rfl <;> exact ⟨_, by decide, rfl⟩
    · rintro e W2 ⟨S, hS, rfl, hc2, hg2⟩
      have hg3 := grown_tr hg (grown_tr (grown_alloc W1 _ (some C)) hg2)
      go_wp2_with fail
      go_ret
      exact ⟨S, hS, rfl, hc2, hg3⟩
end Go.Proofs.Ytkacelpndeoogaa

/- Drawing columns. -/
namespace Go.Proofs.Ytkacelpndeoogaa
open Go.RowKit
attribute [local go_sem ↓] execOp_ldE execOp_stE

set_option maxRecDepth 100000 in
set_option maxHeartbeats 8000000 in
theorem col_any (B C : Nat) (a : Option Addr) (len cap : Nat) (W : World) (H : Cur B C a len cap W) :
    Calls Try.prog 149 #[.pointer (some ⟨C, 0, none⟩)] W (ColD B C a len cap W) := by
  have hWC := H.lt
  have R0 := RowAt.new W 29 #[.int .i64 0, .int .i64 0, .bool false, .int .i64 0, .int .i64 0, .string ⟨#[]⟩, .string ⟨#[]⟩, .string ⟨#[]⟩, .slice none 0 0, .slice none 0 0]
  have hg0 := grown_alloc W (.cells #[.int .i64 0, .int .i64 0, .bool false, .int .i64 0, .int .i64 0, .string ⟨#[]⟩, .string ⟨#[]⟩, .string ⟨#[]⟩, .slice none 0 0, .slice none 0 0] 29) (some C)
  go_enter Try.func149, Try.ntmps149
  go_wp2_with fail
  refine (pick_any 24 (W.heap.size + 1) 5 B C a len cap _ ((H.alloc _).alloc _) (by omega) (by omega) (by simp) (by omega) ?_).mono ?_
  · intro j hj
    have hrow := RowAt.new1 W (.cells #[.int .i64 0, .int .i64 0, .bool false, .int .i64 0, .int .i64 0, .string ⟨#[]⟩, .string ⟨#[]⟩, .string ⟨#[]⟩, .slice none 0 0, .slice none 0 0] 29) 9 #[.string ⟨#[97]⟩, .string ⟨#[98]⟩, .string ⟨#[99]⟩, .string ⟨#[105, 100]⟩, .string ⟨#[110, 97, 109, 101]⟩]
    rcases (show j = 0 ∨ j = 1 ∨ j = 2 ∨ j = 3 ∨ j = 4 by omega) with rfl | rfl | rfl | rfl | rfl <;> exact ⟨_, by decide, hrow.cell rfl⟩
  rintro e W1 ⟨s7, h7, rfl, hc, hg1⟩
  replace hg1 := grown_tr (grown_alloc _ _ (some C)) hg1
  replace R0 := R0.turn hg1 (by intro e; injection e; omega)
  replace hg0 := grown_tr hg0 hg1
  have hW1 : W.heap.size + 1 ≤ W1.heap.size := by have := hg1.size; simpa using this
  clear hg1
  have R1 := RowAt.new W1 29 #[.int .i64 2, .int .i64 0, .bool false, .int .i64 0, .int .i64 0, .string ⟨#[]⟩, .string ⟨#[]⟩, .string s7, .slice none 0 0, .slice none 0 0]
  replace R0 := R0.alloc (.cells #[.int .i64 2, .int .i64 0, .bool false, .int .i64 0, .int .i64 0, .string ⟨#[]⟩, .string ⟨#[]⟩, .string s7, .slice none 0 0, .slice none 0 0] 29)
  replace hg0 := grown_tr hg0 (grown_alloc W1 (.cells #[.int .i64 2, .int .i64 0, .bool false, .int .i64 0, .int .i64 0, .string ⟨#[]⟩, .string ⟨#[]⟩, .string s7, .slice none 0 0, .slice none 0 0] 29) (some C))
  replace hc := hc.alloc (.cells #[.int .i64 2, .int .i64 0, .bool false, .int .i64 0, .int .i64 0, .string ⟨#[]⟩, .string ⟨#[]⟩, .string s7, .slice none 0 0, .slice none 0 0] 29)
  have st1 := stE_new (w := W1) (ys := [.int .i64 2, .int .i64 0, .bool false, .int .i64 0, .int .i64 0, .string ⟨#[]⟩, .string ⟨#[]⟩, .string s7, .slice none 0 0, .slice none 0 0]) rfl rfl
  go_wp2_with fail
  clear st1
  generalize W1.alloc (.cells #[.int .i64 2, .int .i64 0, .bool false, .int .i64 0, .int .i64 0, .string ⟨#[]⟩, .string ⟨#[]⟩, .string s7, .slice none 0 0, .slice none 0 0] 29) = W2 at R0 R1 hg0 hc ⊢
  generalize W1.heap.size = b1 at R1 hW1 ⊢
  refine (once_any 3 B C a len cap _ hc (by omega) (by omega)).mono ?_
  rintro e W3 ⟨x, rfl, hc, hg⟩
  replace R0 := R0.turn hg (by intro e; injection e; omega)
  replace R1 := R1.turn hg (by intro e; injection e; omega)
  replace hg0 := grown_tr hg0 hg
  clear hg
  cases x
  · go_wp2_with fail
    refine (once_any 12 B C a len cap _ hc (by omega) (by omega)).mono ?_
    rintro e W5 ⟨x, rfl, hc, hg⟩
    replace R0 := R0.turn hg (by intro e; injection e; omega)
    replace R1 := R1.turn hg (by intro e; injection e; omega)
    replace hg0 := grown_tr hg0 hg
    clear hg
    cases x
    · have hb := R0.setRow [.int .i64 2, .int .i64 0, .bool false, .int .i64 0, .int .i64 0, .string ⟨#[]⟩, .string ⟨#[]⟩, .string s7, .slice none 0 0, .slice none 0 0].toArray
      have ld := ldE_row (ys := [.int .i64 2, .int .i64 0, .bool false, .int .i64 0, .int .i64 0, .string ⟨#[]⟩, .string ⟨#[]⟩, .string s7, .slice none 0 0, .slice none 0 0]) R1 rfl
      have st := stE_row (ys := [.int .i64 2, .int .i64 0, .bool false, .int .i64 0, .int .i64 0, .string ⟨#[]⟩, .string ⟨#[]⟩, .string s7, .slice none 0 0, .slice none 0 0]) R0 rfl rfl rfl
      have hgF := grown_own hg0 (setRow_grown W5 W.heap.size [.int .i64 2, .int .i64 0, .bool false, .int .i64 0, .int .i64 0, .string ⟨#[]⟩, .string ⟨#[]⟩, .string s7, .slice none 0 0, .slice none 0 0].toArray) (Nat.le_refl _)
      have hcF := hc.own (setRow_grown W5 W.heap.size [.int .i64 2, .int .i64 0, .bool false, .int .i64 0, .int .i64 0, .string ⟨#[]⟩, .string ⟨#[]⟩, .string s7, .slice none 0 0, .slice none 0 0].toArray) hWC
      go_wp2_with fail
      generalize W5.setRow W.heap.size [.int .i64 2, .int .i64 0, .bool false, .int .i64 0, .int .i64 0, .string ⟨#[]⟩, .string ⟨#[]⟩, .string s7, .slice none 0 0, .slice none 0 0].toArray = wf at hb hcF hgF ⊢
      have f0 := hb.cell (i := 0) (v := .int .i64 2) rfl
      have f1 := hb.cell (i := 1) (v := .int .i64 0) rfl
      have f2 := hb.cell (i := 2) (v := .bool false) rfl
      have f3 := hb.cell (i := 3) (v := .int .i64 0) rfl
      have f4 := hb.cell (i := 4) (v := .int .i64 0) rfl
      have f5 := hb.cell (i := 5) (v := .string ⟨#[]⟩) rfl
      have f6 := hb.cell (i := 6) (v := .string ⟨#[]⟩) rfl
      have f7 := hb.cell (i := 7) (v := .string s7) rfl
      have f8 := hb.cell (i := 8) (v := .slice none 0 0) rfl
      have f9 := hb.cell (i := 9) (v := .slice none 0 0) rfl
      refine bodyPost_ret (v := .agg #[.int .i64 2, .int .i64 0, .bool false, .int .i64 0, .int .i64 0, .string ⟨#[]⟩, .string ⟨#[]⟩, .string s7, .slice none 0 0, .slice none 0 0]) (by simp [results, Try.results149, go_sem, f0, f1, f2, f3, f4, f5, f6, f7, f8, f9]) rfl ?_
      exact ⟨⟨#[]⟩, s7, by decide, h7, rfl, hcF, hgF⟩
    · go_wp2_with fail
      refine (name_any B C a len cap _ hc).mono ?_
      rintro e W6 ⟨s7b, h7b, rfl, hc, hg⟩
      replace R0 := R0.turn hg (by intro e; injection e; omega)
      replace R1 := R1.turn hg (by intro e; injection e; omega)
      replace hg0 := grown_tr hg0 hg
      clear hg
      have x7 := R1.cell (i := 7) (v := .string s7) rfl
      have z7 := R1.soft 7
      replace R1 : RowAt (W6.setCell ⟨b1, 7, none⟩ (.string s7b)) b1 29 #[.int .i64 2, .int .i64 0, .bool false, .int .i64 0, .int .i64 0, .string ⟨#[]⟩, .string ⟨#[]⟩, .string s7b, .slice none 0 0, .slice none 0 0] := R1.set 7 _
      replace R0 := R0.other (C := b1) (o := 7) (v := .string s7b) (by omega)
      replace hg0 := grown_own hg0 (grown_set W6 b1 7 (.string s7b)) (by omega)
      replace hc := hc.own (grown_set W6 b1 7 (.string s7b)) (by omega)
      have hb := R0.setRow [.int .i64 2, .int .i64 0, .bool false, .int .i64 0, .int .i64 0, .string ⟨#[]⟩, .string ⟨#[]⟩, .string s7b, .slice none 0 0, .slice none 0 0].toArray
      have ld := ldE_row (ys := [.int .i64 2, .int .i64 0, .bool false, .int .i64 0, .int .i64 0, .string ⟨#[]⟩, .string ⟨#[]⟩, .string s7b, .slice none 0 0, .slice none 0 0]) R1 rfl
      have st := stE_row (ys := [.int .i64 2, .int .i64 0, .bool false, .int .i64 0, .int .i64 0, .string ⟨#[]⟩, .string ⟨#[]⟩, .string s7b, .slice none 0 0, .slice none 0 0]) R0 rfl rfl rfl
      have hgF := grown_own hg0 (setRow_grown (W6.setCell ⟨b1, 7, none⟩ (.string s7b)) W.heap.size [.int .i64 2, .int .i64 0, .bool false, .int .i64 0, .int .i64 0, .string ⟨#[]⟩, .string ⟨#[]⟩, .string s7b, .slice none 0 0, .slice none 0 0].toArray) (Nat.le_refl _)
      have hcF := hc.own (setRow_grown (W6.setCell ⟨b1, 7, none⟩ (.string s7b)) W.heap.size [.int .i64 2, .int .i64 0, .bool false, .int .i64 0, .int .i64 0, .string ⟨#[]⟩, .string ⟨#[]⟩, .string s7b, .slice none 0 0, .slice none 0 0].toArray) hWC
      go_wp2_with fail
      generalize (W6.setCell ⟨b1, 7, none⟩ (.string s7b)).setRow W.heap.size [.int .i64 2, .int .i64 0, .bool false, .int .i64 0, .int .i64 0, .string ⟨#[]⟩, .string ⟨#[]⟩, .string s7b, .slice none 0 0, .slice none 0 0].toArray = wf at hb hcF hgF ⊢
      have f0 := hb.cell (i := 0) (v := .int .i64 2) rfl
      have f1 := hb.cell (i := 1) (v := .int .i64 0) rfl
      have f2 := hb.cell (i := 2) (v := .bool false) rfl
      have f3 := hb.cell (i := 3) (v := .int .i64 0) rfl
      have f4 := hb.cell (i := 4) (v := .int .i64 0) rfl
      have f5 := hb.cell (i := 5) (v := .string ⟨#[]⟩) rfl
      have f6 := hb.cell (i := 6) (v := .string ⟨#[]⟩) rfl
      have f7 := hb.cell (i := 7) (v := .string s7b) rfl
      have f8 := hb.cell (i := 8) (v := .slice none 0 0) rfl
      have f9 := hb.cell (i := 9) (v := .slice none 0 0) rfl
      refine bodyPost_ret (v := .agg #[.int .i64 2, .int .i64 0, .bool false, .int .i64 0, .int .i64 0, .string ⟨#[]⟩, .string ⟨#[]⟩, .string s7b, .slice none 0 0, .slice none 0 0]) (by simp [results, Try.results149, go_sem, f0, f1, f2, f3, f4, f5, f6, f7, f8, f9]) rfl ?_
      exact ⟨⟨#[]⟩, s7b, by decide, h7b, rfl, hcF, hgF⟩
  · go_wp2_with fail
    refine (pick_any 24 W3.heap.size 3 B C a len cap _ (hc.alloc _) (by omega) (by omega) (by simp) (by have := hc.lt; omega) ?_).mono ?_
    · intro j hj
      have hrow := RowAt.new W3 9 #[.string ⟨#[116]⟩, .string ⟨#[117]⟩, .string ⟨#[118]⟩]
      rcases (show j = 0 ∨ j = 1 ∨ j = 2 by omega) with rfl | rfl | rfl <;> exact ⟨_, by decide, hrow.cell rfl⟩
    rintro e W4 ⟨s6, h6, rfl, hc, hg⟩
    replace hg := grown_tr (grown_alloc W3 _ (some C)) hg
    replace R0 := R0.turn hg (by intro e; injection e; omega)
    replace R1 := R1.turn hg (by intro e; injection e; omega)
    replace hg0 := grown_tr hg0 hg
    clear hg
    have x6 := R1.cell (i := 6) (v := .string ⟨#[]⟩) rfl
    have z6 := R1.soft 6
    replace R1 : RowAt (W4.setCell ⟨b1, 6, none⟩ (.string s6)) b1 29 #[.int .i64 2, .int .i64 0, .bool false, .int .i64 0, .int .i64 0, .string ⟨#[]⟩, .string s6, .string s7, .slice none 0 0, .slice none 0 0] := R1.set 6 _
    replace R0 := R0.other (C := b1) (o := 6) (v := .string s6) (by omega)
    replace hg0 := grown_own hg0 (grown_set W4 b1 6 (.string s6)) (by omega)
    replace hc := hc.own (grown_set W4 b1 6 (.string s6)) (by omega)
    go_wp2_with fail
    refine (once_any 12 B C a len cap _ hc (by omega) (by omega)).mono ?_
    rintro e W5 ⟨x, rfl, hc, hg⟩
    replace R0 := R0.turn hg (by intro e; injection e; omega)
    replace R1 := R1.turn hg (by intro e; injection e; omega)
    replace hg0 := grown_tr hg0 hg
    clear hg
    cases x
    · have hb := R0.setRow [.int .i64 2, .int .i64 0, .bool false, .int .i64 0, .int .i64 0, .string ⟨#[]⟩, .string s6, .string s7, .slice none 0 0, .slice none 0 0].toArray
      have ld := ldE_row (ys := [.int .i64 2, .int .i64 0, .bool false, .int .i64 0, .int .i64 0, .string ⟨#[]⟩, .string s6, .string s7, .slice none 0 0, .slice none 0 0]) R1 rfl
      have st := stE_row (ys := [.int .i64 2, .int .i64 0, .bool false, .int .i64 0, .int .i64 0, .string ⟨#[]⟩, .string s6, .string s7, .slice none 0 0, .slice none 0 0]) R0 rfl rfl rfl
      have hgF := grown_own hg0 (setRow_grown W5 W.heap.size [.int .i64 2, .int .i64 0, .bool false, .int .i64 0, .int .i64 0, .string ⟨#[]⟩, .string s6, .string s7, .slice none 0 0, .slice none 0 0].toArray) (Nat.le_refl _)
      have hcF := hc.own (setRow_grown W5 W.heap.size [.int .i64 2, .int .i64 0, .bool false, .int .i64 0, .int .i64 0, .string ⟨#[]⟩, .string s6, .string s7, .slice none 0 0, .slice none 0 0].toArray) hWC
      go_wp2_with fail
      generalize W5.setRow W.heap.size [.int .i64 2, .int .i64 0, .bool false, .int .i64 0, .int .i64 0, .string ⟨#[]⟩, .string s6, .string s7, .slice none 0 0, .slice none 0 0].toArray = wf at hb hcF hgF ⊢
      have f0 := hb.cell (i := 0) (v := .int .i64 2) rfl
      have f1 := hb.cell (i := 1) (v := .int .i64 0) rfl
      have f2 := hb.cell (i := 2) (v := .bool false) rfl
      have f3 := hb.cell (i := 3) (v := .int .i64 0) rfl
      have f4 := hb.cell (i := 4) (v := .int .i64 0) rfl
      have f5 := hb.cell (i := 5) (v := .string ⟨#[]⟩) rfl
      have f6 := hb.cell (i := 6) (v := .string s6) rfl
      have f7 := hb.cell (i := 7) (v := .string s7) rfl
      have f8 := hb.cell (i := 8) (v := .slice none 0 0) rfl
      have f9 := hb.cell (i := 9) (v := .slice none 0 0) rfl
      refine bodyPost_ret (v := .agg #[.int .i64 2, .int .i64 0, .bool false, .int .i64 0, .int .i64 0, .string ⟨#[]⟩, .string s6, .string s7, .slice none 0 0, .slice none 0 0]) (by simp [results, Try.results149, go_sem, f0, f1, f2, f3, f4, f5, f6, f7, f8, f9]) rfl ?_
      exact ⟨s6, s7, h6, h7, rfl, hcF, hgF⟩
    · go_wp2_with fail
      refine (name_any B C a len cap _ hc).mono ?_
      rintro e W6 ⟨s7b, h7b, rfl, hc, hg⟩
      replace R0 := R0.turn hg (by intro e; injection e; omega)
      replace R1 := R1.turn hg (by intro e; injection e; omega)
      replace hg0 := grown_tr hg0 hg
      clear hg
      have x7 := R1.cell (i := 7) (v := .string s7) rfl
      have z7 := R1.soft 7
      replace R1 : RowAt (W6.setCell ⟨b1, 7, none⟩ (.string s7b)) b1 29 #[.int .i64 2, .int .i64 0, .bool false, .int .i64 0, .int .i64 0, .string ⟨#[]⟩, .string s6, .string s7b, .slice none 0 0, .slice none 0 0] := R1.set 7 _
      replace R0 := R0.other (C := b1) (o := 7) (v := .string s7b) (by omega)
      replace hg0 := grown_own hg0 (grown_set W6 b1 7 (.string s7b)) (by omega)
      replace hc := hc.own (grown_set W6 b1 7 (.string s7b)) (by omega)
      have hb := R0.setRow [.int .i64 2, .int .i64 0, .bool false, .int .i64 0, .int .i64 0, .string ⟨#[]⟩, .string s6, .string s7b, .slice none 0 0, .slice none 0 0].toArray
      have ld := ldE_row (ys := [.int .i64 2, .int .i64 0, .bool false, .int .i64 0, .int .i64 0, .string ⟨#[]⟩, .string s6, .string s7b, .slice none 0 0, .slice none 0 0]) R1 rfl
      have st := stE_row (ys := [.int .i64 2, .int .i64 0, .bool false, .int .i64 0, .int .i64 0, .string ⟨#[]⟩, .string s6, .string s7b, .slice none 0 0, .slice none 0 0]) R0 rfl rfl rfl
      have hgF := grown_own hg0 (setRow_grown (W6.setCell ⟨b1, 7, none⟩ (.string s7b)) W.heap.size [.int .i64 2, .int .i64 0, .bool false, .int .i64 0, .int .i64 0, .string ⟨#[]⟩, .string s6, .string s7b, .slice none 0 0, .slice none 0 0].toArray) (Nat.le_refl _)
      have hcF := hc.own (setRow_grown (W6.setCell ⟨b1, 7, none⟩ (.string s7b)) W.heap.size [.int .i64 2, .int .i64 0, .bool false, .int .i64 0, .int .i64 0, .string ⟨#[]⟩, .string s6, .string s7b, .slice none 0 0, .slice none 0 0].toArray) hWC
      go_wp2_with fail
      generalize (W6.setCell ⟨b1, 7, none⟩ (.string s7b)).setRow W.heap.size [.int .i64 2, .int .i64 0, .bool false, .int .i64 0, .int .i64 0, .string ⟨#[]⟩, .string s6, .string s7b, .slice none 0 0, .slice none 0 0].toArray = wf at hb hcF hgF ⊢
      have f0 := hb.cell (i := 0) (v := .int .i64 2) rfl
      have f1 := hb.cell (i := 1) (v := .int .i64 0) rfl
      have f2 := hb.cell (i := 2) (v := .bool false) rfl
      have f3 := hb.cell (i := 3) (v := .int .i64 0) rfl
      have f4 := hb.cell (i := 4) (v := .int .i64 0) rfl
      have f5 := hb.cell (i := 5) (v := .string ⟨#[]⟩) rfl
      have f6 := hb.cell (i := 6) (v := .string s6) rfl
      have f7 := hb.cell (i := 7) (v := .string s7b) rfl
      have f8 := hb.cell (i := 8) (v := .slice none 0 0) rfl
      have f9 := hb.cell (i := 9) (v := .slice none 0 0) rfl
      refine bodyPost_ret (v := .agg #[.int .i64 2, .int .i64 0, .bool false, .int .i64 0, .int .i64 0, .string ⟨#[]⟩, .string s6, .string s7b, .slice none 0 0, .slice none 0 0]) (by simp [results, Try.results149, go_sem, f0, f1, f2, f3, f4, f5, f6, f7, f8, f9]) rfl ?_
      exact ⟨s6, s7b, h6, h7b, rfl, hcF, hgF⟩
end Go.Proofs.Ytkacelpndeoogaa

/- Contracts of the model's test on values and of the makers of values. -/
namespace Go.Proofs.Ytkacelpndeoogaa
open Go.RowKit

/-- the document's condition on a value -/
def valOk (k n : Int) (t : List UInt8) : Bool :=
  if k = 0 then decide (n = 0) && decide (t = [])
  else if k = 1 then decide (t = [])
  else if k = 2 then decide (n = 0) && decide ((t.length : Int) ≤ 200)
  else if k = 3 then (decide (0 ≤ n) && decide (n ≤ 1)) && decide (t = [])
  else false
theorem beq_nil (s : ByteArray) : (s.toList == []) = decide (s.data.toList = []) := beq_lit s []

set_option maxRecDepth 100000 in
set_option maxHeartbeats 2000000 in
theorem valueOk_spec (k n : Int) (t : ByteArray) (w : World) (ht : t.size ≤ 9223372036854775807) :
    Calls Try.prog 214 #[.agg #[.int .i64 k, .int .i64 n, .string t]] w (BoolE (valOk k n t.data.toList) w) := by
  have hbb := (Below.refl w.heap.size w).alloc (Nat.le_refl _) (.cells #[.int .i64 k, .int .i64 n, .string t] 25)
  have hsz : ((t.data.toList.length : Nat) : Int) = (t.size : Int) := rfl
  have hN : (n == 0) = decide (n = 0) := by by_cases h : n = 0 <;> simp [h]
  have hT := beq_nil t
  have hL : decide ((t.size : Int) ≤ 200) = decide (t.size ≤ 200) := by rw [decide_eq_decide]; omega
  have hI := fun w => in_any n 0 1 (decide (0 ≤ n) && decide (n ≤ 1)) w (by rw [Bool.decide_and])
  have hV : valOk k n t.data.toList = (if k = 0 then decide (n = 0) && decide (t.data.toList = []) else if k = 1 then decide (t.data.toList = []) else if k = 2 then decide (n = 0) && decide ((t.size : Int) ≤ 200) else if k = 3 then (decide (0 ≤ n) && decide (n ≤ 1)) && decide (t.data.toList = []) else false) := rfl
  generalize valOk k n t.data.toList = V at hV ⊢
  generalize decide (n = 0) = b0 at hN hV
  generalize decide (t.data.toList = []) = b1 at hT hV
  generalize (decide (0 ≤ n) && decide (n ≤ 1)) = b2 at hI hV
  by_cases h0 : k = 0
  · subst h0
    have HV := Lib.hid (hV.trans (if_pos rfl)); clear hV hI
    cases b0 <;> cases b1
    all_goals
      go_enter Try.func214, Try.ntmps214
      go_wp2_with fail
      go_ret
      exact ⟨by rw [HV.out]; rfl, hbb⟩
  rw [if_neg h0] at hV
  have q0 : (k == 0) = false := by simpa using h0
  by_cases h1 : k = 1
  · subst h1
    have HV := Lib.hid (hV.trans (if_pos rfl)); clear hV hI
    cases b1
    all_goals
      go_enter Try.func214, Try.ntmps214
      go_wp2_with fail
      go_ret
      exact ⟨by rw [HV.out]; rfl, hbb⟩
  rw [if_neg h1] at hV
  have q1 : (k == 1) = false := by simpa using h1
  by_cases h2 : k = 2
  · subst h2
    replace hV := hV.trans (if_pos rfl); clear hI hL
    by_cases hz : t.size ≤ 200
    · have d1 : decide ((t.size : Int) ≤ 200) = true := by simp; omega
      have d2 : decide (t.size ≤ 200) = true := by simp; omega
      rw [d1] at hV
      have HV := Lib.hid hV; clear hV hz
      cases b0
      all_goals
        go_enter Try.func214, Try.ntmps214
        go_wp2_with fail
        go_ret
        exact ⟨by rw [HV.out]; rfl, hbb⟩
    · have d1 : decide ((t.size : Int) ≤ 200) = false := by simp; omega
      have d2 : decide (t.size ≤ 200) = false := by simp; omega
      rw [d1] at hV
      have HV := Lib.hid hV; clear hV hz
      cases b0
      all_goals
        go_enter Try.func214, Try.ntmps214
        go_wp2_with fail
        go_ret
        exact ⟨by rw [HV.out]; rfl, hbb⟩
  rw [if_neg h2] at hV
  have q2 : (k == 2) = false := by simpa using h2
  by_cases h3 : k = 3
  · subst h3
    have HV := Lib.hid (hV.trans (if_pos rfl)); clear hV
    cases b2 <;> cases b1
    all_goals
      go_enter Try.func214, Try.ntmps214
      go_wp2_with fail
      refine (hI _).mono ?_
      rintro e w1 ⟨rfl, rfl⟩
      go_wp2_with fail
      go_ret
      exact ⟨by rw [HV.out]; rfl, hbb⟩
  rw [if_neg h3] at hV
  have q3 : (k == 3) = false := by simpa using h3
  have HV := Lib.hid hV; clear hV hI
  go_enter Try.func214, Try.ntmps214
  go_wp2_with fail
  go_ret
  exact ⟨by rw [HV.out]; rfl, hbb⟩

set_option maxRecDepth 100000 in
set_option maxHeartbeats 800000 in
theorem intValue_spec (n : Int) (w : World) : Calls Try.prog 229 #[.int .i64 n] w (CopyV 1 n ⟨#[]⟩ w) := by
  have hR := heap_alloc_new w (.cells #[.int .i64 1, .int .i64 n, .string ⟨#[]⟩] 25)
  have f0 := cell_of_row _ w.heap.size 0 _ 25 (0, 0) hR
  have f1 := cell_of_row _ w.heap.size 1 _ 25 (0, 0) hR
  have f2 := cell_of_row _ w.heap.size 2 _ 25 (0, 0) hR
  have hb := (Below.refl w.heap.size w).alloc (Nat.le_refl _) (.cells #[.int .i64 1, .int .i64 n, .string ⟨#[]⟩] 25)
  go_enter Try.func229, Try.ntmps229
  go_wp2_with fail
  generalize w.alloc (.cells #[.int .i64 1, .int .i64 n, .string ⟨#[]⟩] 25) = wf at f0 f1 f2 hb ⊢
  refine bodyPost_ret (v := .agg #[.int .i64 1, .int .i64 n, .string ⟨#[]⟩]) (by simp [results, Try.results229, go_sem, f0, f1, f2]) rfl ?_
  exact ⟨rfl, hb⟩
set_option maxRecDepth 100000 in
set_option maxHeartbeats 800000 in
theorem textValue_spec (s : ByteArray) (w : World) : Calls Try.prog 227 #[.string s] w (CopyV 2 0 s w) := by
  have hR := heap_alloc_new w (.cells #[.int .i64 2, .int .i64 0, .string s] 25)
  have f0 := cell_of_row _ w.heap.size 0 _ 25 (0, 0) hR
  have f1 := cell_of_row _ w.heap.size 1 _ 25 (0, 0) hR
  have f2 := cell_of_row _ w.heap.size 2 _ 25 (0, 0) hR
  have hb := (Below.refl w.heap.size w).alloc (Nat.le_refl _) (.cells #[.int .i64 2, .int .i64 0, .string s] 25)
  go_enter Try.func227, Try.ntmps227
  go_wp2_with fail
  generalize w.alloc (.cells #[.int .i64 2, .int .i64 0, .string s] 25) = wf at f0 f1 f2 hb ⊢
  refine bodyPost_ret (v := .agg #[.int .i64 2, .int .i64 0, .string s]) (by simp [results, Try.results227, go_sem, f0, f1, f2]) rfl ?_
  exact ⟨rfl, hb⟩
set_option maxRecDepth 100000 in
set_option maxHeartbeats 800000 in
theorem boolValue_spec (b : Bool) (w : World) : Calls Try.prog 228 #[.bool b] w (CopyV 3 (if b then 1 else 0) ⟨#[]⟩ w) := by
  cases b
  · have hR := heap_alloc_new w (.cells #[.int .i64 3, .int .i64 0, .string ⟨#[]⟩] 25)
    have f0 := cell_of_row _ w.heap.size 0 _ 25 (0, 0) hR
    have f1 := cell_of_row _ w.heap.size 1 _ 25 (0, 0) hR
    have f2 := cell_of_row _ w.heap.size 2 _ 25 (0, 0) hR
    have hb := (Below.refl w.heap.size w).alloc (Nat.le_refl _) (.cells #[.int .i64 3, .int .i64 0, .string ⟨#[]⟩] 25)
    go_enter Try.func228, Try.ntmps228
    go_wp2_with fail
    generalize w.alloc (.cells #[.int .i64 3, .int .i64 0, .string ⟨#[]⟩] 25) = wf at f0 f1 f2 hb ⊢
    refine bodyPost_ret (v := .agg #[.int .i64 3, .int .i64 0, .string ⟨#[]⟩]) (by simp [results, Try.results228, go_sem, f0, f1, f2]) rfl ?_
    exact ⟨rfl, hb⟩
  · have hR := heap_alloc_new w (.cells #[.int .i64 3, .int .i64 1, .string ⟨#[]⟩] 25)
    have f0 := cell_of_row _ w.heap.size 0 _ 25 (0, 0) hR
    have f1 := cell_of_row _ w.heap.size 1 _ 25 (0, 0) hR
    have f2 := cell_of_row _ w.heap.size 2 _ 25 (0, 0) hR
    have hb := (Below.refl w.heap.size w).alloc (Nat.le_refl _) (.cells #[.int .i64 3, .int .i64 1, .string ⟨#[]⟩] 25)
    go_enter Try.func228, Try.ntmps228
    go_wp2_with fail
    generalize w.alloc (.cells #[.int .i64 3, .int .i64 1, .string ⟨#[]⟩] 25) = wf at f0 f1 f2 hb ⊢
    refine bodyPost_ret (v := .agg #[.int .i64 3, .int .i64 1, .string ⟨#[]⟩]) (by simp [results, Try.results228, go_sem, f0, f1, f2]) rfl ?_
    exact ⟨rfl, hb⟩
end Go.Proofs.Ytkacelpndeoogaa

/- Contracts of two drawing functions of integers: l1PickInt and l1Whole. -/
namespace Go.Proofs.Ytkacelpndeoogaa
open Go.RowKit

set_option maxRecDepth 100000 in
set_option maxHeartbeats 400000 in
theorem pickInt_any (L m : Nat) (lo hi : Int) (B C : Nat) (a : Option Addr) (len cap : Nat) (W : World) (H : Cur B C a len cap W) (hm : 1 ≤ m) (hm2 : m ≤ 1000) (hL : L < W.heap.size) (hLC : L ≠ C)
    (hv : ∀ j, j < m → ∃ v : Int, lo ≤ v ∧ v ≤ hi ∧ W.cell? ⟨L, j, none⟩ = some (.int .i64 v)) :
    Calls Try.prog 154 #[.pointer (some ⟨C, 0, none⟩), .slice (some ⟨L, 0, none⟩) m m] W (DrawE lo hi B C a len cap W) := by
  go_enter Try.func154, Try.ntmps154
  go_wp2_with fail
  refine (below_any (m : Int) B C a len cap _ H (by omega) (by omega)).mono ?_
  rintro e W1 ⟨x, hx0, hx1, rfl, hc, hg⟩
  obtain ⟨j, rfl⟩ := Int.eq_ofNat_of_zero_le hx0
  obtain ⟨v, hv0, hv1, hvc⟩ := hv j (by omega)
  have hjm : j < m := by omega
  have hcell : W1.cell? ⟨L, j, none⟩ = some (.int .i64 v) := by
    rw [World.cell?_of_block (w := W) (w' := W1) (a := ⟨L, j, none⟩) (hg.block L hL (fun e => hLC (by simpa using e)))]
    exact hvc
  go_wp2_with fail
  go_ret
  exact ⟨v, hv0, hv1, rfl, hc, hg⟩

set_option maxRecDepth 100000 in
set_option maxHeartbeats 400000 in
theorem whole_any (B C : Nat) (a : Option Addr) (len cap : Nat) (W : World) (H : Cur B C a len cap W) :
    Calls Try.prog 211 #[.pointer (some ⟨C, 0, none⟩)] W (DrawE (-9223372036854775808) 9223372036854775807 B C a len cap W) := by
  go_enter Try.func211, Try.ntmps211
  go_wp2_with fail
  refine (below_any 3 B C a len cap _ H (by omega) (by omega)).mono ?_
  rintro e W1 ⟨x, hx0, hx1, rfl, hc, hg⟩
  rcases (show x = 0 ∨ x = 1 ∨ x = 2 by omega) with rfl | rfl | rfl
  · have hlt := hc.lt
    go_wp2_with fail
    refine (pickInt_any W1.heap.size 14 (-9223372036854775808) 9223372036854775807 B C a len cap _ (hc.alloc _) (by omega) (by omega) (by simp) (by omega) ?_).mono ?_
    · intro j hj
      rw [cell_of_row _ W1.heap.size j _ 3 (0, 0) (heap_alloc_new W1 _)]
      rcases (show j = 0 ∨ j = 1 ∨ j = 2 ∨ j = 3 ∨ j = 4 ∨ j = 5 ∨ j = 6 ∨ j = 7 ∨ j = 8 ∨ j = 9 ∨ j = 10 ∨ j = 11 ∨ j = 12 ∨ j = 13 by omega) with rfl | rfl | rfl | rfl | rfl | rfl | rfl | rfl | rfl | rfl | rfl | rfl | rfl | rfl <;> exact ⟨_, by decide, by decide, rfl⟩
    · rintro e W2 ⟨y, hy0, hy1, rfl, hc2, hg2⟩
      have hg3 := grown_tr hg (grown_tr (grown_alloc W1 _ (some C)) hg2)
      go_wp2_with fail
      go_ret
      exact ⟨y, hy0, hy1, rfl, hc2, hg3⟩
  · go_wp2_with fail
    refine (below_any 1000000 B C a len cap _ hc (by omega) (by omega)).mono ?_
    rintro e W2 ⟨y, hy0, hy1, rfl, hc2, hg2⟩
    go_wp2_with fail
    go_ret
    exact ⟨_, by omega, by omega, rfl, hc2, grown_tr hg hg2⟩
  · go_wp2_with fail
    refine (below_any 20 B C a len cap _ hc (by omega) (by omega)).mono ?_
    rintro e W2 ⟨y, hy0, hy1, rfl, hc2, hg2⟩
    go_wp2_with fail
    go_ret
    exact ⟨_, by omega, by omega, rfl, hc2, grown_tr hg hg2⟩
end Go.Proofs.Ytkacelpndeoogaa
