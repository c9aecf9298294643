/- Joined texts: DrawList DrawBent DrawL4 DrawGap. -/
import Derived.Test.YtcadoplfgclbjaaDoorQM
import Derived.Test.YtcadoplfgclbjaaDoorQL
import Derived.Test.YtcadoplfgclbjaaDoorQF
import Derived.Deep.DeepMust
/- Contracts of the functions that draw lists of tokens. -/
namespace Go.Proofs.YtcadoplfgclbjaaDoor
open Go.RowKit

theorem OwnU.turn {Bo C : Nat} {v : Value} {L : List (Int × ByteArray × Int)} {W W' : World} (H : OwnU W Bo v L) (g : W.grownBy W' (some C)) (hC : C < Bo) : OwnU W' Bo v L :=
  World.ownsRow.kept H g (by
    rcases h : v.ownBlock with _ | k
    · exact .inl rfl
    · refine .inr fun e => ?_
      have := (World.ownsRow.lt H k h).1
      simp at e; omega)
/-- all texts are of at most M bytes -/
def Small (M : Nat) (L : List (Int × ByteArray × Int)) : Prop := ∀ x ∈ L, x.2.1.size ≤ M
theorem Small.snoc {M : Nat} {L : List (Int × ByteArray × Int)} {k : Int} {t : ByteArray} {p : Int} (h : Small M L) (ht : t.size ≤ M) : Small M (L ++ [(k, t, p)]) := by
  intro x hx
  rcases List.mem_append.1 hx with hx | hx
  · exact h x hx
  · rcases List.mem_cons.1 hx with rfl | hx
    · exact ht
    · cases hx
theorem Small.mono {M M' : Nat} {L : List (Int × ByteArray × Int)} (h : Small M L) (hM : M ≤ M') : Small M' L := fun x hx => Nat.le_trans (h x hx) hM

/-- some list of tokens, of at most N, their texts of at most M bytes, in memory of the call's own -/
def ListDrawE (N M : Nat) (B C : Nat) (a : Option Addr) (len cap : Nat) (W : World) (e : Ending) (W' : World) : Prop :=
  ∃ (g cp : Nat) (L : List (Int × ByteArray × Int)), L.length ≤ N ∧ Small M L ∧ e = .returned (.slice (some ⟨g, 0, none⟩) L.length cp) ∧ OwnU W' W.heap.size (.slice (some ⟨g, 0, none⟩) L.length cp) L ∧ Cur B C a len cap W' ∧ W.grownBy W' (some C)

end Go.Proofs.YtcadoplfgclbjaaDoor

/- The contract of the function that draws a token that may be bent. -/
namespace Go.Proofs.YtcadoplfgclbjaaDoor
open Go.RowKit

theorem grown_setR {W W' : World} {C : Nat} {R o : Nat} {v : Value} (h : W.grownBy W' (some C)) (hR : W.heap.size ≤ R) : W.grownBy (W'.setCell ⟨R, o, none⟩ v) (some C) :=
  ⟨h.os, h.tape, h.output, by simpa using h.size, fun k hk hr => (heap_setCell_other W' ⟨R, o, none⟩ k v (by show k ≠ R; omega)).trans (h.block k hk hr)⟩
theorem TokAt.turn {W W' : World} {R C : Nat} {k : Int} {t : ByteArray} {a : Int} (H : TokAt W R k t a) (g : W.grownBy W' (some C)) (hR : R ≠ C) : TokAt W' R k t a :=
  (g.block R (Array.getElem?_eq_some_iff.1 H).1 (fun e => hR (by simpa using e))).trans H

set_option maxRecDepth 100000 in
set_option maxHeartbeats 4000000 in
theorem bent_any (B C : Nat) (a : Option Addr) (len cap : Nat) (W : World) (H : Cur B C a len cap W) :
    Calls Tryd.prog 27 #[.pointer (some ⟨C, 0, none⟩)] W (TokDrawE 41 B C a len cap W) := by
  have hWC := H.lt
  have hg0 : TokAt (W.alloc (.cells #[.int .i64 0, .string ⟨#[]⟩, .int .i64 0] 25)) W.heap.size 0 ⟨#[]⟩ 0 := heap_alloc_new W _
  go_enter Tryd.func27, Tryd.ntmps27
  go_wp2_with fail
  refine (token_any B C a len cap _ (H.alloc _)).mono ?_
  rintro e W1 ⟨K, T, p, hT, rfl, hc1, hg1⟩
  have hW1 := hg1.size
  have hW1' : W.heap.size + 1 ≤ W1.heap.size := by simpa using hW1
  have r0 := hg0.turn hg1 (by omega)
  have r0a : TokAt (W1.alloc (.cells #[.int .i64 K, .string T, .int .i64 p] 25)) W.heap.size 0 ⟨#[]⟩ 0 := (Below.heap_alloc W1 _ W.heap.size (by omega)).trans r0
  have r1a : TokAt (W1.alloc (.cells #[.int .i64 K, .string T, .int .i64 p] 25)) W1.heap.size K T p := heap_alloc_new W1 _
  have hgA := grown_tr (grown_tr (grown_alloc W (.cells #[.int .i64 0, .string ⟨#[]⟩, .int .i64 0] 25) (some C)) hg1) (grown_alloc W1 (.cells #[.int .i64 K, .string T, .int .i64 p] 25) (some C))
  have hcA := hc1.alloc (.cells #[.int .i64 K, .string T, .int .i64 p] 25)
  go_wp2_with fail
  refine (below_any 10 B C a len cap _ hcA (by omega) (by omega)).mono ?_
  rintro e W2 ⟨x, hx0, hx1, rfl, hc2, hg2⟩
  replace r0a := r0a.turn hg2 (by omega)
  replace r1a := r1a.turn hg2 (by omega)
  replace hgA := grown_tr hgA hg2
  clear hg0 r0 hg1 hg2 hcA hc1 hW1
  by_cases h0 : x = 0
  · subst h0
    go_wp2_with fail
    refine (below_any 7 B C a len cap _ hc2 (by omega) (by omega)).mono ?_
    rintro e W3 ⟨m, hm0, hm1, rfl, hc3, hg3⟩
    replace r0a := r0a.turn hg3 (by omega)
    replace r1a := r1a.turn hg3 (by omega)
    replace hgA := grown_tr hgA hg3
    have hcX := hc3.setNew (R := W1.heap.size) (by omega) 0 (.int .i64 m)
    have hgX := grown_setR (R := W1.heap.size) (o := 0) (v := .int .i64 m) hgA (by omega)
    have r0x : TokAt (W3.setCell ⟨W1.heap.size, 0, none⟩ (.int .i64 m)) W.heap.size 0 ⟨#[]⟩ 0 := r0a.set_other (by omega)
    have za0 := frozen_of_row W3 (W.heap.size) 0 _ 25 r0a
    have ga0 := cell_of_row W3 (W.heap.size) 0 _ 25 (0, 0) r0a
    have za1 := frozen_of_row W3 (W.heap.size) 1 _ 25 r0a
    have ga1 := cell_of_row W3 (W.heap.size) 1 _ 25 (0, 0) r0a
    have za2 := frozen_of_row W3 (W.heap.size) 2 _ 25 r0a
    have ga2 := cell_of_row W3 (W.heap.size) 2 _ 25 (0, 0) r0a
    have zb0 := frozen_of_row W3 (W1.heap.size) 0 _ 25 r1a
    have gb0 := cell_of_row W3 (W1.heap.size) 0 _ 25 (0, 0) r1a
    have zb1 := frozen_of_row W3 (W1.heap.size) 1 _ 25 r1a
    have gb1 := cell_of_row W3 (W1.heap.size) 1 _ 25 (0, 0) r1a
    have zb2 := frozen_of_row W3 (W1.heap.size) 2 _ 25 r1a
    have gb2 := cell_of_row W3 (W1.heap.size) 2 _ 25 (0, 0) r1a
    have hF := ((r0x.set0 m).set1 T).set2 p
    have f0 := cell_of_row _ W.heap.size 0 _ 25 (0, 0) hF
    have f1 := cell_of_row _ W.heap.size 1 _ 25 (0, 0) hF
    have f2 := cell_of_row _ W.heap.size 2 _ 25 (0, 0) hF
    have hcF := ((hcX.setNew (R := W.heap.size) hWC 0 (.int .i64 m)).setNew (R := W.heap.size) hWC 1 (.string T)).setNew (R := W.heap.size) hWC 2 (.int .i64 p)
    have hgF := grown_setR (R := W.heap.size) (o := 2) (v := .int .i64 p) (grown_setR (R := W.heap.size) (o := 1) (v := .string T) (grown_setR (R := W.heap.size) (o := 0) (v := .int .i64 m) hgX (Nat.le_refl _)) (Nat.le_refl _)) (Nat.le_refl _)
    go_wp2_with fail
    generalize (((W3.setCell ⟨W1.heap.size, 0, none⟩ (.int .i64 m)).setCell ⟨W.heap.size, 0, none⟩ (.int .i64 m)).setCell ⟨W.heap.size, 1, none⟩ (.string T)).setCell ⟨W.heap.size, 2, none⟩ (.int .i64 p) = wf at f0 f1 f2 hcF hgF ⊢
    refine bodyPost_ret (v := .agg #[.int .i64 m, .string T, .int .i64 p]) (by simp [results, Tryd.results27, go_sem, f0, f1, f2]) rfl ?_
    exact ⟨m, T, p, by omega, rfl, hcF, hgF⟩
  · have q0 : (x == 0) = false := by simpa using h0
    by_cases h1 : x = 1
    · subst h1
      have hW2 := r1a
      have hz2 : W1.heap.size < W2.heap.size := (Array.getElem?_eq_some_iff.1 r1a).1
      clear hW2
      go_wp2_with fail
      refine (pick_any 41 W2.heap.size 9 B C a len cap _ (hc2.alloc _) (by omega) (by omega) (by simp) (by have := hc2.lt; omega) ?_).mono ?_
      · intro j hj
        rw [cell_of_row _ W2.heap.size j _ 9 (0, 0) (heap_alloc_new W2 _)]
        rcases (show j = 0 ∨ j = 1 ∨ j = 2 ∨ j = 3 ∨ j = 4 ∨ j = 5 ∨ j = 6 ∨ j = 7 ∨ j = 8 by omega) with rfl | rfl | rfl | rfl | rfl | rfl | rfl | rfl | rfl <;> exact ⟨_, by decide, rfl⟩
      · rintro e W3 ⟨S, hS, rfl, hc3, hg3'⟩
        have hg3 := grown_tr (grown_alloc W2 _ (some C)) hg3'
        clear hg3'
        replace r0a := r0a.turn hg3 (by omega)
        replace r1a := r1a.turn hg3 (by omega)
        replace hgA := grown_tr hgA hg3
        have hcX := hc3.setNew (R := W1.heap.size) (by omega) 1 (.string S)
        have hgX := grown_setR (R := W1.heap.size) (o := 1) (v := .string S) hgA (by omega)
        have r0x : TokAt (W3.setCell ⟨W1.heap.size, 1, none⟩ (.string S)) W.heap.size 0 ⟨#[]⟩ 0 := r0a.set_other (by omega)
        have za0 := frozen_of_row W3 (W.heap.size) 0 _ 25 r0a
        have ga0 := cell_of_row W3 (W.heap.size) 0 _ 25 (0, 0) r0a
        have za1 := frozen_of_row W3 (W.heap.size) 1 _ 25 r0a
        have ga1 := cell_of_row W3 (W.heap.size) 1 _ 25 (0, 0) r0a
        have za2 := frozen_of_row W3 (W.heap.size) 2 _ 25 r0a
        have ga2 := cell_of_row W3 (W.heap.size) 2 _ 25 (0, 0) r0a
        have zb0 := frozen_of_row W3 (W1.heap.size) 0 _ 25 r1a
        have gb0 := cell_of_row W3 (W1.heap.size) 0 _ 25 (0, 0) r1a
        have zb1 := frozen_of_row W3 (W1.heap.size) 1 _ 25 r1a
        have gb1 := cell_of_row W3 (W1.heap.size) 1 _ 25 (0, 0) r1a
        have zb2 := frozen_of_row W3 (W1.heap.size) 2 _ 25 r1a
        have gb2 := cell_of_row W3 (W1.heap.size) 2 _ 25 (0, 0) r1a
        have hF := ((r0x.set0 K).set1 S).set2 p
        have f0 := cell_of_row _ W.heap.size 0 _ 25 (0, 0) hF
        have f1 := cell_of_row _ W.heap.size 1 _ 25 (0, 0) hF
        have f2 := cell_of_row _ W.heap.size 2 _ 25 (0, 0) hF
        have hcF := ((hcX.setNew (R := W.heap.size) hWC 0 (.int .i64 K)).setNew (R := W.heap.size) hWC 1 (.string S)).setNew (R := W.heap.size) hWC 2 (.int .i64 p)
        have hgF := grown_setR (R := W.heap.size) (o := 2) (v := .int .i64 p) (grown_setR (R := W.heap.size) (o := 1) (v := .string S) (grown_setR (R := W.heap.size) (o := 0) (v := .int .i64 K) hgX (Nat.le_refl _)) (Nat.le_refl _)) (Nat.le_refl _)
        go_wp2_with fail
        generalize (((W3.setCell ⟨W1.heap.size, 1, none⟩ (.string S)).setCell ⟨W.heap.size, 0, none⟩ (.int .i64 K)).setCell ⟨W.heap.size, 1, none⟩ (.string S)).setCell ⟨W.heap.size, 2, none⟩ (.int .i64 p) = wf at f0 f1 f2 hcF hgF ⊢
        refine bodyPost_ret (v := .agg #[.int .i64 K, .string S, .int .i64 p]) (by simp [results, Tryd.results27, go_sem, f0, f1, f2]) rfl ?_
        exact ⟨K, S, p, hS, rfl, hcF, hgF⟩
    · have q1 : (x == 1) = false := by simpa using h1
      by_cases h2 : x = 2
      · subst h2
        go_wp2_with fail
        refine (whole_any B C a len cap _ hc2).mono ?_
        rintro e W3 ⟨m, hm0, hm1, rfl, hc3, hg3⟩
        replace r0a := r0a.turn hg3 (by omega)
        replace r1a := r1a.turn hg3 (by omega)
        replace hgA := grown_tr hgA hg3
        have hcX := hc3.setNew (R := W1.heap.size) (by omega) 2 (.int .i64 m)
        have hgX := grown_setR (R := W1.heap.size) (o := 2) (v := .int .i64 m) hgA (by omega)
        have r0x : TokAt (W3.setCell ⟨W1.heap.size, 2, none⟩ (.int .i64 m)) W.heap.size 0 ⟨#[]⟩ 0 := r0a.set_other (by omega)
        have za0 := frozen_of_row W3 (W.heap.size) 0 _ 25 r0a
        have ga0 := cell_of_row W3 (W.heap.size) 0 _ 25 (0, 0) r0a
        have za1 := frozen_of_row W3 (W.heap.size) 1 _ 25 r0a
        have ga1 := cell_of_row W3 (W.heap.size) 1 _ 25 (0, 0) r0a
        have za2 := frozen_of_row W3 (W.heap.size) 2 _ 25 r0a
        have ga2 := cell_of_row W3 (W.heap.size) 2 _ 25 (0, 0) r0a
        have zb0 := frozen_of_row W3 (W1.heap.size) 0 _ 25 r1a
        have gb0 := cell_of_row W3 (W1.heap.size) 0 _ 25 (0, 0) r1a
        have zb1 := frozen_of_row W3 (W1.heap.size) 1 _ 25 r1a
        have gb1 := cell_of_row W3 (W1.heap.size) 1 _ 25 (0, 0) r1a
        have zb2 := frozen_of_row W3 (W1.heap.size) 2 _ 25 r1a
        have gb2 := cell_of_row W3 (W1.heap.size) 2 _ 25 (0, 0) r1a
        have hF := ((r0x.set0 K).set1 T).set2 m
        have f0 := cell_of_row _ W.heap.size 0 _ 25 (0, 0) hF
        have f1 := cell_of_row _ W.heap.size 1 _ 25 (0, 0) hF
        have f2 := cell_of_row _ W.heap.size 2 _ 25 (0, 0) hF
        have hcF := ((hcX.setNew (R := W.heap.size) hWC 0 (.int .i64 K)).setNew (R := W.heap.size) hWC 1 (.string T)).setNew (R := W.heap.size) hWC 2 (.int .i64 m)
        have hgF := grown_setR (R := W.heap.size) (o := 2) (v := .int .i64 m) (grown_setR (R := W.heap.size) (o := 1) (v := .string T) (grown_setR (R := W.heap.size) (o := 0) (v := .int .i64 K) hgX (Nat.le_refl _)) (Nat.le_refl _)) (Nat.le_refl _)
        go_wp2_with fail
        generalize (((W3.setCell ⟨W1.heap.size, 2, none⟩ (.int .i64 m)).setCell ⟨W.heap.size, 0, none⟩ (.int .i64 K)).setCell ⟨W.heap.size, 1, none⟩ (.string T)).setCell ⟨W.heap.size, 2, none⟩ (.int .i64 m) = wf at f0 f1 f2 hcF hgF ⊢
        refine bodyPost_ret (v := .agg #[.int .i64 K, .string T, .int .i64 m]) (by simp [results, Tryd.results27, go_sem, f0, f1, f2]) rfl ?_
        exact ⟨K, T, m, by omega, rfl, hcF, hgF⟩
      · have q2 : (x == 2) = false := by simpa using h2
        have hcX := hc2
        have hgX := hgA
        have r0x := r0a
        have za0 := frozen_of_row W2 (W.heap.size) 0 _ 25 r0a
        have ga0 := cell_of_row W2 (W.heap.size) 0 _ 25 (0, 0) r0a
        have za1 := frozen_of_row W2 (W.heap.size) 1 _ 25 r0a
        have ga1 := cell_of_row W2 (W.heap.size) 1 _ 25 (0, 0) r0a
        have za2 := frozen_of_row W2 (W.heap.size) 2 _ 25 r0a
        have ga2 := cell_of_row W2 (W.heap.size) 2 _ 25 (0, 0) r0a
        have zb0 := frozen_of_row W2 (W1.heap.size) 0 _ 25 r1a
        have gb0 := cell_of_row W2 (W1.heap.size) 0 _ 25 (0, 0) r1a
        have zb1 := frozen_of_row W2 (W1.heap.size) 1 _ 25 r1a
        have gb1 := cell_of_row W2 (W1.heap.size) 1 _ 25 (0, 0) r1a
        have zb2 := frozen_of_row W2 (W1.heap.size) 2 _ 25 r1a
        have gb2 := cell_of_row W2 (W1.heap.size) 2 _ 25 (0, 0) r1a
        have hF := ((r0x.set0 K).set1 T).set2 p
        have f0 := cell_of_row _ W.heap.size 0 _ 25 (0, 0) hF
        have f1 := cell_of_row _ W.heap.size 1 _ 25 (0, 0) hF
        have f2 := cell_of_row _ W.heap.size 2 _ 25 (0, 0) hF
        have hcF := ((hcX.setNew (R := W.heap.size) hWC 0 (.int .i64 K)).setNew (R := W.heap.size) hWC 1 (.string T)).setNew (R := W.heap.size) hWC 2 (.int .i64 p)
        have hgF := grown_setR (R := W.heap.size) (o := 2) (v := .int .i64 p) (grown_setR (R := W.heap.size) (o := 1) (v := .string T) (grown_setR (R := W.heap.size) (o := 0) (v := .int .i64 K) hgX (Nat.le_refl _)) (Nat.le_refl _)) (Nat.le_refl _)
        go_wp2_with fail
        generalize ((W2.setCell ⟨W.heap.size, 0, none⟩ (.int .i64 K)).setCell ⟨W.heap.size, 1, none⟩ (.string T)).setCell ⟨W.heap.size, 2, none⟩ (.int .i64 p) = wf at f0 f1 f2 hcF hgF ⊢
        refine bodyPost_ret (v := .agg #[.int .i64 K, .string T, .int .i64 p]) (by simp [results, Tryd.results27, go_sem, f0, f1, f2]) rfl ?_
        exact ⟨K, T, p, by omega, rfl, hcF, hgF⟩
end Go.Proofs.YtcadoplfgclbjaaDoor

/- Contracts of the functions that draw what the laws on spacing are asked at. -/
namespace Go.Proofs.YtcadoplfgclbjaaDoor
open Go.RowKit

theorem OwnU.lower {w : World} {B B' : Nat} {v : Value} {L : List (Int × ByteArray × Int)} (h : OwnU w B v L) (hB : B' ≤ B) : OwnU w B' v L := by
  refine ⟨h.1, ?_⟩
  rcases h.2 with hn | ⟨g, cap, cur, e, hb, rest⟩
  · exact .inl hn
  · exact .inr ⟨g, cap, cur, e, Nat.le_trans hB hb, rest⟩

/-- a list of tokens in memory that is new since block B -/
def RowsE (N M B : Nat) (W : World) (e : Ending) (W' : World) : Prop :=
  ∃ (a : Option Addr) (cp : Nat) (L : List (Int × ByteArray × Int)), L.length ≤ N ∧ Small M L ∧ e = .returned (.slice a L.length cp) ∧ TokSl W' B a L.length (uF L) ∧ Below B W W'
theorem uF_small {M : Nat} {L : List (Int × ByteArray × Int)} (h : Small M L) : ∀ j, j < L.length → (uF L j).2.1.size ≤ M := by
  intro j hj
  unfold uF
  rw [List.getElem?_eq_getElem hj]
  exact h _ (List.getElem_mem hj)

end Go.Proofs.YtcadoplfgclbjaaDoor

/- The contract of the function that draws two tokens. -/
namespace Go.Proofs.YtcadoplfgclbjaaDoor
open Go.RowKit

/-- two tokens with texts of at most M bytes -/
def TwoDrawE (M B : Nat) (W : World) (e : Ending) (W' : World) : Prop :=
  ∃ (k : Int) (t : ByteArray) (x k' : Int) (t' : ByteArray) (x' : Int), t.size ≤ M ∧ t'.size ≤ M ∧ e = .returned (.tuple #[.agg #[.int .i64 k, .string t, .int .i64 x], .agg #[.int .i64 k', .string t', .int .i64 x']]) ∧ Below B W W'
theorem RowB.wider {B B' : Nat} {a : Option Addr} {len : Nat} {W : World} (h : RowB B a len W) (hB : B ≤ B') : RowB B' a len W := by
  refine ⟨h.1, fun j hj => ?_⟩
  obtain ⟨b, off, n, e1, e2, e3, e4, e5⟩ := h.2 j hj
  exact ⟨b, off, n, e1, by omega, e3, e4, e5⟩
theorem below_set {B R o : Nat} {v : Value} {W W' : World} (h : Below B W W') (hR : B ≤ R) : Below B W (W'.setCell ⟨R, o, none⟩ v) :=
  ⟨h.os, h.tape, h.output, by simpa using h.size, fun k hk => (heap_setCell_other W' ⟨R, o, none⟩ k v (by show k ≠ R; omega)).trans (h.block k hk)⟩

set_option maxRecDepth 100000 in
set_option maxHeartbeats 4000000 in
theorem drawNeedsGap_any (B : Nat) (a : Option Addr) (len cap : Nat) (W : World) (H : RowB B a len W) (hB : B ≤ W.heap.size) :
    Calls Tryd.prog 8 #[.slice a len cap] W (TwoDrawE 41 B W) := by
  have hbA : Below W.heap.size W ((W.alloc (.cells #[.int .i64 0, .string ⟨#[]⟩, .int .i64 0] 25)).alloc (.cells #[.int .i64 0, .string ⟨#[]⟩, .int .i64 0] 25)) := ((Below.refl W.heap.size W).alloc (Nat.le_refl _) _).alloc (by simp) _
  have hA0 : TokAt ((W.alloc (.cells #[.int .i64 0, .string ⟨#[]⟩, .int .i64 0] 25)).alloc (.cells #[.int .i64 0, .string ⟨#[]⟩, .int .i64 0] 25)) W.heap.size 0 ⟨#[]⟩ 0 := tok_first W _
  have hA1 : TokAt ((W.alloc (.cells #[.int .i64 0, .string ⟨#[]⟩, .int .i64 0] 25)).alloc (.cells #[.int .i64 0, .string ⟨#[]⟩, .int .i64 0] 25)) (W.heap.size + 1) 0 ⟨#[]⟩ 0 := tok_new W _ 0 ⟨#[]⟩ 0
  have hAz : ((W.alloc (.cells #[.int .i64 0, .string ⟨#[]⟩, .int .i64 0] 25)).alloc (.cells #[.int .i64 0, .string ⟨#[]⟩, .int .i64 0] 25)).heap.size = W.heap.size + 2 := by simp
  have hAH : RowB (W.heap.size + 2) a len ((W.alloc (.cells #[.int .i64 0, .string ⟨#[]⟩, .int .i64 0] 25)).alloc (.cells #[.int .i64 0, .string ⟨#[]⟩, .int .i64 0] 25)) := (H.later (hbA.mono hB)).wider (by omega)
  go_enter Tryd.func8, Tryd.ntmps8
  go_wp2_with fail
  generalize (W.alloc (.cells #[.int .i64 0, .string ⟨#[]⟩, .int .i64 0] 25)).alloc (.cells #[.int .i64 0, .string ⟨#[]⟩, .int .i64 0] 25) = WA at hbA hA0 hA1 hAz hAH ⊢
  refine (new_any (W.heap.size + 2) a len cap _ hAH (by omega)).mono ?_
  rintro e W1 ⟨rfl, hc1, hb1⟩
  have r0 := hA0.below hb1 (by omega)
  have r1 := hA1.below hb1 (by omega)
  have hbb := (hbA.mono hB).trans (hb1.mono (by omega))
  have hz1 := hb1.size
  clear hA0 hA1 hAH hbA hb1
  rw [hAz] at hc1 hz1 ⊢
  go_wp2_with fail
  refine (once_any 2 _ (W.heap.size + 2) a len cap _ hc1 (by omega) (by omega)).mono ?_
  rintro e W2 ⟨b1, rfl, hc2, hg2⟩
  replace r0 := r0.turn hg2 (by omega)
  replace r1 := r1.turn hg2 (by omega)
  replace hbb := below_of_grown hbb hg2 (by omega) (by omega)
  have hz2 := hg2.size
  clear hg2 hc1
  cases b1
  · go_wp2_with fail
    refine (bent_any _ (W.heap.size + 2) a len cap _ hc2).mono ?_
    rintro e W3 ⟨K0, S0, p0, hS0, rfl, hc3, hg3⟩
    replace r0 := r0.turn hg3 (by omega)
    replace r1 := r1.turn hg3 (by omega)
    replace hbb := below_of_grown hbb hg3 (by omega) (by omega)
    have hz3 := hg3.size
    clear hg3 hc2
    go_wp2_with fail
    refine (bent_any _ (W.heap.size + 2) a len cap _ hc3).mono ?_
    rintro e W4 ⟨K1, S1, p1, hS1, rfl, hc4, hg4⟩
    replace r0 := r0.turn hg4 (by omega)
    replace r1 := r1.turn hg4 (by omega)
    replace hbb := below_of_grown hbb hg4 (by omega) (by omega)
    have hz4 := hg4.size
    clear hg4 hc3
    have za0 := frozen_of_row W4 (W.heap.size) 0 _ 25 r0
    have ga0 := cell_of_row W4 (W.heap.size) 0 _ 25 (0, 0) r0
    have za1 := frozen_of_row W4 (W.heap.size) 1 _ 25 r0
    have ga1 := cell_of_row W4 (W.heap.size) 1 _ 25 (0, 0) r0
    have za2 := frozen_of_row W4 (W.heap.size) 2 _ 25 r0
    have ga2 := cell_of_row W4 (W.heap.size) 2 _ 25 (0, 0) r0
    have zb0 := frozen_of_row W4 (W.heap.size + 1) 0 _ 25 r1
    have gb0 := cell_of_row W4 (W.heap.size + 1) 0 _ 25 (0, 0) r1
    have zb1 := frozen_of_row W4 (W.heap.size + 1) 1 _ 25 r1
    have gb1 := cell_of_row W4 (W.heap.size + 1) 1 _ 25 (0, 0) r1
    have zb2 := frozen_of_row W4 (W.heap.size + 1) 2 _ 25 r1
    have gb2 := cell_of_row W4 (W.heap.size + 1) 2 _ 25 (0, 0) r1
    have F0 := ((r0.set0 K0).set1 S0).set2 p0
    have F0 := ((F0.set_other (C := W.heap.size + 1) (o := 0) (v := .int .i64 K1) (by omega)).set_other (C := W.heap.size + 1) (o := 1) (v := .string S1) (by omega)).set_other (C := W.heap.size + 1) (o := 2) (v := .int .i64 p1) (by omega)
    have F1 := ((r1.set_other (C := W.heap.size) (o := 0) (v := .int .i64 K0) (by omega)).set_other (C := W.heap.size) (o := 1) (v := .string S0) (by omega)).set_other (C := W.heap.size) (o := 2) (v := .int .i64 p0) (by omega)
    have F1 := ((F1.set0 K1).set1 S1).set2 p1
    have f00 := cell_of_row _ W.heap.size 0 _ 25 (0, 0) F0
    have f01 := cell_of_row _ W.heap.size 1 _ 25 (0, 0) F0
    have f02 := cell_of_row _ W.heap.size 2 _ 25 (0, 0) F0
    have f10 := cell_of_row _ (W.heap.size + 1) 0 _ 25 (0, 0) F1
    have f11 := cell_of_row _ (W.heap.size + 1) 1 _ 25 (0, 0) F1
    have f12 := cell_of_row _ (W.heap.size + 1) 2 _ 25 (0, 0) F1
    have hbF := (below_set (R := W.heap.size + 1) (o := 2) (v := .int .i64 p1) (below_set (R := W.heap.size + 1) (o := 1) (v := .string S1) (below_set (R := W.heap.size + 1) (o := 0) (v := .int .i64 K1) (below_set (R := W.heap.size) (o := 2) (v := .int .i64 p0) (below_set (R := W.heap.size) (o := 1) (v := .string S0) (below_set (R := W.heap.size) (o := 0) (v := .int .i64 K0) hbb (by omega)) (by omega)) (by omega)) (by omega)) (by omega)) (by omega))
    go_wp2_with fail
    generalize ((((((W4.setCell ⟨W.heap.size, 0, none⟩ (.int .i64 K0)).setCell ⟨W.heap.size, 1, none⟩ (.string S0)).setCell ⟨W.heap.size, 2, none⟩ (.int .i64 p0)).setCell ⟨W.heap.size + 1, 0, none⟩ (.int .i64 K1)).setCell ⟨W.heap.size + 1, 1, none⟩ (.string S1)).setCell ⟨W.heap.size + 1, 2, none⟩ (.int .i64 p1)) = wf at f00 f01 f02 f10 f11 f12 hbF ⊢
    refine bodyPost_ret (v := .tuple #[.agg #[.int .i64 K0, .string S0, .int .i64 p0], .agg #[.int .i64 K1, .string S1, .int .i64 p1]]) (by simp [results, Tryd.results8, go_sem, f00, f01, f02, f10, f11, f12]) rfl ?_
    exact ⟨K0, S0, p0, K1, S1, p1, by omega, by omega, rfl, hbF⟩
  · go_wp2_with fail
    refine (sign_any _ (W.heap.size + 2) a len cap _ hc2).mono ?_
    rintro e W3 ⟨S0, hS0, rfl, hc3, hg3⟩
    replace r0 := r0.turn hg3 (by omega)
    replace r1 := r1.turn hg3 (by omega)
    replace hbb := below_of_grown hbb hg3 (by omega) (by omega)
    have hz3 := hg3.size
    clear hg3 hc2
    go_wp2_with fail
    refine (sign_any _ (W.heap.size + 2) a len cap _ hc3).mono ?_
    rintro e W4 ⟨S1, hS1, rfl, hc4, hg4⟩
    replace r0 := r0.turn hg4 (by omega)
    replace r1 := r1.turn hg4 (by omega)
    replace hbb := below_of_grown hbb hg4 (by omega) (by omega)
    have hz4 := hg4.size
    clear hg4 hc3
    have za0 := frozen_of_row W4 (W.heap.size) 0 _ 25 r0
    have ga0 := cell_of_row W4 (W.heap.size) 0 _ 25 (0, 0) r0
    have za1 := frozen_of_row W4 (W.heap.size) 1 _ 25 r0
    have ga1 := cell_of_row W4 (W.heap.size) 1 _ 25 (0, 0) r0
    have za2 := frozen_of_row W4 (W.heap.size) 2 _ 25 r0
    have ga2 := cell_of_row W4 (W.heap.size) 2 _ 25 (0, 0) r0
    have zb0 := frozen_of_row W4 (W.heap.size + 1) 0 _ 25 r1
    have gb0 := cell_of_row W4 (W.heap.size + 1) 0 _ 25 (0, 0) r1
    have zb1 := frozen_of_row W4 (W.heap.size + 1) 1 _ 25 r1
    have gb1 := cell_of_row W4 (W.heap.size + 1) 1 _ 25 (0, 0) r1
    have zb2 := frozen_of_row W4 (W.heap.size + 1) 2 _ 25 r1
    have gb2 := cell_of_row W4 (W.heap.size + 1) 2 _ 25 (0, 0) r1
    have F0 := ((r0.set0 5).set1 S0).set2 0
    have F0 := ((F0.set_other (C := W.heap.size + 1) (o := 0) (v := .int .i64 5) (by omega)).set_other (C := W.heap.size + 1) (o := 1) (v := .string S1) (by omega)).set_other (C := W.heap.size + 1) (o := 2) (v := .int .i64 0) (by omega)
    have F1 := ((r1.set_other (C := W.heap.size) (o := 0) (v := .int .i64 5) (by omega)).set_other (C := W.heap.size) (o := 1) (v := .string S0) (by omega)).set_other (C := W.heap.size) (o := 2) (v := .int .i64 0) (by omega)
    have F1 := ((F1.set0 5).set1 S1).set2 0
    have f00 := cell_of_row _ W.heap.size 0 _ 25 (0, 0) F0
    have f01 := cell_of_row _ W.heap.size 1 _ 25 (0, 0) F0
    have f02 := cell_of_row _ W.heap.size 2 _ 25 (0, 0) F0
    have f10 := cell_of_row _ (W.heap.size + 1) 0 _ 25 (0, 0) F1
    have f11 := cell_of_row _ (W.heap.size + 1) 1 _ 25 (0, 0) F1
    have f12 := cell_of_row _ (W.heap.size + 1) 2 _ 25 (0, 0) F1
    have hbF := (below_set (R := W.heap.size + 1) (o := 2) (v := .int .i64 0) (below_set (R := W.heap.size + 1) (o := 1) (v := .string S1) (below_set (R := W.heap.size + 1) (o := 0) (v := .int .i64 5) (below_set (R := W.heap.size) (o := 2) (v := .int .i64 0) (below_set (R := W.heap.size) (o := 1) (v := .string S0) (below_set (R := W.heap.size) (o := 0) (v := .int .i64 5) hbb (by omega)) (by omega)) (by omega)) (by omega)) (by omega)) (by omega))
    go_wp2_with fail
    generalize ((((((W4.setCell ⟨W.heap.size, 0, none⟩ (.int .i64 5)).setCell ⟨W.heap.size, 1, none⟩ (.string S0)).setCell ⟨W.heap.size, 2, none⟩ (.int .i64 0)).setCell ⟨W.heap.size + 1, 0, none⟩ (.int .i64 5)).setCell ⟨W.heap.size + 1, 1, none⟩ (.string S1)).setCell ⟨W.heap.size + 1, 2, none⟩ (.int .i64 0)) = wf at f00 f01 f02 f10 f11 f12 hbF ⊢
    refine bodyPost_ret (v := .tuple #[.agg #[.int .i64 5, .string S0, .int .i64 0], .agg #[.int .i64 5, .string S1, .int .i64 0]]) (by simp [results, Tryd.results8, go_sem, f00, f01, f02, f10, f11, f12]) rfl ?_
    exact ⟨5, S0, 0, 5, S1, 0, by omega, by omega, rfl, hbF⟩
end Go.Proofs.YtcadoplfgclbjaaDoor
