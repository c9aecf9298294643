/- Joined texts: DrawList DrawBent DrawL4 DrawGap. -/
import Derived.Test.YtcadoplfgclbjaaGreatDoorQM
import Derived.Test.YtcadoplfgclbjaaGreatDoorQL
import Derived.Test.YtcadoplfgclbjaaGreatDoorQF
import Derived.Deep.DeepMust
/- Contracts of the functions that draw lists of tokens. -/
namespace Go.Proofs.YtcadoplfgclbjaaGreatDoor
open Go.RowKit

theorem OwnU.turn {Bo C : Nat} {v : Value} {L : List (Int × ByteArray × Int)} {W W' : World} (H : OwnU W Bo v L) (g : W.grownBy W' (some C)) (hC : C < Bo) : OwnU W' Bo v L :=
  World.ownsRow.kept H g (by
    rcases h : v.ownBlock with _ | k
    · exact .inl rfl
    · refine .inr fun e => ?_
      have := (World.ownsRow.lt H k h).1
      simp at e; omega)
/-- all texts are of at most M bytes -/
def Small (M : Nat) (L : List (Int × ByteArray × Int)) : Prop := ∀ x ∈ L, x.2.1.size ≤ M
theorem Small.snoc {M : Nat} {L : List (Int × ByteArray × Int)} {k : Int} {t : ByteArray} {p : Int} (h : Small M L) (ht : t.size ≤ M) : Small M (L ++ [(k, t, p)]) := by
  intro x hx
  rcases List.mem_append.1 hx with hx | hx
  · exact h x hx
  · rcases List.mem_cons.1 hx with rfl | hx
    · exact ht
    · cases hx
theorem Small.mono {M M' : Nat} {L : List (Int × ByteArray × Int)} (h : Small M L) (hM : M ≤ M') : Small M' L := fun x hx => Nat.le_trans (h x hx) hM

/-- some list of tokens, of at most N, their texts of at most M bytes, in memory of the call's own -/
def ListDrawE (N M : Nat) (B C : Nat) (a : Option Addr) (len cap : Nat) (W : World) (e : Ending) (W' : World) : Prop :=
  ∃ (g cp : Nat) (L : List (Int × ByteArray × Int)), L.length ≤ N ∧ Small M L ∧ e = .returned (.slice (some ⟨g, 0, none⟩) L.length cp) ∧ OwnU W' W.heap.size (.slice (some ⟨g, 0, none⟩) L.length cp) L ∧ Cur B C a len cap W' ∧ W.grownBy W' (some C)

set_option maxRecDepth 100000 in
set_option maxHeartbeats 2000000 in
theorem list_any (N : Nat) (hN : N ≤ 1000) (B C : Nat) (a : Option Addr) (len cap : Nat) (W : World) (H : Cur B C a len cap W) :
    Calls Tryz.prog 26 #[.pointer (some ⟨C, 0, none⟩), .int .i64 (N : Int)] W (ListDrawE N 24 B C a len cap W) := by
  have hWC := H.lt
  have hBC := H.1
  go_enter Tryz.func26, Tryz.ntmps26
  go_wp2_with fail
  go_loopw [5, 6] (fun v i wr => ∃ (g cp : Nat) (L : List (Int × ByteArray × Int)), L.length ≤ N ∧ i = .int .i64 (L.length : Int) ∧ v = .slice (some ⟨g, 0, none⟩) L.length cp ∧ Hid (Small 24 L) ∧ OwnU wr W.heap.size (.slice (some ⟨g, 0, none⟩) L.length cp) L ∧ Cur B C a len cap wr ∧ W.grownBy wr (some C)) (fun _ i _ => N - (intOf i).toNat)
  case atStart => exact ⟨W.heap.size, 0, [], by simp, rfl, rfl, (fun x hx => by cases hx), World.ownsRow_lit W #[] 0 (Nat.le_refl _) (by unfold maxLen; omega) rfl, H.alloc _, grown_alloc W _ _⟩
  case round =>
    obtain ⟨g, cp, L, hk, rfl, rfl, HS, hown, hcur, hgr⟩ := hrel
    by_cases hlt : L.length < N
    · have hlt2 : (L.length : Int) < (N : Int) := by omega
      go_wp2_with fail
      refine (token_any B C a len cap _ hcur).mono ?_
      rintro e w1 ⟨K, T, p, hT, rfl, hc1, hg1⟩
      have hown1 := hown.turn hg1 hWC
      have hgr1 := grown_tr hgr hg1
      have hz1 := hgr1.size
      have HS2 : Hid (Small 24 (L ++ [(K, T, p)])) := HS.out.snoc hT
      go_wp2_with (at_builtin; go_must (refine appU rfl (.tmp 13) (.tmp 16) rfl W.heap.size (.slice (some ⟨g, 0, none⟩) L.length cp) L K T p w1 w1.heap.size rfl rfl rfl hown1 (by omega) (by omega) ?_); intro g3 c3 w3 hown3 hbel3)
      go_roundw
      case rel => exact ⟨g3, c3, L ++ [(K, T, p)], by rw [List.length_append]; show L.length + 1 ≤ N; omega, by rw [List.length_append]; go_num, by rw [List.length_append]; rfl, HS2, by have h := hown3; rw [List.length_append]; exact h, hc1.below hbel3 hWC, grown_below hgr1 hbel3⟩
      case measure => simp [intOf]; omega
    · have hge : ¬ (L.length : Int) < (N : Int) := by omega
      go_wp2_with fail
      go_ret
      exact ⟨g, cp, L, by omega, HS.out, rfl, hown, hcur, hgr⟩
end Go.Proofs.YtcadoplfgclbjaaGreatDoor

/- The contract of the function that draws a token that may be bent. -/
namespace Go.Proofs.YtcadoplfgclbjaaGreatDoor
open Go.RowKit

theorem grown_setR {W W' : World} {C : Nat} {R o : Nat} {v : Value} (h : W.grownBy W' (some C)) (hR : W.heap.size ≤ R) : W.grownBy (W'.setCell ⟨R, o, none⟩ v) (some C) :=
  ⟨h.os, h.tape, h.output, by simpa using h.size, fun k hk hr => (heap_setCell_other W' ⟨R, o, none⟩ k v (by show k ≠ R; omega)).trans (h.block k hk hr)⟩
theorem TokAt.turn {W W' : World} {R C : Nat} {k : Int} {t : ByteArray} {a : Int} (H : TokAt W R k t a) (g : W.grownBy W' (some C)) (hR : R ≠ C) : TokAt W' R k t a :=
  (g.block R (Array.getElem?_eq_some_iff.1 H).1 (fun e => hR (by simpa using e))).trans H

set_option maxRecDepth 100000 in
set_option maxHeartbeats 4000000 in
theorem bent_any (B C : Nat) (a : Option Addr) (len cap : Nat) (W : World) (H : Cur B C a len cap W) :
    Calls Tryz.prog 29 #[.pointer (some ⟨C, 0, none⟩)] W (TokDrawE 41 B C a len cap W) := by
  have hWC := H.lt
  have hg0 : TokAt (W.alloc (.cells #[.int .i64 0, .string ⟨#[]⟩, .int .i64 0] 40)) W.heap.size 0 ⟨#[]⟩ 0 := heap_alloc_new W _
  go_enter Tryz.func29, Tryz.ntmps29
  go_wp2_with fail
  refine (token_any B C a len cap _ (H.alloc _)).mono ?_
  rintro e W1 ⟨K, T, p, hT, rfl, hc1, hg1⟩
  have hW1 := hg1.size
  have hW1' : W.heap.size + 1 ≤ W1.heap.size := by simpa using hW1
  have r0 := hg0.turn hg1 (by omega)
  have r0a : TokAt (W1.alloc (.cells #[.int .i64 K, .string T, .int .i64 p] 40)) W.heap.size 0 ⟨#[]⟩ 0 := (Below.heap_alloc W1 _ W.heap.size (by omega)).trans r0
  have r1a : TokAt (W1.alloc (.cells #[.int .i64 K, .string T, .int .i64 p] 40)) W1.heap.size K T p := heap_alloc_new W1 _
  have hgA := grown_tr (grown_tr (grown_alloc W (.cells #[.int .i64 0, .string ⟨#[]⟩, .int .i64 0] 40) (some C)) hg1) (grown_alloc W1 (.cells #[.int .i64 K, .string T, .int .i64 p] 40) (some C))
  have hcA := hc1.alloc (.cells #[.int .i64 K, .string T, .int .i64 p] 40)
  go_wp2_with fail
  refine (below_any 10 B C a len cap _ hcA (by omega) (by omega)).mono ?_
  rintro e W2 ⟨x, hx0, hx1, rfl, hc2, hg2⟩
  replace r0a := r0a.turn hg2 (by omega)
  replace r1a := r1a.turn hg2 (by omega)
  replace hgA := grown_tr hgA hg2
  clear hg0 r0 hg1 hg2 hcA hc1 hW1
  by_cases h0 : x = 0
  · subst h0
    go_wp2_with fail
    refine (below_any 7 B C a len cap _ hc2 (by omega) (by omega)).mono ?_
    rintro e W3 ⟨m, hm0, hm1, rfl, hc3, hg3⟩
    replace r0a := r0a.turn hg3 (by omega)
    replace r1a := r1a.turn hg3 (by omega)
    replace hgA := grown_tr hgA hg3
    have hcX := hc3.setNew (R := W1.heap.size) (by omega) 0 (.int .i64 m)
    have hgX := grown_setR (R := W1.heap.size) (o := 0) (v := .int .i64 m) hgA (by omega)
    have r0x : TokAt (W3.setCell ⟨W1.heap.size, 0, none⟩ (.int .i64 m)) W.heap.size 0 ⟨#[]⟩ 0 := r0a.set_other (by omega)
    have za0 := frozen_of_row W3 (W.heap.size) 0 _ 40 r0a
    have ga0 := cell_of_row W3 (W.heap.size) 0 _ 40 (0, 0) r0a
    have za1 := frozen_of_row W3 (W.heap.size) 1 _ 40 r0a
    have ga1 := cell_of_row W3 (W.heap.size) 1 _ 40 (0, 0) r0a
    have za2 := frozen_of_row W3 (W.heap.size) 2 _ 40 r0a
    have ga2 := cell_of_row W3 (W.heap.size) 2 _ 40 (0, 0) r0a
    have zb0 := frozen_of_row W3 (W1.heap.size) 0 _ 40 r1a
    have gb0 := cell_of_row W3 (W1.heap.size) 0 _ 40 (0, 0) r1a
    have zb1 := frozen_of_row W3 (W1.heap.size) 1 _ 40 r1a
    have gb1 := cell_of_row W3 (W1.heap.size) 1 _ 40 (0, 0) r1a
    have zb2 := frozen_of_row W3 (W1.heap.size) 2 _ 40 r1a
    have gb2 := cell_of_row W3 (W1.heap.size) 2 _ 40 (0, 0) r1a
    have hF := ((r0x.set0 m).set1 T).set2 p
    have f0 := cell_of_row _ W.heap.size 0 _ 40 (0, 0) hF
    have f1 := cell_of_row _ W.heap.size 1 _ 40 (0, 0) hF
    have f2 := cell_of_row _ W.heap.size 2 _ 40 (0, 0) hF
    have hcF := ((hcX.setNew (R := W.heap.size) hWC 0 (.int .i64 m)).setNew (R := W.heap.size) hWC 1 (.string T)).setNew (R := W.heap.size) hWC 2 (.int .i64 p)
    have hgF := grown_setR (R := W.heap.size) (o := 2) (v := .int .i64 p) (grown_setR (R := W.heap.size) (o := 1) (v := .string T) (grown_setR (R := W.heap.size) (o := 0) (v := .int .i64 m) hgX (Nat.le_refl _)) (Nat.le_refl _)) (Nat.le_refl _)
    go_wp2_with fail
    generalize (((W3.setCell ⟨W1.heap.size, 0, none⟩ (.int .i64 m)).setCell ⟨W.heap.size, 0, none⟩ (.int .i64 m)).setCell ⟨W.heap.size, 1, none⟩ (.string T)).setCell ⟨W.heap.size, 2, none⟩ (.int .i64 p) = wf at f0 f1 f2 hcF hgF ⊢
    refine bodyPost_ret (v := .agg #[.int .i64 m, .string T, .int .i64 p]) (by simp [results, Tryz.results29, go_sem, f0, f1, f2]) rfl ?_
    exact ⟨m, T, p, by omega, rfl, hcF, hgF⟩
  · have q0 : (x == 0) = false := by simpa using h0
    by_cases h1 : x = 1
    · subst h1
      have hW2 := r1a
      have hz2 : W1.heap.size < W2.heap.size := (Array.getElem?_eq_some_iff.1 r1a).1
      clear hW2
      go_wp2_with fail
      refine (pick_any 41 W2.heap.size 9 B C a len cap _ (hc2.alloc _) (by omega) (by omega) (by simp) (by have := hc2.lt; omega) ?_).mono ?_
      · intro j hj
        rw [cell_of_row _ W2.heap.size j _ 9 (0, 0) (heap_alloc_new W2 _)]
        rcases (show j = 0 ∨ j = 1 ∨ j = 2 ∨ j = 3 ∨ j = 4 ∨ j = 5 ∨ j = 6 ∨ j = 7 ∨ j = 8 by omega) with rfl | rfl | rfl | rfl | rfl | rfl | rfl | rfl | rfl <;> exact ⟨_, by decide, rfl⟩
      · rintro e W3 ⟨S, hS, rfl, hc3, hg3'⟩
        have hg3 := grown_tr (grown_alloc W2 _ (some C)) hg3'
        clear hg3'
        replace r0a := r0a.turn hg3 (by omega)
        replace r1a := r1a.turn hg3 (by omega)
        replace hgA := grown_tr hgA hg3
        have hcX := hc3.setNew (R := W1.heap.size) (by omega) 1 (.string S)
        have hgX := grown_setR (R := W1.heap.size) (o := 1) (v := .string S) hgA (by omega)
        have r0x : TokAt (W3.setCell ⟨W1.heap.size, 1, none⟩ (.string S)) W.heap.size 0 ⟨#[]⟩ 0 := r0a.set_other (by omega)
        have za0 := frozen_of_row W3 (W.heap.size) 0 _ 40 r0a
        have ga0 := cell_of_row W3 (W.heap.size) 0 _ 40 (0, 0) r0a
        have za1 := frozen_of_row W3 (W.heap.size) 1 _ 40 r0a
        have ga1 := cell_of_row W3 (W.heap.size) 1 _ 40 (0, 0) r0a
        have za2 := frozen_of_row W3 (W.heap.size) 2 _ 40 r0a
        have ga2 := cell_of_row W3 (W.heap.size) 2 _ 40 (0, 0) r0a
        have zb0 := frozen_of_row W3 (W1.heap.size) 0 _ 40 r1a
        have gb0 := cell_of_row W3 (W1.heap.size) 0 _ 40 (0, 0) r1a
        have zb1 := frozen_of_row W3 (W1.heap.size) 1 _ 40 r1a
        have gb1 := cell_of_row W3 (W1.heap.size) 1 _ 40 (0, 0) r1a
        have zb2 := frozen_of_row W3 (W1.heap.size) 2 _ 40 r1a
        have gb2 := cell_of_row W3 (W1.heap.size) 2 _ 40 (0, 0) r1a
        have hF := ((r0x.set0 K).set1 S).set2 p
        have f0 := cell_of_row _ W.heap.size 0 _ 40 (0, 0) hF
        have f1 := cell_of_row _ W.heap.size 1 _ 40 (0, 0) hF
        have f2 := cell_of_row _ W.heap.size 2 _ 40 (0, 0) hF
        have hcF := ((hcX.setNew (R := W.heap.size) hWC 0 (.int .i64 K)).setNew (R := W.heap.size) hWC 1 (.string S)).setNew (R := W.heap.size) hWC 2 (.int .i64 p)
        have hgF := grown_setR (R := W.heap.size) (o := 2) (v := .int .i64 p) (grown_setR (R := W.heap.size) (o := 1) (v := .string S) (grown_setR (R := W.heap.size) (o := 0) (v := .int .i64 K) hgX (Nat.le_refl _)) (Nat.le_refl _)) (Nat.le_refl _)
        go_wp2_with fail
        generalize (((W3.setCell ⟨W1.heap.size, 1, none⟩ (.string S)).setCell ⟨W.heap.size, 0, none⟩ (.int .i64 K)).setCell ⟨W.heap.size, 1, none⟩ (.string S)).setCell ⟨W.heap.size, 2, none⟩ (.int .i64 p) = wf at f0 f1 f2 hcF hgF ⊢
        refine bodyPost_ret (v := .agg #[.int .i64 K, .string S, .int .i64 p]) (by simp [results, Tryz.results29, go_sem, f0, f1, f2]) rfl ?_
        exact ⟨K, S, p, hS, rfl, hcF, hgF⟩
    · have q1 : (x == 1) = false := by simpa using h1
      by_cases h2 : x = 2
      · subst h2
        go_wp2_with fail
        refine (whole_any B C a len cap _ hc2).mono ?_
        rintro e W3 ⟨m, hm0, hm1, rfl, hc3, hg3⟩
        replace r0a := r0a.turn hg3 (by omega)
        replace r1a := r1a.turn hg3 (by omega)
        replace hgA := grown_tr hgA hg3
        have hcX := hc3.setNew (R := W1.heap.size) (by omega) 2 (.int .i64 m)
        have hgX := grown_setR (R := W1.heap.size) (o := 2) (v := .int .i64 m) hgA (by omega)
        have r0x : TokAt (W3.setCell ⟨W1.heap.size, 2, none⟩ (.int .i64 m)) W.heap.size 0 ⟨#[]⟩ 0 := r0a.set_other (by omega)
        have za0 := frozen_of_row W3 (W.heap.size) 0 _ 40 r0a
        have ga0 := cell_of_row W3 (W.heap.size) 0 _ 40 (0, 0) r0a
        have za1 := frozen_of_row W3 (W.heap.size) 1 _ 40 r0a
        have ga1 := cell_of_row W3 (W.heap.size) 1 _ 40 (0, 0) r0a
        have za2 := frozen_of_row W3 (W.heap.size) 2 _ 40 r0a
        have ga2 := cell_of_row W3 (W.heap.size) 2 _ 40 (0, 0) r0a
        have zb0 := frozen_of_row W3 (W1.heap.size) 0 _ 40 r1a
        have gb0 := cell_of_row W3 (W1.heap.size) 0 _ 40 (0, 0) r1a
        have zb1 := frozen_of_row W3 (W1.heap.size) 1 _ 40 r1a
        have gb1 := cell_of_row W3 (W1.heap.size) 1 _ 40 (0, 0) r1a
        have zb2 := frozen_of_row W3 (W1.heap.size) 2 _ 40 r1a
        have gb2 := cell_of_row W3 (W1.heap.size) 2 _ 40 (0, 0) r1a
        have hF := ((r0x.set0 K).set1 T).set2 m
        have f0 := cell_of_row _ W.heap.size 0 _ 40 (0, 0) hF
        have f1 := cell_of_row _ W.heap.size 1 _ 40 (0, 0) hF
        have f2 := cell_of_row _ W.heap.size 2 _ 40 (0, 0) hF
        have hcF := ((hcX.setNew (R := W.heap.size) hWC 0 (.int .i64 K)).setNew (R := W.heap.size) hWC 1 (.string T)).setNew (R := W.heap.size) hWC 2 (.int .i64 m)
        have hgF := grown_setR (R := W.heap.size) (o := 2) (v := .int .i64 m) (grown_setR (R := W.heap.size) (o := 1) (v := .string T) (grown_setR (R := W.heap.size) (o := 0) (v := .int .i64 K) hgX (Nat.le_refl _)) (Nat.le_refl _)) (Nat.le_refl _)
        go_wp2_with fail
        generalize (((W3.setCell ⟨W1.heap.size, 2, none⟩ (.int .i64 m)).setCell ⟨W.heap.size, 0, none⟩ (.int .i64 K)).setCell ⟨W.heap.size, 1, none⟩ (.string T)).setCell ⟨W.heap.size, 2, none⟩ (.int .i64 m) = wf at f0 f1 f2 hcF hgF ⊢
        refine bodyPost_ret (v := .agg #[.int .i64 K, .string T, .int .i64 m]) (by simp [results, Tryz.results29, go_sem, f0, f1, f2]) rfl ?_
        exact ⟨K, T, m, by omega, rfl, hcF, hgF⟩
      · have q2 : (x == 2) = false := by simpa using h2
        have hcX := hc2
        have hgX := hgA
        have r0x := r0a
        have za0 := frozen_of_row W2 (W.heap.size) 0 _ 40 r0a
        have ga0 := cell_of_row W2 (W.heap.size) 0 _ 40 (0, 0) r0a
        have za1 := frozen_of_row W2 (W.heap.size) 1 _ 40 r0a
        have ga1 := cell_of_row W2 (W.heap.size) 1 _ 40 (0, 0) r0a
        have za2 := frozen_of_row W2 (W.heap.size) 2 _ 40 r0a
        have ga2 := cell_of_row W2 (W.heap.size) 2 _ 40 (0, 0) r0a
        have zb0 := frozen_of_row W2 (W1.heap.size) 0 _ 40 r1a
        have gb0 := cell_of_row W2 (W1.heap.size) 0 _ 40 (0, 0) r1a
        have zb1 := frozen_of_row W2 (W1.heap.size) 1 _ 40 r1a
        have gb1 := cell_of_row W2 (W1.heap.size) 1 _ 40 (0, 0) r1a
        have zb2 := frozen_of_row W2 (W1.heap.size) 2 _ 40 r1a
        have gb2 := cell_of_row W2 (W1.heap.size) 2 _ 40 (0, 0) r1a
        have hF := ((r0x.set0 K).set1 T).set2 p
        have f0 := cell_of_row _ W.heap.size 0 _ 40 (0, 0) hF
        have f1 := cell_of_row _ W.heap.size 1 _ 40 (0, 0) hF
        have f2 := cell_of_row _ W.heap.size 2 _ 40 (0, 0) hF
        have hcF := ((hcX.setNew (R := W.heap.size) hWC 0 (.int .i64 K)).setNew (R := W.heap.size) hWC 1 (.string T)).setNew (R := W.heap.size) hWC 2 (.int .i64 p)
        have hgF := grown_setR (R := W.heap.size) (o := 2) (v := .int .i64 p) (grown_setR (R := W.heap.size) (o := 1) (v := .string T) (grown_setR (R := W.heap.size) (o := 0) (v := .int .i64 K) hgX (Nat.le_refl _)) (Nat.le_refl _)) (Nat.le_refl _)
        go_wp2_with fail
        generalize ((W2.setCell ⟨W.heap.size, 0, none⟩ (.int .i64 K)).setCell ⟨W.heap.size, 1, none⟩ (.string T)).setCell ⟨W.heap.size, 2, none⟩ (.int .i64 p) = wf at f0 f1 f2 hcF hgF ⊢
        refine bodyPost_ret (v := .agg #[.int .i64 K, .string T, .int .i64 p]) (by simp [results, Tryz.results29, go_sem, f0, f1, f2]) rfl ?_
        exact ⟨K, T, p, by omega, rfl, hcF, hgF⟩
end Go.Proofs.YtcadoplfgclbjaaGreatDoor

/- Contracts of the functions that draw what the laws on spacing are asked at. -/
namespace Go.Proofs.YtcadoplfgclbjaaGreatDoor
open Go.RowKit

theorem OwnU.lower {w : World} {B B' : Nat} {v : Value} {L : List (Int × ByteArray × Int)} (h : OwnU w B v L) (hB : B' ≤ B) : OwnU w B' v L := by
  refine ⟨h.1, ?_⟩
  rcases h.2 with hn | ⟨g, cap, cur, e, hb, rest⟩
  · exact .inl hn
  · exact .inr ⟨g, cap, cur, e, Nat.le_trans hB hb, rest⟩

set_option maxRecDepth 100000 in
set_option maxHeartbeats 4000000 in
theorem list4_any (B C : Nat) (a : Option Addr) (len cap : Nat) (W : World) (H : Cur B C a len cap W) :
    Calls Tryz.prog 16 #[.pointer (some ⟨C, 0, none⟩)] W (ListDrawE 60 41 B C a len cap W) := by
  have hWC := H.lt
  have hBC := H.1
  go_enter Tryz.func16, Tryz.ntmps16
  go_wp2_with fail
  refine (below_any 9 B C a len cap _ H (by omega) (by omega)).mono ?_
  rintro e W1 ⟨x, hx0, hx1, rfl, hc1, hg1⟩
  obtain ⟨N, rfl⟩ := Int.eq_ofNat_of_zero_le hx0
  go_wp2_with fail
  refine (list_any N (by omega) B C a len cap _ hc1).mono ?_
  rintro e W2 ⟨g, cp, L, hL, hS, rfl, hown0, hc2, hg2⟩
  have hsz1 := hg1.size
  have hgr2 := grown_tr hg1 hg2
  have hown : OwnU W2 W.heap.size (.slice (some ⟨g, 0, none⟩) L.length cp) L := hown0.lower hsz1
  have HS : Hid (Small 41 L) := hS.mono (by omega)
  have hL9 : L.length ≤ 9 := by omega
  clear hS hown0 hg2 hg1 hL
  go_wp2_with fail
  refine (once_any 10 B C a len cap _ hc2 (by omega) (by omega)).mono ?_
  rintro e W3 ⟨b1, rfl, hc3, hg3⟩
  have hgr3 := grown_tr hgr2 hg3
  have hown3 := hown.turn hg3 hWC
  clear hown hgr2 hg3 hc2
  cases b1
  · go_wp2_with fail
    refine (once_any 60 B C a len cap _ hc3 (by omega) (by omega)).mono ?_
    rintro e W5 ⟨b2, rfl, hc9, hg5⟩
    have hgr9 := grown_tr hgr3 hg5
    have hown9 := hown3.turn hg5 hWC
    clear hown3 hgr3 hg5 hc3
    cases b2
    · go_wp2_with fail
      go_ret
      exact ⟨g, cp, L, by omega, HS.out, rfl, hown9, hc9, hgr9⟩
    · go_wp2_with fail
      go_loopw [3, 4] (fun v i wr => ∃ (k g cp : Nat) (L : List (Int × ByteArray × Int)), k ≤ 49 ∧ L.length ≤ 10 + k ∧ i = .int .i64 (k : Int) ∧ v = .slice (some ⟨g, 0, none⟩) L.length cp ∧ Hid (Small 41 L) ∧ OwnU wr W.heap.size (.slice (some ⟨g, 0, none⟩) L.length cp) L ∧ Cur B C a len cap wr ∧ W.grownBy wr (some C)) (fun _ i _ => 49 - (intOf i).toNat)
      case atStart => exact ⟨0, g, cp, L, by omega, by omega, rfl, rfl, HS, hown9, hc9, hgr9⟩
      case round =>
        obtain ⟨k, g6, cp6, L6, hk, hk6, rfl, rfl, HS6, hown6, hc6, hgr6⟩ := hrel
        by_cases hlt : k < 49
        · have hlt2 : (k : Int) < 49 := by omega
          have dk : decide ((k : Int) < 49) = true := by simp; omega
          have hz6 := hgr6.size
          have HS7 : Hid (Small 41 (L6 ++ [(4, ⟨#[49, 50, 51, 52, 53, 54, 55, 56, 57, 48, 49, 50, 51, 52, 53, 54, 55, 56, 57, 48, 49, 50, 51, 52, 53, 54, 55, 56, 57, 48, 49, 50, 51, 52, 53, 54, 55, 56, 57, 48]⟩, 0)])) := HS6.out.snoc (by decide)
          go_wp2_with (at_builtin; go_must (refine appU rfl (.tmp 22) (.tmp 24) rfl W.heap.size (.slice (some ⟨g6, 0, none⟩) L6.length cp6) L6 4 ⟨#[49, 50, 51, 52, 53, 54, 55, 56, 57, 48, 49, 50, 51, 52, 53, 54, 55, 56, 57, 48, 49, 50, 51, 52, 53, 54, 55, 56, 57, 48, 49, 50, 51, 52, 53, 54, 55, 56, 57, 48]⟩ 0 wr wr.heap.size rfl rfl rfl hown6 (by omega) (by omega) ?_); intro g7 c7 w7 hown7 hbel7)
          go_roundw
          case rel => exact ⟨k + 1, g7, c7, L6 ++ [(4, ⟨#[49, 50, 51, 52, 53, 54, 55, 56, 57, 48, 49, 50, 51, 52, 53, 54, 55, 56, 57, 48, 49, 50, 51, 52, 53, 54, 55, 56, 57, 48, 49, 50, 51, 52, 53, 54, 55, 56, 57, 48]⟩, 0)], by omega, by rw [List.length_append]; show L6.length + 1 ≤ 10 + (k + 1); omega, by go_num, by rw [List.length_append]; rfl, HS7, by have h := hown7; rw [List.length_append]; exact h, hc6.below hbel7 hWC, grown_below hgr6 hbel7⟩
          case measure => simp [intOf]; omega
        · have dk : decide ((k : Int) < 49) = false := by simp; omega
          go_wp2_with fail
          go_ret
          exact ⟨g6, cp6, L6, by omega, HS6.out, rfl, hown6, hc6, hgr6⟩
  · go_wp2_with fail
    refine (bent_any B C a len cap _ hc3).mono ?_
    rintro e W4 ⟨K, T, p, hT, rfl, hc4, hg4⟩
    have hgr4 := grown_tr hgr3 hg4
    have hown4 := hown3.turn hg4 hWC
    have hz4 := hgr4.size
    have HS4 : Hid (Small 41 (L ++ [(K, T, p)])) := HS.out.snoc hT
    clear hown3 hgr3 hg4 hc3
    go_wp2_with (at_builtin; go_must (refine appU rfl (.tmp 11) (.tmp 14) rfl W.heap.size (.slice (some ⟨g, 0, none⟩) L.length cp) L K T p W4 W4.heap.size rfl rfl rfl hown4 (by omega) (by omega) ?_); intro g5 c5 w5 hown5' hbel5)
    have hc5' := hc4.below hbel5 hWC
    have hgr5' := grown_below hgr4 hbel5
    have hlen : (L ++ [(K, T, p)]).length = L.length + 1 := by rw [List.length_append]; rfl
    have hown5 : OwnU w5 W.heap.size (.slice (some ⟨g5, 0, none⟩) (L ++ [(K, T, p)]).length c5) (L ++ [(K, T, p)]) := by rw [hlen]; exact hown5'
    rw [← hlen]
    have hL10 : (L ++ [(K, T, p)]).length ≤ 10 := by omega
    clear hown5' hgr4 hbel5 hc4 hown4 hlen
    generalize L ++ [(K, T, p)] = L2 at hown5 HS4 hL10 ⊢
    go_wp2_with fail
    refine (once_any 60 B C a len cap _ hc5' (by omega) (by omega)).mono ?_
    rintro e W5 ⟨b2, rfl, hc9, hg5⟩
    have hgr9 := grown_tr hgr5' hg5
    have hown9 := hown5.turn hg5 hWC
    clear hown5 hgr5' hg5 hc5'
    cases b2
    · go_wp2_with fail
      go_ret
      exact ⟨g5, c5, L2, by omega, HS4.out, rfl, hown9, hc9, hgr9⟩
    · go_wp2_with fail
      go_loopw [3, 4] (fun v i wr => ∃ (k g cp : Nat) (L : List (Int × ByteArray × Int)), k ≤ 49 ∧ L.length ≤ 10 + k ∧ i = .int .i64 (k : Int) ∧ v = .slice (some ⟨g, 0, none⟩) L.length cp ∧ Hid (Small 41 L) ∧ OwnU wr W.heap.size (.slice (some ⟨g, 0, none⟩) L.length cp) L ∧ Cur B C a len cap wr ∧ W.grownBy wr (some C)) (fun _ i _ => 49 - (intOf i).toNat)
      case atStart => exact ⟨0, g5, c5, L2, by omega, by omega, rfl, rfl, HS4, hown9, hc9, hgr9⟩
      case round =>
        obtain ⟨k, g6, cp6, L6, hk, hk6, rfl, rfl, HS6, hown6, hc6, hgr6⟩ := hrel
        by_cases hlt : k < 49
        · have hlt2 : (k : Int) < 49 := by omega
          have dk : decide ((k : Int) < 49) = true := by simp; omega
          have hz6 := hgr6.size
          have HS7 : Hid (Small 41 (L6 ++ [(4, ⟨#[49, 50, 51, 52, 53, 54, 55, 56, 57, 48, 49, 50, 51, 52, 53, 54, 55, 56, 57, 48, 49, 50, 51, 52, 53, 54, 55, 56, 57, 48, 49, 50, 51, 52, 53, 54, 55, 56, 57, 48]⟩, 0)])) := HS6.out.snoc (by decide)
          go_wp2_with (at_builtin; go_must (refine appU rfl (.tmp 22) (.tmp 24) rfl W.heap.size (.slice (some ⟨g6, 0, none⟩) L6.length cp6) L6 4 ⟨#[49, 50, 51, 52, 53, 54, 55, 56, 57, 48, 49, 50, 51, 52, 53, 54, 55, 56, 57, 48, 49, 50, 51, 52, 53, 54, 55, 56, 57, 48, 49, 50, 51, 52, 53, 54, 55, 56, 57, 48]⟩ 0 wr wr.heap.size rfl rfl rfl hown6 (by omega) (by omega) ?_); intro g7 c7 w7 hown7 hbel7)
          go_roundw
          case rel => exact ⟨k + 1, g7, c7, L6 ++ [(4, ⟨#[49, 50, 51, 52, 53, 54, 55, 56, 57, 48, 49, 50, 51, 52, 53, 54, 55, 56, 57, 48, 49, 50, 51, 52, 53, 54, 55, 56, 57, 48, 49, 50, 51, 52, 53, 54, 55, 56, 57, 48]⟩, 0)], by omega, by rw [List.length_append]; show L6.length + 1 ≤ 10 + (k + 1); omega, by go_num, by rw [List.length_append]; rfl, HS7, by have h := hown7; rw [List.length_append]; exact h, hc6.below hbel7 hWC, grown_below hgr6 hbel7⟩
          case measure => simp [intOf]; omega
        · have dk : decide ((k : Int) < 49) = false := by simp; omega
          go_wp2_with fail
          go_ret
          exact ⟨g6, cp6, L6, by omega, HS6.out, rfl, hown6, hc6, hgr6⟩

/-- a list of tokens in memory that is new since block B -/
def RowsE (N M B : Nat) (W : World) (e : Ending) (W' : World) : Prop :=
  ∃ (a : Option Addr) (cp : Nat) (L : List (Int × ByteArray × Int)), L.length ≤ N ∧ Small M L ∧ e = .returned (.slice a L.length cp) ∧ TokSl W' B a L.length (uF L) ∧ Below B W W'
theorem uF_small {M : Nat} {L : List (Int × ByteArray × Int)} (h : Small M L) : ∀ j, j < L.length → (uF L j).2.1.size ≤ M := by
  intro j hj
  unfold uF
  rw [List.getElem?_eq_getElem hj]
  exact h _ (List.getElem_mem hj)

set_option maxRecDepth 100000 in
set_option maxHeartbeats 400000 in
theorem drawSpaced_any (B : Nat) (a : Option Addr) (len cap : Nat) (W : World) (H : RowB B a len W) (hB : B ≤ W.heap.size) :
    Calls Tryz.prog 6 #[.slice a len cap] W (RowsE 60 41 B W) := by
  go_enter Tryz.func6, Tryz.ntmps6
  go_wp2_with fail
  refine (new_any B a len cap _ H hB).mono ?_
  rintro e W1 ⟨rfl, hc, hb⟩
  have hz := hb.size
  go_wp2_with fail
  refine (list4_any B W.heap.size a len cap _ hc).mono ?_
  rintro e W2 ⟨g, cp, L, hL, hS, rfl, hown, hc2, hg2⟩
  have hbb := below_of_grown hb hg2 hB (by omega)
  obtain ⟨a2, cp2, e2, hrow, -⟩ := hown.row
  have hrow2 : TokSl W2 B a2 L.length (uF L) := fun j hj => by
    obtain ⟨g, e1, e3, e4⟩ := hrow j hj
    exact ⟨g, e1, by omega, e4⟩
  go_wp2_with fail
  go_ret
  exact ⟨_, _, L, hL, hS, rfl, hrow2, hbb⟩

end Go.Proofs.YtcadoplfgclbjaaGreatDoor

/- The contract of the function that draws two tokens. -/
namespace Go.Proofs.YtcadoplfgclbjaaGreatDoor
open Go.RowKit

/-- two tokens with texts of at most M bytes -/
def TwoDrawE (M B : Nat) (W : World) (e : Ending) (W' : World) : Prop :=
  ∃ (k : Int) (t : ByteArray) (x k' : Int) (t' : ByteArray) (x' : Int), t.size ≤ M ∧ t'.size ≤ M ∧ e = .returned (.tuple #[.agg #[.int .i64 k, .string t, .int .i64 x], .agg #[.int .i64 k', .string t', .int .i64 x']]) ∧ Below B W W'
theorem RowB.wider {B B' : Nat} {a : Option Addr} {len : Nat} {W : World} (h : RowB B a len W) (hB : B ≤ B') : RowB B' a len W := by
  refine ⟨h.1, fun j hj => ?_⟩
  obtain ⟨b, off, n, e1, e2, e3, e4, e5⟩ := h.2 j hj
  exact ⟨b, off, n, e1, by omega, e3, e4, e5⟩
theorem below_set {B R o : Nat} {v : Value} {W W' : World} (h : Below B W W') (hR : B ≤ R) : Below B W (W'.setCell ⟨R, o, none⟩ v) :=
  ⟨h.os, h.tape, h.output, by simpa using h.size, fun k hk => (heap_setCell_other W' ⟨R, o, none⟩ k v (by show k ≠ R; omega)).trans (h.block k hk)⟩

end Go.Proofs.YtcadoplfgclbjaaGreatDoor
