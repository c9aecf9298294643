
/- Contracts of the program's elements: what stands at the head of a text. -/
import Derived.Test.YtodgigdcdgdfdaaDoorQuoI
import Derived.Test.YtodgigdcdgdfdaaDoorTokAt
import Derived.Test.YtodgigdcdgdfdaaDoorFold
namespace Go.Proofs.YtodgigdcdgdfdaaDoor
open Go.RowKit

/-- a token comes back, at 0 -/
def TokE (k : Int) (t : List UInt8) (w : World) (e : Ending) (w' : World) : Prop := e = .returned (.agg #[.int .i64 k, .string ⟨t.toArray⟩, .int .i64 0]) ∧ Below w.heap.size w w'
/-- an element comes back -/
def ElemE (x : Int × List UInt8 × Nat) (w : World) (e : Ending) (w' : World) : Prop := e = .returned (.tuple #[.agg #[.int .i64 x.1, .string ⟨x.2.1.toArray⟩, .int .i64 0], .int .i64 (x.2.2 : Int)]) ∧ Below w.heap.size w w'
theorem TokE.mk {k k' : Int} {t : List UInt8} {T : ByteArray} {w w' : World} (hk : k = k') (ht : t = T.data.toList) (h : Below w.heap.size w w') : TokE k t w (.returned (.agg #[.int .i64 k', .string T, .int .i64 0])) w' := by
  subst hk ht; exact ⟨rfl, h⟩
theorem ElemE.mk {x : Int × List UInt8 × Nat} {k : Int} {T : ByteArray} {n : Nat} {w w' : World} (hx : x = (k, T.data.toList, n)) (h : Below w.heap.size w w') : ElemE x w (.returned (.tuple #[.agg #[.int .i64 k, .string T, .int .i64 0], .int .i64 (n : Int)])) w' := by
  subst hx; exact ⟨rfl, h⟩
theorem tok_alloc (w : World) : TokAt (w.alloc (.cells #[.int .i64 0, .string ⟨#[]⟩, .int .i64 0] 31)) w.heap.size 0 ⟨#[]⟩ 0 := heap_alloc_new w _
theorem below_tok (w : World) : Below w.heap.size w (w.alloc (.cells #[.int .i64 0, .string ⟨#[]⟩, .int .i64 0] 31)) := (Below.refl _ _).alloc (Nat.le_refl _) _

set_option maxRecDepth 100000 in
set_option maxHeartbeats 1600000 in
theorem wordToken_impl (s : ByteArray) (w : World) (hs : s.size ≤ 4000000) :
    Calls Tryd.prog 69 #[.string s] w (TokE (if 0 < numOf (upL s.data.toList) then 1 else 2) (if 0 < numOf (upL s.data.toList) then upL s.data.toList else s.data.toList) w) := by
  have hK := fun w => keyOf_impl s w (by unfold maxLen; omega)
  have hF := fun w => fold_impl s w (by omega)
  have hR := tok_alloc w
  have hB := below_tok w
  by_cases h0 : 0 < numOf (upL s.data.toList)
  · have d0 : ((numOf (upL s.data.toList) : Int) != 0) = true := by simp; omega
    rw [if_pos h0, if_pos h0]
    generalize (numOf (upL s.data.toList) : Int) = N at d0 hK
    unfold StrE at hF
    obtain ⟨U, hU⟩ : ∃ U : ByteArray, U = ⟨(upL s.data.toList).toArray⟩ := ⟨_, rfl⟩
    rw [← hU] at hF
    have HU := Lib.hid (show upL s.data.toList = U.data.toList by rw [hU])
    clear hU
    go_enter Tryd.func69, Tryd.ntmps69
    go_wp2_with fail
    generalize w.alloc (.cells #[.int .i64 0, .string ⟨#[]⟩, .int .i64 0] 31) = w0 at hR hB ⊢
    refine (hK _).mono ?_
    rintro e w1 ⟨rfl, hb1⟩
    have hz0 := (Array.getElem?_eq_some_iff.1 hR).1
    replace hR := hR.below hb1 hz0
    replace hB := hB.trans (hb1.mono hB.size)
    clear hb1 h0 hK
    go_wp2_with fail
    refine (hF _).mono ?_
    rintro e w2 ⟨rfl, hb2⟩
    have hz1 := (Array.getElem?_eq_some_iff.1 hR).1
    replace hR := hR.below hb2 hz1
    replace hB := hB.trans (hb2.mono hB.size)
    clear hb2 hF
    have z0 := frozen_of_row w2 w.heap.size 0 _ 31 hR
    have z1 := frozen_of_row w2 w.heap.size 1 _ 31 hR
    have z2 := frozen_of_row w2 w.heap.size 2 _ 31 hR
    have g0 := cell_of_row w2 w.heap.size 0 _ 31 (0, 0) hR
    have g1 := cell_of_row w2 w.heap.size 1 _ 31 (0, 0) hR
    have g2 := cell_of_row w2 w.heap.size 2 _ 31 (0, 0) hR
    go_wp2_with fail
    have hF := ((hR.set0 1).set1 U).set2 0
    have f0 := cell_of_row _ w.heap.size 0 _ 31 (0, 0) hF
    have f1 := cell_of_row _ w.heap.size 1 _ 31 (0, 0) hF
    have f2 := cell_of_row _ w.heap.size 2 _ 31 (0, 0) hF
    have hBf := ((hB.setCell (p := ⟨w.heap.size, 0, none⟩) (Nat.le_refl _) (.int .i64 1)).setCell (p := ⟨w.heap.size, 1, none⟩) (Nat.le_refl _) (.string U)).setCell (p := ⟨w.heap.size, 2, none⟩) (Nat.le_refl _) (.int .i64 0)
    clear g0 g1 g2 z0 z1 z2 hF
    generalize ((w2.setCell ⟨w.heap.size, 0, none⟩ (.int .i64 1)).setCell ⟨w.heap.size, 1, none⟩ (.string U)).setCell ⟨w.heap.size, 2, none⟩ (.int .i64 0) = wf at f0 f1 f2 hBf ⊢
    refine bodyPost_ret (v := .agg #[.int .i64 1, .string U, .int .i64 0]) (by simp [results, Tryd.results69, go_sem, f0, f1, f2]) rfl ?_
    exact TokE.mk rfl HU.out hBf
  · have d0 : ((numOf (upL s.data.toList) : Int) != 0) = false := by simp; omega
    rw [if_neg h0, if_neg h0]
    generalize (numOf (upL s.data.toList) : Int) = N at d0 hK
    go_enter Tryd.func69, Tryd.ntmps69
    go_wp2_with fail
    generalize w.alloc (.cells #[.int .i64 0, .string ⟨#[]⟩, .int .i64 0] 31) = w0 at hR hB ⊢
    refine (hK _).mono ?_
    rintro e w1 ⟨rfl, hb1⟩
    have hz0 := (Array.getElem?_eq_some_iff.1 hR).1
    replace hR := hR.below hb1 hz0
    replace hB := hB.trans (hb1.mono hB.size)
    clear hb1 h0 hK
    have z0 := frozen_of_row w1 w.heap.size 0 _ 31 hR
    have z1 := frozen_of_row w1 w.heap.size 1 _ 31 hR
    have z2 := frozen_of_row w1 w.heap.size 2 _ 31 hR
    have g0 := cell_of_row w1 w.heap.size 0 _ 31 (0, 0) hR
    have g1 := cell_of_row w1 w.heap.size 1 _ 31 (0, 0) hR
    have g2 := cell_of_row w1 w.heap.size 2 _ 31 (0, 0) hR
    go_wp2_with fail
    have hF := ((hR.set0 2).set1 s).set2 0
    have f0 := cell_of_row _ w.heap.size 0 _ 31 (0, 0) hF
    have f1 := cell_of_row _ w.heap.size 1 _ 31 (0, 0) hF
    have f2 := cell_of_row _ w.heap.size 2 _ 31 (0, 0) hF
    have hBf := ((hB.setCell (p := ⟨w.heap.size, 0, none⟩) (Nat.le_refl _) (.int .i64 2)).setCell (p := ⟨w.heap.size, 1, none⟩) (Nat.le_refl _) (.string s)).setCell (p := ⟨w.heap.size, 2, none⟩) (Nat.le_refl _) (.int .i64 0)
    clear g0 g1 g2 z0 z1 z2 hF
    generalize ((w1.setCell ⟨w.heap.size, 0, none⟩ (.int .i64 2)).setCell ⟨w.heap.size, 1, none⟩ (.string s)).setCell ⟨w.heap.size, 2, none⟩ (.int .i64 0) = wf at f0 f1 f2 hBf ⊢
    refine bodyPost_ret (v := .agg #[.int .i64 2, .string s, .int .i64 0]) (by simp [results, Tryd.results69, go_sem, f0, f1, f2]) rfl ?_
    exact TokE.mk rfl rfl hBf

set_option maxRecDepth 100000 in
set_option maxHeartbeats 1600000 in
theorem quotedToken_impl (q : UInt8) (k : Int) (s : ByteArray) (w : World) (hs : s.size ≤ 4000000) (h0 : 0 < s.size) (hq : s.data.toList.getD 0 0 = q) (hm : MaxI w) :
    Calls Tryd.prog 70 #[.int .i64 k, .string s] w (ElemE (quoK q k s.data.toList, quoT q s.data.toList, quoL q s.data.toList) w) := by
  have hlen : s.data.toList.length = s.size := rfl
  have hQ := fun w => quotedSize_impl q s w hs h0 hq
  have hR := tok_alloc w
  have hB := below_tok w
  have hone : (s.extract 0 1).data.toList = [q] := by
    rw [ext_pre]
    rcases hl : s.data.toList with _ | ⟨b, l⟩
    · rw [hl] at hlen; simp at hlen; omega
    · rw [hl] at hq
      have hb : b = q := hq
      rw [hb]; rfl
  have hone2 : (s.extract 0 1 ++ s.extract 0 1).data.toList = [q, q] := by
    rw [ByteArray.data_append, Array.toList_append, hone]; rfl
  have h1i : (1 : Int) ≤ (s.size : Int) := by omega
  rcases hqo : quo q s.data.toList 1 with _ | r
  · have eK : quoK q k s.data.toList = 0 := by unfold quoK; rw [hqo]
    have eT : quoT q s.data.toList = [] := by unfold quoT; rw [hqo]
    have eL : quoL q s.data.toList = 0 := by unfold quoL; rw [hqo]
    rw [eL] at hQ
    rw [eK, eT, eL]
    clear eK eT eL hqo hone hone2
    go_enter Tryd.func70, Tryd.ntmps70
    go_wp2_with fail
    generalize w.alloc (.cells #[.int .i64 0, .string ⟨#[]⟩, .int .i64 0] 31) = w0 at hR hB ⊢
    refine (hQ _).mono ?_
    rintro e w1 ⟨rfl, hb1⟩
    have hz0 := (Array.getElem?_eq_some_iff.1 hR).1
    replace hR := hR.below hb1 hz0
    replace hB := hB.trans (hb1.mono hB.size)
    clear hb1 hQ
    have z0 := frozen_of_row w1 w.heap.size 0 _ 31 hR
    have z1 := frozen_of_row w1 w.heap.size 1 _ 31 hR
    have z2 := frozen_of_row w1 w.heap.size 2 _ 31 hR
    have g0 := cell_of_row w1 w.heap.size 0 _ 31 (0, 0) hR
    have g1 := cell_of_row w1 w.heap.size 1 _ 31 (0, 0) hR
    have g2 := cell_of_row w1 w.heap.size 2 _ 31 (0, 0) hR
    go_wp2_with fail
    have hF := ((hR.set0 0).set1 ⟨#[]⟩).set2 0
    have f0 := cell_of_row _ w.heap.size 0 _ 31 (0, 0) hF
    have f1 := cell_of_row _ w.heap.size 1 _ 31 (0, 0) hF
    have f2 := cell_of_row _ w.heap.size 2 _ 31 (0, 0) hF
    have hBf := ((hB.setCell (p := ⟨w.heap.size, 0, none⟩) (Nat.le_refl _) (.int .i64 0)).setCell (p := ⟨w.heap.size, 1, none⟩) (Nat.le_refl _) (.string ⟨#[]⟩)).setCell (p := ⟨w.heap.size, 2, none⟩) (Nat.le_refl _) (.int .i64 0)
    clear g0 g1 g2 z0 z1 z2 hF
    generalize ((w1.setCell ⟨w.heap.size, 0, none⟩ (.int .i64 0)).setCell ⟨w.heap.size, 1, none⟩ (.string ⟨#[]⟩)).setCell ⟨w.heap.size, 2, none⟩ (.int .i64 0) = wf at f0 f1 f2 hBf ⊢
    refine bodyPost_ret (v := .tuple #[.agg #[.int .i64 0, .string ⟨#[]⟩, .int .i64 0], .int .i64 0]) (by simp [results, Tryd.results70, go_sem, f0, f1, f2]) rfl ?_
    exact ElemE.mk (n := 0) rfl hBf
  · have eK : quoK q k s.data.toList = k := by unfold quoK; rw [hqo]
    have eT : quoT q s.data.toList = r.1 := by unfold quoT; rw [hqo]
    have eL : quoL q s.data.toList = r.2 := by unfold quoL; rw [hqo]
    rw [eL] at hQ
    rw [eK, eT, eL]
    have hre := quo_end q _ _ 1 (Nat.le_refl _) r hqo
    have hU := replaceAll_unq hqo
    have hRA : ∀ (w1 : World) (X old new : ByteArray), MaxI w1 → X.data.toList = sl s.data.toList 1 (r.2 - 1) → old.data.toList = [q, q] → new.data.toList = [q] → Calls Tryd.prog 62 #[.string X, .string old, .string new] w1 (StrE r.1 w1) := fun w1 X old new hmx hX ho hn => by
      obtain ⟨m, hmc⟩ := hmx
      have ho2 : old.size = 2 := by show old.data.toList.length = 2; rw [ho]; rfl
      have hn2 : new.size = 1 := by show new.data.toList.length = 1; rw [hn]; rfl
      have hXz : X.size ≤ s.size := by show X.data.toList.length ≤ _; rw [hX]; exact sl_len _ _ _
      have hcb := Lib.countB_mul_le old (by omega) X.size X (Nat.le_refl _)
      rw [ho2] at hcb
      have h := Tryd.strings_ReplaceAll X old new m w1 (by omega) hmc (by rw [ho2]; omega) (by rw [hn2]; omega)
      rw [hX, ho, hn, hU] at h
      exact h
    generalize hn : r.2 = n at *
    have hrl : r.1.length + 1 < n := by omega
    obtain ⟨U, hUe⟩ : ∃ U : ByteArray, U = ⟨r.1.toArray⟩ := ⟨_, rfl⟩
    unfold StrE at hRA
    rw [← hUe] at hRA
    have HU := Lib.hid (show r.1 = U.data.toList by rw [hUe])
    have d0 : ((n : Int) == 0) = false := by simp; omega
    have h2i : (1 : Int) ≤ (n : Int) - 1 := by omega
    have h3i : (n : Int) - 1 ≤ (s.size : Int) := by omega
    clear hqo eK eT eL hU hUe
    go_enter Tryd.func70, Tryd.ntmps70
    go_wp2_with fail
    generalize w.alloc (.cells #[.int .i64 0, .string ⟨#[]⟩, .int .i64 0] 31) = w0 at hR hB ⊢
    refine (hQ _).mono ?_
    rintro e w1 ⟨rfl, hb1⟩
    have hz0 := (Array.getElem?_eq_some_iff.1 hR).1
    replace hR := hR.below hb1 hz0
    replace hB := hB.trans (hb1.mono hB.size)
    clear hb1 hQ
    have hm1 := hm.later hB hm.two
    clear hm
    go_wp2_with fail
    refine (hRA _ _ _ _ hm1 (by rw [ext_sl]) hone2 hone).mono ?_
    rintro e w2 ⟨rfl, hb2⟩
    have hz1 := (Array.getElem?_eq_some_iff.1 hR).1
    replace hR := hR.below hb2 hz1
    replace hB := hB.trans (hb2.mono hB.size)
    clear hb2 hRA hone hone2
    have z0 := frozen_of_row w2 w.heap.size 0 _ 31 hR
    have z1 := frozen_of_row w2 w.heap.size 1 _ 31 hR
    have z2 := frozen_of_row w2 w.heap.size 2 _ 31 hR
    have g0 := cell_of_row w2 w.heap.size 0 _ 31 (0, 0) hR
    have g1 := cell_of_row w2 w.heap.size 1 _ 31 (0, 0) hR
    have g2 := cell_of_row w2 w.heap.size 2 _ 31 (0, 0) hR
    go_wp2_with fail
    have hF := ((hR.set0 k).set1 U).set2 0
    have f0 := cell_of_row _ w.heap.size 0 _ 31 (0, 0) hF
    have f1 := cell_of_row _ w.heap.size 1 _ 31 (0, 0) hF
    have f2 := cell_of_row _ w.heap.size 2 _ 31 (0, 0) hF
    have hBf := ((hB.setCell (p := ⟨w.heap.size, 0, none⟩) (Nat.le_refl _) (.int .i64 k)).setCell (p := ⟨w.heap.size, 1, none⟩) (Nat.le_refl _) (.string U)).setCell (p := ⟨w.heap.size, 2, none⟩) (Nat.le_refl _) (.int .i64 0)
    clear g0 g1 g2 z0 z1 z2 hF
    generalize ((w2.setCell ⟨w.heap.size, 0, none⟩ (.int .i64 k)).setCell ⟨w.heap.size, 1, none⟩ (.string U)).setCell ⟨w.heap.size, 2, none⟩ (.int .i64 0) = wf at f0 f1 f2 hBf ⊢
    refine bodyPost_ret (v := .tuple #[.agg #[.int .i64 k, .string U, .int .i64 0], .int .i64 (n : Int)]) (by simp [results, Tryd.results70, go_sem, f0, f1, f2]) rfl ?_
    exact ElemE.mk (by rw [HU.out]) hBf
end Go.Proofs.YtodgigdcdgdfdaaDoor
