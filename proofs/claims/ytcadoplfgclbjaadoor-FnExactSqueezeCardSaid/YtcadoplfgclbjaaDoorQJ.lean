/- Joined texts: ElemF ElemG. -/
import Derived.Test.YtcadoplfgclbjaaDoorQI
import Derived.Test.YtcadoplfgclbjaaDoorQF
import Derived.Test.YtcadoplfgclbjaaDoorQB
/- Contracts of the program's elements: what stands at the head of a text. -/
namespace Go.Proofs.YtcadoplfgclbjaaDoor
open Go.RowKit

/-- a token comes back, at 0 -/
def TokE (k : Int) (t : List UInt8) (w : World) (e : Ending) (w' : World) : Prop := e = .returned (.agg #[.int .i64 k, .string ⟨t.toArray⟩, .int .i64 0]) ∧ Below w.heap.size w w'
/-- an element comes back -/
def ElemE (x : Int × List UInt8 × Nat) (w : World) (e : Ending) (w' : World) : Prop := e = .returned (.tuple #[.agg #[.int .i64 x.1, .string ⟨x.2.1.toArray⟩, .int .i64 0], .int .i64 (x.2.2 : Int)]) ∧ Below w.heap.size w w'
theorem TokE.mk {k k' : Int} {t : List UInt8} {T : ByteArray} {w w' : World} (hk : k = k') (ht : t = T.data.toList) (h : Below w.heap.size w w') : TokE k t w (.returned (.agg #[.int .i64 k', .string T, .int .i64 0])) w' := by
  subst hk ht; exact ⟨rfl, h⟩
theorem ElemE.mk {x : Int × List UInt8 × Nat} {k : Int} {T : ByteArray} {n : Nat} {w w' : World} (hx : x = (k, T.data.toList, n)) (h : Below w.heap.size w w') : ElemE x w (.returned (.tuple #[.agg #[.int .i64 k, .string T, .int .i64 0], .int .i64 (n : Int)])) w' := by
  subst hx; exact ⟨rfl, h⟩
theorem tok_alloc (w : World) : TokAt (w.alloc (.cells #[.int .i64 0, .string ⟨#[]⟩, .int .i64 0] 25)) w.heap.size 0 ⟨#[]⟩ 0 := heap_alloc_new w _
theorem below_tok (w : World) : Below w.heap.size w (w.alloc (.cells #[.int .i64 0, .string ⟨#[]⟩, .int .i64 0] 25)) := (Below.refl _ _).alloc (Nat.le_refl _) _

set_option maxRecDepth 100000 in
set_option maxHeartbeats 1600000 in
theorem wordToken_impl (s : ByteArray) (w : World) (hs : s.size ≤ 4000000) :
    Calls Tryd.prog 64 #[.string s] w (TokE (if 0 < numOf (upL s.data.toList) then 1 else 2) (if 0 < numOf (upL s.data.toList) then upL s.data.toList else s.data.toList) w) := by
  have hK := fun w => keyOf_impl s w (by unfold maxLen; omega)
  have hF := fun w => fold_impl s w (by omega)
  have hR := tok_alloc w
  have hB := below_tok w
  by_cases h0 : 0 < numOf (upL s.data.toList)
  · have d0 : ((numOf (upL s.data.toList) : Int) != 0) = true := by simp; omega
    rw [if_pos h0, if_pos h0]
    generalize (numOf (upL s.data.toList) : Int) = N at d0 hK
    unfold StrE at hF
    obtain ⟨U, hU⟩ : ∃ U : ByteArray, U = ⟨(upL s.data.toList).toArray⟩ := ⟨_, rfl⟩
    rw [← hU] at hF
    have HU := Lib.hid (show upL s.data.toList = U.data.toList by rw [hU])
    clear hU
    go_enter Tryd.func64, Tryd.ntmps64
    go_wp2_with fail
    generalize w.alloc (.cells #[.int .i64 0, .string ⟨#[]⟩, .int .i64 0] 25) = w0 at hR hB ⊢
    refine (hK _).mono ?_
    rintro e w1 ⟨rfl, hb1⟩
    have hz0 := (Array.getElem?_eq_some_iff.1 hR).1
    replace hR := hR.below hb1 hz0
    replace hB := hB.trans (hb1.mono hB.size)
    clear hb1 h0 hK
    go_wp2_with fail
    refine (hF _).mono ?_
    rintro e w2 ⟨rfl, hb2⟩
    have hz1 := (Array.getElem?_eq_some_iff.1 hR).1
    replace hR := hR.below hb2 hz1
    replace hB := hB.trans (hb2.mono hB.size)
    clear hb2 hF
    have z0 := frozen_of_row w2 w.heap.size 0 _ 25 hR
    have z1 := frozen_of_row w2 w.heap.size 1 _ 25 hR
    have z2 := frozen_of_row w2 w.heap.size 2 _ 25 hR
    have g0 := cell_of_row w2 w.heap.size 0 _ 25 (0, 0) hR
    have g1 := cell_of_row w2 w.heap.size 1 _ 25 (0, 0) hR
    have g2 := cell_of_row w2 w.heap.size 2 _ 25 (0, 0) hR
    go_wp2_with fail
    have hF := ((hR.set0 1).set1 U).set2 0
    have f0 := cell_of_row _ w.heap.size 0 _ 25 (0, 0) hF
    have f1 := cell_of_row _ w.heap.size 1 _ 25 (0, 0) hF
    have f2 := cell_of_row _ w.heap.size 2 _ 25 (0, 0) hF
    have hBf := ((hB.setCell (p := ⟨w.heap.size, 0, none⟩) (Nat.le_refl _) (.int .i64 1)).setCell (p := ⟨w.heap.size, 1, none⟩) (Nat.le_refl _) (.string U)).setCell (p := ⟨w.heap.size, 2, none⟩) (Nat.le_refl _) (.int .i64 0)
    clear g0 g1 g2 z0 z1 z2 hF
    generalize ((w2.setCell ⟨w.heap.size, 0, none⟩ (.int .i64 1)).setCell ⟨w.heap.size, 1, none⟩ (.string U)).setCell ⟨w.heap.size, 2, none⟩ (.int .i64 0) = wf at f0 f1 f2 hBf ⊢
    refine bodyPost_ret (v := .agg #[.int .i64 1, .string U, .int .i64 0]) (by simp [results, Tryd.results64, go_sem, f0, f1, f2]) rfl ?_
    exact TokE.mk rfl HU.out hBf
  · have d0 : ((numOf (upL s.data.toList) : Int) != 0) = false := by simp; omega
    rw [if_neg h0, if_neg h0]
    generalize (numOf (upL s.data.toList) : Int) = N at d0 hK
    go_enter Tryd.func64, Tryd.ntmps64
    go_wp2_with fail
    generalize w.alloc (.cells #[.int .i64 0, .string ⟨#[]⟩, .int .i64 0] 25) = w0 at hR hB ⊢
    refine (hK _).mono ?_
    rintro e w1 ⟨rfl, hb1⟩
    have hz0 := (Array.getElem?_eq_some_iff.1 hR).1
    replace hR := hR.below hb1 hz0
    replace hB := hB.trans (hb1.mono hB.size)
    clear hb1 h0 hK
    have z0 := frozen_of_row w1 w.heap.size 0 _ 25 hR
    have z1 := frozen_of_row w1 w.heap.size 1 _ 25 hR
    have z2 := frozen_of_row w1 w.heap.size 2 _ 25 hR
    have g0 := cell_of_row w1 w.heap.size 0 _ 25 (0, 0) hR
    have g1 := cell_of_row w1 w.heap.size 1 _ 25 (0, 0) hR
    have g2 := cell_of_row w1 w.heap.size 2 _ 25 (0, 0) hR
    go_wp2_with fail
    have hF := ((hR.set0 2).set1 s).set2 0
    have f0 := cell_of_row _ w.heap.size 0 _ 25 (0, 0) hF
    have f1 := cell_of_row _ w.heap.size 1 _ 25 (0, 0) hF
    have f2 := cell_of_row _ w.heap.size 2 _ 25 (0, 0) hF
    have hBf := ((hB.setCell (p := ⟨w.heap.size, 0, none⟩) (Nat.le_refl _) (.int .i64 2)).setCell (p := ⟨w.heap.size, 1, none⟩) (Nat.le_refl _) (.string s)).setCell (p := ⟨w.heap.size, 2, none⟩) (Nat.le_refl _) (.int .i64 0)
    clear g0 g1 g2 z0 z1 z2 hF
    generalize ((w1.setCell ⟨w.heap.size, 0, none⟩ (.int .i64 2)).setCell ⟨w.heap.size, 1, none⟩ (.string s)).setCell ⟨w.heap.size, 2, none⟩ (.int .i64 0) = wf at f0 f1 f2 hBf ⊢
    refine bodyPost_ret (v := .agg #[.int .i64 2, .string s, .int .i64 0]) (by simp [results, Tryd.results64, go_sem, f0, f1, f2]) rfl ?_
    exact TokE.mk rfl rfl hBf

set_option maxRecDepth 100000 in
set_option maxHeartbeats 1600000 in
theorem quotedToken_impl (q : UInt8) (k : Int) (s : ByteArray) (w : World) (hs : s.size ≤ 4000000) (h0 : 0 < s.size) (hq : s.data.toList.getD 0 0 = q) (hm : MaxI w) :
    Calls Tryd.prog 65 #[.int .i64 k, .string s] w (ElemE (quoK q k s.data.toList, quoT q s.data.toList, quoL q s.data.toList) w) := by
  have hlen : s.data.toList.length = s.size := rfl
  have hQ := fun w => quotedSize_impl q s w hs h0 hq
  have hR := tok_alloc w
  have hB := below_tok w
  have hone : (s.extract 0 1).data.toList = [q] := by
    rw [ext_pre]
    rcases hl : s.data.toList with _ | ⟨b, l⟩
    · rw [hl] at hlen; simp at hlen; omega
    · rw [hl] at hq
      have hb : b = q := hq
      rw [hb]; rfl
  have hone2 : (s.extract 0 1 ++ s.extract 0 1).data.toList = [q, q] := by
    rw [ByteArray.data_append, Array.toList_append, hone]; rfl
  have h1i : (1 : Int) ≤ (s.size : Int) := by omega
  rcases hqo : quo q s.data.toList 1 with _ | r
  · have eK : quoK q k s.data.toList = 0 := by unfold quoK; rw [hqo]
    have eT : quoT q s.data.toList = [] := by unfold quoT; rw [hqo]
    have eL : quoL q s.data.toList = 0 := by unfold quoL; rw [hqo]
    rw [eL] at hQ
    rw [eK, eT, eL]
    clear eK eT eL hqo hone hone2
    go_enter Tryd.func65, Tryd.ntmps65
    go_wp2_with fail
    generalize w.alloc (.cells #[.int .i64 0, .string ⟨#[]⟩, .int .i64 0] 25) = w0 at hR hB ⊢
    refine (hQ _).mono ?_
    rintro e w1 ⟨rfl, hb1⟩
    have hz0 := (Array.getElem?_eq_some_iff.1 hR).1
    replace hR := hR.below hb1 hz0
    replace hB := hB.trans (hb1.mono hB.size)
    clear hb1 hQ
    have z0 := frozen_of_row w1 w.heap.size 0 _ 25 hR
    have z1 := frozen_of_row w1 w.heap.size 1 _ 25 hR
    have z2 := frozen_of_row w1 w.heap.size 2 _ 25 hR
    have g0 := cell_of_row w1 w.heap.size 0 _ 25 (0, 0) hR
    have g1 := cell_of_row w1 w.heap.size 1 _ 25 (0, 0) hR
    have g2 := cell_of_row w1 w.heap.size 2 _ 25 (0, 0) hR
    go_wp2_with fail
    have hF := ((hR.set0 0).set1 ⟨#[]⟩).set2 0
    have f0 := cell_of_row _ w.heap.size 0 _ 25 (0, 0) hF
    have f1 := cell_of_row _ w.heap.size 1 _ 25 (0, 0) hF
    have f2 := cell_of_row _ w.heap.size 2 _ 25 (0, 0) hF
    have hBf := ((hB.setCell (p := ⟨w.heap.size, 0, none⟩) (Nat.le_refl _) (.int .i64 0)).setCell (p := ⟨w.heap.size, 1, none⟩) (Nat.le_refl _) (.string ⟨#[]⟩)).setCell (p := ⟨w.heap.size, 2, none⟩) (Nat.le_refl _) (.int .i64 0)
    clear g0 g1 g2 z0 z1 z2 hF
    generalize ((w1.setCell ⟨w.heap.size, 0, none⟩ (.int .i64 0)).setCell ⟨w.heap.size, 1, none⟩ (.string ⟨#[]⟩)).setCell ⟨w.heap.size, 2, none⟩ (.int .i64 0) = wf at f0 f1 f2 hBf ⊢
    refine bodyPost_ret (v := .tuple #[.agg #[.int .i64 0, .string ⟨#[]⟩, .int .i64 0], .int .i64 0]) (by simp [results, Tryd.results65, go_sem, f0, f1, f2]) rfl ?_
    exact ElemE.mk (n := 0) rfl hBf
  · have eK : quoK q k s.data.toList = k := by unfold quoK; rw [hqo]
    have eT : quoT q s.data.toList = r.1 := by unfold quoT; rw [hqo]
    have eL : quoL q s.data.toList = r.2 := by unfold quoL; rw [hqo]
    rw [eL] at hQ
    rw [eK, eT, eL]
    have hre := quo_end q _ _ 1 (Nat.le_refl _) r hqo
    have hU := replaceAll_unq hqo
    have hRA : ∀ (w1 : World) (X old new : ByteArray), MaxI w1 → X.data.toList = sl s.data.toList 1 (r.2 - 1) → old.data.toList = [q, q] → new.data.toList = [q] → Calls Tryd.prog 88 #[.string X, .string old, .string new] w1 (StrE r.1 w1) := fun w1 X old new hmx hX ho hn => by
      obtain ⟨m, hmc⟩ := hmx
      have ho2 : old.size = 2 := by show old.data.toList.length = 2; rw [ho]; rfl
      have hn2 : new.size = 1 := by show new.data.toList.length = 1; rw [hn]; rfl
      have hXz : X.size ≤ s.size := by show X.data.toList.length ≤ _; rw [hX]; exact sl_len _ _ _
      have hcb := Lib.countB_mul_le old (by omega) X.size X (Nat.le_refl _)
      rw [ho2] at hcb
      have h := Tryd.strings_ReplaceAll X old new m w1 (by omega) hmc (by rw [ho2]; omega) (by rw [hn2]; omega)
      rw [hX, ho, hn, hU] at h
      exact h
    generalize hn : r.2 = n at *
    have hrl : r.1.length + 1 < n := by omega
    obtain ⟨U, hUe⟩ : ∃ U : ByteArray, U = ⟨r.1.toArray⟩ := ⟨_, rfl⟩
    unfold StrE at hRA
    rw [← hUe] at hRA
    have HU := Lib.hid (show r.1 = U.data.toList by rw [hUe])
    have d0 : ((n : Int) == 0) = false := by simp; omega
    have h2i : (1 : Int) ≤ (n : Int) - 1 := by omega
    have h3i : (n : Int) - 1 ≤ (s.size : Int) := by omega
    clear hqo eK eT eL hU hUe
    go_enter Tryd.func65, Tryd.ntmps65
    go_wp2_with fail
    generalize w.alloc (.cells #[.int .i64 0, .string ⟨#[]⟩, .int .i64 0] 25) = w0 at hR hB ⊢
    refine (hQ _).mono ?_
    rintro e w1 ⟨rfl, hb1⟩
    have hz0 := (Array.getElem?_eq_some_iff.1 hR).1
    replace hR := hR.below hb1 hz0
    replace hB := hB.trans (hb1.mono hB.size)
    clear hb1 hQ
    have hm1 := hm.later hB hm.two
    clear hm
    go_wp2_with fail
    refine (hRA _ _ _ _ hm1 (by rw [ext_sl]) hone2 hone).mono ?_
    rintro e w2 ⟨rfl, hb2⟩
    have hz1 := (Array.getElem?_eq_some_iff.1 hR).1
    replace hR := hR.below hb2 hz1
    replace hB := hB.trans (hb2.mono hB.size)
    clear hb2 hRA hone hone2
    have z0 := frozen_of_row w2 w.heap.size 0 _ 25 hR
    have z1 := frozen_of_row w2 w.heap.size 1 _ 25 hR
    have z2 := frozen_of_row w2 w.heap.size 2 _ 25 hR
    have g0 := cell_of_row w2 w.heap.size 0 _ 25 (0, 0) hR
    have g1 := cell_of_row w2 w.heap.size 1 _ 25 (0, 0) hR
    have g2 := cell_of_row w2 w.heap.size 2 _ 25 (0, 0) hR
    go_wp2_with fail
    have hF := ((hR.set0 k).set1 U).set2 0
    have f0 := cell_of_row _ w.heap.size 0 _ 25 (0, 0) hF
    have f1 := cell_of_row _ w.heap.size 1 _ 25 (0, 0) hF
    have f2 := cell_of_row _ w.heap.size 2 _ 25 (0, 0) hF
    have hBf := ((hB.setCell (p := ⟨w.heap.size, 0, none⟩) (Nat.le_refl _) (.int .i64 k)).setCell (p := ⟨w.heap.size, 1, none⟩) (Nat.le_refl _) (.string U)).setCell (p := ⟨w.heap.size, 2, none⟩) (Nat.le_refl _) (.int .i64 0)
    clear g0 g1 g2 z0 z1 z2 hF
    generalize ((w2.setCell ⟨w.heap.size, 0, none⟩ (.int .i64 k)).setCell ⟨w.heap.size, 1, none⟩ (.string U)).setCell ⟨w.heap.size, 2, none⟩ (.int .i64 0) = wf at f0 f1 f2 hBf ⊢
    refine bodyPost_ret (v := .tuple #[.agg #[.int .i64 k, .string U, .int .i64 0], .int .i64 (n : Int)]) (by simp [results, Tryd.results65, go_sem, f0, f1, f2]) rfl ?_
    exact ElemE.mk (by rw [HU.out]) hBf
end Go.Proofs.YtcadoplfgclbjaaDoor

/- The contract of the program's reading of one element. -/
namespace Go.Proofs.YtcadoplfgclbjaaDoor
open Go.RowKit

set_option maxRecDepth 100000 in
set_option maxHeartbeats 8000000 in
theorem firstElement_impl (s : ByteArray) (w : World) (hs : s.size ≤ 4000000) (h0 : 0 < s.size) (hm : MaxI w) :
    Calls Tryd.prog 37 #[.string s] w (ElemE (el s.data.toList) w) := by
  have hlen : s.data.toList.length = s.size := rfl
  have h0i : (0 : Int) < (s.size : Int) := by omega
  have hR := tok_alloc w
  have hB := below_tok w
  have hb0 : Hid (s[0] = s.data.toList.getD 0 0) := lstr_at h0
  have hP1 := fun w => Tryd.strings_HasPrefix s ⟨#[45, 45]⟩ w
  have hP2 := fun w => Tryd.strings_HasPrefix s ⟨#[47, 42]⟩ w
  have e1 : Lib.hasPrefix s.data.toList (⟨#[45, 45]⟩ : ByteArray).data.toList = is2 s.data.toList 0 45 45 := pre_two _ _ _
  have e2 : Lib.hasPrefix s.data.toList (⟨#[47, 42]⟩ : ByteArray).data.toList = is2 s.data.toList 0 47 42 := pre_two _ _ _
  rw [e1] at hP1
  rw [e2] at hP2
  clear e1 e2
  have hx : el s.data.toList = el s.data.toList := rfl
  conv at hx => rhs; unfold el
  have hL : is2 s.data.toList 0 47 42 = true → 2 ≤ s.size := fun h => is2_lt h
  have hrl := runEnd_le s.data.toList _ 0 rfl (by omega)
  have hW := fun w => wordSize_impl s w hs
  have hsl := signLen_le s.data.toList
  have hS := fun w => signSize_impl s w hs
  have hq := fun q k h w hm => quotedToken_impl q k s w hs h0 h hm
  have hbl := fun h w hm => blockSize_impl s w hs h hm
  have hli := fun w => lineSize_impl s w hs
  have hext := ext_pre s (runEnd s.data.toList 0)
  have hexs := ext_pre s (signLen s.data.toList)
  have hsl0 : sl s.data.toList 0 (runEnd s.data.toList 0) = s.data.toList.take (runEnd s.data.toList 0) := by unfold sl; simp
  rw [hsl0, ← hext, ← hexs] at hx
  generalize s.data.toList.getD 0 0 = bt at *
  generalize runEnd s.data.toList 0 = r at *
  generalize signLen s.data.toList = sg at *
  generalize el s.data.toList = x at *
  have hri : (r : Int) ≤ (s.size : Int) := by omega
  have hsi : (sg : Int) ≤ (s.size : Int) := by omega
  obtain ⟨S, hSe⟩ : ∃ S, s.extract 0 r = S := ⟨_, rfl⟩
  obtain ⟨G, hGe⟩ : ∃ G, s.extract 0 sg = G := ⟨_, rfl⟩
  rw [hSe, hGe] at hx
  replace hx := Lib.hid hx
  have hSz : S.size ≤ 4000000 := by rw [← hSe, ByteArray.size_extract]; omega
  have hwt := fun w => wordToken_impl S w hSz
  clear hsl0 hext hexs hlen
  go_enter Tryd.func37, Tryd.ntmps37
  go_wp2_with fail
  generalize w.alloc (.cells #[.int .i64 0, .string ⟨#[]⟩, .int .i64 0] 25) = w0 at hR hB ⊢
  rw [hb0.out]
  refine (isSpace_impl _ _).mono ?_
  rintro e w1 ⟨rfl, rfl⟩
  have hlate : ∀ W, Below w.heap.size w W → MaxI W := fun W hb => hm.later hb hm.two
  clear hm
  cases k1 : spB (bt)
  · have hx' := hx.out
    rw [k1, if_neg (by simp)] at hx'
    replace hx := Lib.hid hx'; clear hx'
    clear k1
    go_wp2_with fail
    refine (hP1 _).mono ?_
    rintro e w2 ⟨rfl, rfl⟩
    clear hP1
    cases k2 : is2 s.data.toList 0 45 45
    · have hx' := hx.out
      rw [k2, if_neg (by simp)] at hx'
      replace hx := Lib.hid hx'; clear hx'
      clear k2 hli
      go_wp2_with fail
      refine (hP2 _).mono ?_
      rintro e w3 ⟨rfl, rfl⟩
      clear hP2
      cases k3 : is2 s.data.toList 0 47 42
      · have hx' := hx.out
        rw [k3, if_neg (by simp)] at hx'
        replace hx := Lib.hid hx'; clear hx'
        clear k3 hbl hL
        go_wp2_with fail
        refine (isDigit_any _ _).mono ?_
        rintro e w4 ⟨rfl, rfl⟩
        cases k4 : dg ((bt).toNat : Int)
        · have hx' := hx.out
          rw [k4, if_neg (by simp)] at hx'
          replace hx := Lib.hid hx'; clear hx'
          clear k4
          go_wp2_with fail
          refine (isWordByte_any _ _).mono ?_
          rintro e w5 ⟨rfl, rfl⟩
          cases k5 : wd ((bt).toNat : Int)
          · have hx' := hx.out
            rw [k5, if_neg (by simp)] at hx'
            replace hx := Lib.hid hx'; clear hx'
            clear k5 hW hwt
            by_cases k6 : bt = 34
            · have d6 : (((bt).toNat : Int) == 34) = true := u8_eq k6
              have hx' := hx.out
              rw [if_pos k6] at hx'
              replace hx := Lib.hid hx'; clear hx'
              have HX := hx
              have hqq := fun w hm => hq 34 2 k6 w hm
              clear hq hS
              generalize ((bt).toNat : Int) = b at d6 ⊢
              go_wp2_with fail
              refine (hqq _ (hlate _ hB)).mono ?_
              rintro e w6 ⟨rfl, hb6⟩
              have hz0 := (Array.getElem?_eq_some_iff.1 hR).1
              replace hR := hR.below hb6 hz0
              replace hB := hB.trans (hb6.mono hB.size)
              clear hb6 hqq
              obtain ⟨T, hT⟩ : ∃ T : ByteArray, T = ⟨(quoT 34 s.data.toList).toArray⟩ := ⟨_, rfl⟩
              rw [← hT]
              have HT := Lib.hid (show quoT 34 s.data.toList = T.data.toList by rw [hT])
              clear hT
              generalize quoK 34 2 s.data.toList = K at HX ⊢
              generalize quoL 34 s.data.toList = n at HX ⊢
              have z0 := frozen_of_row w6 w.heap.size 0 _ 25 hR
              have z1 := frozen_of_row w6 w.heap.size 1 _ 25 hR
              have z2 := frozen_of_row w6 w.heap.size 2 _ 25 hR
              have g0 := cell_of_row w6 w.heap.size 0 _ 25 (0, 0) hR
              have g1 := cell_of_row w6 w.heap.size 1 _ 25 (0, 0) hR
              have g2 := cell_of_row w6 w.heap.size 2 _ 25 (0, 0) hR
              go_wp2_with fail
              have hF := ((hR.set0 K).set1 T).set2 0
              have f0 := cell_of_row _ w.heap.size 0 _ 25 (0, 0) hF
              have f1 := cell_of_row _ w.heap.size 1 _ 25 (0, 0) hF
              have f2 := cell_of_row _ w.heap.size 2 _ 25 (0, 0) hF
              have hBf := ((hB.setCell (p := ⟨w.heap.size, 0, none⟩) (Nat.le_refl _) (.int .i64 K)).setCell (p := ⟨w.heap.size, 1, none⟩) (Nat.le_refl _) (.string T)).setCell (p := ⟨w.heap.size, 2, none⟩) (Nat.le_refl _) (.int .i64 0)
              clear g0 g1 g2 z0 z1 z2 hF
              generalize ((w6.setCell ⟨w.heap.size, 0, none⟩ (.int .i64 K)).setCell ⟨w.heap.size, 1, none⟩ (.string T)).setCell ⟨w.heap.size, 2, none⟩ (.int .i64 0) = wf at f0 f1 f2 hBf ⊢
              refine bodyPost_ret (v := .tuple #[.agg #[.int .i64 K, .string T, .int .i64 0], .int .i64 (n : Int)]) (by simp [results, Tryd.results37, go_sem, f0, f1, f2]) rfl ?_
              exact ElemE.mk (by rw [HX.out, HT.out]) hBf
            · have d6 : (((bt).toNat : Int) == 34) = false := u8_ne k6
              have hx' := hx.out
              rw [if_neg k6] at hx'
              replace hx := Lib.hid hx'; clear hx'
              by_cases k7 : bt = 39
              · have d7 : (((bt).toNat : Int) == 39) = true := u8_eq k7
                have hx' := hx.out
                rw [if_pos k7] at hx'
                replace hx := Lib.hid hx'; clear hx'
                have HX := hx
                have hqq := fun w hm => hq 39 4 k7 w hm
                clear hq hS
                generalize ((bt).toNat : Int) = b at d6 d7 ⊢
                go_wp2_with fail
                refine (hqq _ (hlate _ hB)).mono ?_
                rintro e w6 ⟨rfl, hb6⟩
                have hz0 := (Array.getElem?_eq_some_iff.1 hR).1
                replace hR := hR.below hb6 hz0
                replace hB := hB.trans (hb6.mono hB.size)
                clear hb6 hqq
                obtain ⟨T, hT⟩ : ∃ T : ByteArray, T = ⟨(quoT 39 s.data.toList).toArray⟩ := ⟨_, rfl⟩
                rw [← hT]
                have HT := Lib.hid (show quoT 39 s.data.toList = T.data.toList by rw [hT])
                clear hT
                generalize quoK 39 4 s.data.toList = K at HX ⊢
                generalize quoL 39 s.data.toList = n at HX ⊢
                have z0 := frozen_of_row w6 w.heap.size 0 _ 25 hR
                have z1 := frozen_of_row w6 w.heap.size 1 _ 25 hR
                have z2 := frozen_of_row w6 w.heap.size 2 _ 25 hR
                have g0 := cell_of_row w6 w.heap.size 0 _ 25 (0, 0) hR
                have g1 := cell_of_row w6 w.heap.size 1 _ 25 (0, 0) hR
                have g2 := cell_of_row w6 w.heap.size 2 _ 25 (0, 0) hR
                go_wp2_with fail
                have hF := ((hR.set0 K).set1 T).set2 0
                have f0 := cell_of_row _ w.heap.size 0 _ 25 (0, 0) hF
                have f1 := cell_of_row _ w.heap.size 1 _ 25 (0, 0) hF
                have f2 := cell_of_row _ w.heap.size 2 _ 25 (0, 0) hF
                have hBf := ((hB.setCell (p := ⟨w.heap.size, 0, none⟩) (Nat.le_refl _) (.int .i64 K)).setCell (p := ⟨w.heap.size, 1, none⟩) (Nat.le_refl _) (.string T)).setCell (p := ⟨w.heap.size, 2, none⟩) (Nat.le_refl _) (.int .i64 0)
                clear g0 g1 g2 z0 z1 z2 hF
                generalize ((w6.setCell ⟨w.heap.size, 0, none⟩ (.int .i64 K)).setCell ⟨w.heap.size, 1, none⟩ (.string T)).setCell ⟨w.heap.size, 2, none⟩ (.int .i64 0) = wf at f0 f1 f2 hBf ⊢
                refine bodyPost_ret (v := .tuple #[.agg #[.int .i64 K, .string T, .int .i64 0], .int .i64 (n : Int)]) (by simp [results, Tryd.results37, go_sem, f0, f1, f2]) rfl ?_
                exact ElemE.mk (by rw [HX.out, HT.out]) hBf
              · have d7 : (((bt).toNat : Int) == 39) = false := u8_ne k7
                have hx' := hx.out
                rw [if_neg k7] at hx'
                replace hx := Lib.hid hx'; clear hx'
                have HX := hx; clear hq
                generalize ((bt).toNat : Int) = b at d6 d7 ⊢
                go_wp2_with fail
                refine (hS _).mono ?_
                rintro e w6 ⟨rfl, rfl⟩
                clear hS
                have z0 := frozen_of_row w6 w.heap.size 0 _ 25 hR
                have z1 := frozen_of_row w6 w.heap.size 1 _ 25 hR
                have z2 := frozen_of_row w6 w.heap.size 2 _ 25 hR
                have g0 := cell_of_row w6 w.heap.size 0 _ 25 (0, 0) hR
                have g1 := cell_of_row w6 w.heap.size 1 _ 25 (0, 0) hR
                have g2 := cell_of_row w6 w.heap.size 2 _ 25 (0, 0) hR
                go_wp2_with fail
                try rw [hGe]
                have hF := ((hR.set0 5).set1 G).set2 0
                have f0 := cell_of_row _ w.heap.size 0 _ 25 (0, 0) hF
                have f1 := cell_of_row _ w.heap.size 1 _ 25 (0, 0) hF
                have f2 := cell_of_row _ w.heap.size 2 _ 25 (0, 0) hF
                have hBf := ((hB.setCell (p := ⟨w.heap.size, 0, none⟩) (Nat.le_refl _) (.int .i64 5)).setCell (p := ⟨w.heap.size, 1, none⟩) (Nat.le_refl _) (.string G)).setCell (p := ⟨w.heap.size, 2, none⟩) (Nat.le_refl _) (.int .i64 0)
                clear g0 g1 g2 z0 z1 z2 hF
                generalize ((w6.setCell ⟨w.heap.size, 0, none⟩ (.int .i64 5)).setCell ⟨w.heap.size, 1, none⟩ (.string G)).setCell ⟨w.heap.size, 2, none⟩ (.int .i64 0) = wf at f0 f1 f2 hBf ⊢
                refine bodyPost_ret (v := .tuple #[.agg #[.int .i64 5, .string G, .int .i64 0], .int .i64 (sg : Int)]) (by simp [results, Tryd.results37, go_sem, f0, f1, f2]) rfl ?_
                exact ElemE.mk HX.out hBf
          · have hx' := hx.out
            rw [k5, if_pos rfl] at hx'
            replace hx := Lib.hid hx'; clear hx'
            clear k5 hS hq
            go_wp2_with fail
            refine (hW _).mono ?_
            rintro e w6 ⟨rfl, rfl⟩
            clear hW
            go_wp2_with fail
            try rw [hSe]
            refine (hwt _).mono ?_
            rintro e w7 ⟨rfl, hb7⟩
            have hz0 := (Array.getElem?_eq_some_iff.1 hR).1
            replace hR := hR.below hb7 hz0
            replace hB := hB.trans (hb7.mono hB.size)
            clear hb7 hwt
            have hx2 : x = (if 0 < numOf (upL S.data.toList) then 1 else 2, if 0 < numOf (upL S.data.toList) then upL S.data.toList else S.data.toList, r) := by
              rw [hx.out]; split <;> rfl
            clear hx
            generalize (if 0 < numOf (upL S.data.toList) then (1 : Int) else 2) = K at hx2 ⊢
            generalize (if 0 < numOf (upL S.data.toList) then upL S.data.toList else S.data.toList) = Tl at hx2 ⊢
            obtain ⟨T, hT⟩ : ∃ T : ByteArray, T = ⟨Tl.toArray⟩ := ⟨_, rfl⟩
            rw [← hT]
            have HX := Lib.hid (show x = (K, T.data.toList, r) by rw [hx2, hT])
            clear hT hx2
            have z0 := frozen_of_row w7 w.heap.size 0 _ 25 hR
            have z1 := frozen_of_row w7 w.heap.size 1 _ 25 hR
            have z2 := frozen_of_row w7 w.heap.size 2 _ 25 hR
            have g0 := cell_of_row w7 w.heap.size 0 _ 25 (0, 0) hR
            have g1 := cell_of_row w7 w.heap.size 1 _ 25 (0, 0) hR
            have g2 := cell_of_row w7 w.heap.size 2 _ 25 (0, 0) hR
            go_wp2_with fail
            have hF := ((hR.set0 K).set1 T).set2 0
            have f0 := cell_of_row _ w.heap.size 0 _ 25 (0, 0) hF
            have f1 := cell_of_row _ w.heap.size 1 _ 25 (0, 0) hF
            have f2 := cell_of_row _ w.heap.size 2 _ 25 (0, 0) hF
            have hBf := ((hB.setCell (p := ⟨w.heap.size, 0, none⟩) (Nat.le_refl _) (.int .i64 K)).setCell (p := ⟨w.heap.size, 1, none⟩) (Nat.le_refl _) (.string T)).setCell (p := ⟨w.heap.size, 2, none⟩) (Nat.le_refl _) (.int .i64 0)
            clear g0 g1 g2 z0 z1 z2 hF
            generalize ((w7.setCell ⟨w.heap.size, 0, none⟩ (.int .i64 K)).setCell ⟨w.heap.size, 1, none⟩ (.string T)).setCell ⟨w.heap.size, 2, none⟩ (.int .i64 0) = wf at f0 f1 f2 hBf ⊢
            refine bodyPost_ret (v := .tuple #[.agg #[.int .i64 K, .string T, .int .i64 0], .int .i64 (r : Int)]) (by simp [results, Tryd.results37, go_sem, f0, f1, f2]) rfl ?_
            exact ElemE.mk HX.out hBf
        · have hx' := hx.out
          rw [k4, if_pos rfl] at hx'
          replace hx := Lib.hid hx'; clear hx'
          have HX := hx
          clear k4 hS hq hwt
          go_wp2_with fail
          refine (hW _).mono ?_
          rintro e w6 ⟨rfl, rfl⟩
          clear hW
          have z0 := frozen_of_row w6 w.heap.size 0 _ 25 hR
          have z1 := frozen_of_row w6 w.heap.size 1 _ 25 hR
          have z2 := frozen_of_row w6 w.heap.size 2 _ 25 hR
          have g0 := cell_of_row w6 w.heap.size 0 _ 25 (0, 0) hR
          have g1 := cell_of_row w6 w.heap.size 1 _ 25 (0, 0) hR
          have g2 := cell_of_row w6 w.heap.size 2 _ 25 (0, 0) hR
          go_wp2_with fail
          try rw [hSe]
          have hF := ((hR.set0 3).set1 S).set2 0
          have f0 := cell_of_row _ w.heap.size 0 _ 25 (0, 0) hF
          have f1 := cell_of_row _ w.heap.size 1 _ 25 (0, 0) hF
          have f2 := cell_of_row _ w.heap.size 2 _ 25 (0, 0) hF
          have hBf := ((hB.setCell (p := ⟨w.heap.size, 0, none⟩) (Nat.le_refl _) (.int .i64 3)).setCell (p := ⟨w.heap.size, 1, none⟩) (Nat.le_refl _) (.string S)).setCell (p := ⟨w.heap.size, 2, none⟩) (Nat.le_refl _) (.int .i64 0)
          clear g0 g1 g2 z0 z1 z2 hF
          generalize ((w6.setCell ⟨w.heap.size, 0, none⟩ (.int .i64 3)).setCell ⟨w.heap.size, 1, none⟩ (.string S)).setCell ⟨w.heap.size, 2, none⟩ (.int .i64 0) = wf at f0 f1 f2 hBf ⊢
          refine bodyPost_ret (v := .tuple #[.agg #[.int .i64 3, .string S, .int .i64 0], .int .i64 (r : Int)]) (by simp [results, Tryd.results37, go_sem, f0, f1, f2]) rfl ?_
          exact ElemE.mk HX.out hBf
      · have hx' := hx.out
        rw [k3, if_pos rfl] at hx'
        replace hx := Lib.hid hx'; clear hx'
        have h2 := hL k3
        have HX := hx
        clear k3 hS hq hwt hW
        go_wp2_with fail
        refine (hbl h2 _ (hlate _ hB)).mono ?_
        rintro e w6 ⟨rfl, rfl⟩
        clear hbl
        generalize longLen s.data.toList = n at HX ⊢
        have z0 := frozen_of_row w6 w.heap.size 0 _ 25 hR
        have z1 := frozen_of_row w6 w.heap.size 1 _ 25 hR
        have z2 := frozen_of_row w6 w.heap.size 2 _ 25 hR
        have g0 := cell_of_row w6 w.heap.size 0 _ 25 (0, 0) hR
        have g1 := cell_of_row w6 w.heap.size 1 _ 25 (0, 0) hR
        have g2 := cell_of_row w6 w.heap.size 2 _ 25 (0, 0) hR
        go_wp2_with fail
        have hF := ((hR.set0 0).set1 ⟨#[]⟩).set2 0
        have f0 := cell_of_row _ w.heap.size 0 _ 25 (0, 0) hF
        have f1 := cell_of_row _ w.heap.size 1 _ 25 (0, 0) hF
        have f2 := cell_of_row _ w.heap.size 2 _ 25 (0, 0) hF
        have hBf := ((hB.setCell (p := ⟨w.heap.size, 0, none⟩) (Nat.le_refl _) (.int .i64 0)).setCell (p := ⟨w.heap.size, 1, none⟩) (Nat.le_refl _) (.string ⟨#[]⟩)).setCell (p := ⟨w.heap.size, 2, none⟩) (Nat.le_refl _) (.int .i64 0)
        clear g0 g1 g2 z0 z1 z2 hF
        generalize ((w6.setCell ⟨w.heap.size, 0, none⟩ (.int .i64 0)).setCell ⟨w.heap.size, 1, none⟩ (.string ⟨#[]⟩)).setCell ⟨w.heap.size, 2, none⟩ (.int .i64 0) = wf at f0 f1 f2 hBf ⊢
        refine bodyPost_ret (v := .tuple #[.agg #[.int .i64 0, .string ⟨#[]⟩, .int .i64 0], .int .i64 (n : Int)]) (by simp [results, Tryd.results37, go_sem, f0, f1, f2]) rfl ?_
        exact ElemE.mk HX.out hBf
    · have hx' := hx.out
      rw [k2, if_pos rfl] at hx'
      replace hx := Lib.hid hx'; clear hx'
      have HX := hx
      clear k2 hS hq hwt hW hbl
      go_wp2_with fail
      refine (hli _).mono ?_
      rintro e w6 ⟨rfl, rfl⟩
      clear hli
      generalize lineEnd s.data.toList 0 = n at HX ⊢
      have z0 := frozen_of_row w6 w.heap.size 0 _ 25 hR
      have z1 := frozen_of_row w6 w.heap.size 1 _ 25 hR
      have z2 := frozen_of_row w6 w.heap.size 2 _ 25 hR
      have g0 := cell_of_row w6 w.heap.size 0 _ 25 (0, 0) hR
      have g1 := cell_of_row w6 w.heap.size 1 _ 25 (0, 0) hR
      have g2 := cell_of_row w6 w.heap.size 2 _ 25 (0, 0) hR
      go_wp2_with fail
      have hF := ((hR.set0 0).set1 ⟨#[]⟩).set2 0
      have f0 := cell_of_row _ w.heap.size 0 _ 25 (0, 0) hF
      have f1 := cell_of_row _ w.heap.size 1 _ 25 (0, 0) hF
      have f2 := cell_of_row _ w.heap.size 2 _ 25 (0, 0) hF
      have hBf := ((hB.setCell (p := ⟨w.heap.size, 0, none⟩) (Nat.le_refl _) (.int .i64 0)).setCell (p := ⟨w.heap.size, 1, none⟩) (Nat.le_refl _) (.string ⟨#[]⟩)).setCell (p := ⟨w.heap.size, 2, none⟩) (Nat.le_refl _) (.int .i64 0)
      clear g0 g1 g2 z0 z1 z2 hF
      generalize ((w6.setCell ⟨w.heap.size, 0, none⟩ (.int .i64 0)).setCell ⟨w.heap.size, 1, none⟩ (.string ⟨#[]⟩)).setCell ⟨w.heap.size, 2, none⟩ (.int .i64 0) = wf at f0 f1 f2 hBf ⊢
      refine bodyPost_ret (v := .tuple #[.agg #[.int .i64 0, .string ⟨#[]⟩, .int .i64 0], .int .i64 (n : Int)]) (by simp [results, Tryd.results37, go_sem, f0, f1, f2]) rfl ?_
      exact ElemE.mk HX.out hBf
  · have hx' := hx.out
    rw [k1, if_pos rfl] at hx'
    replace hx := Lib.hid hx'; clear hx'
    have HX := hx
    clear k1 hS hq hwt hW hbl hli
    have z0 := frozen_of_row w1 w.heap.size 0 _ 25 hR
    have z1 := frozen_of_row w1 w.heap.size 1 _ 25 hR
    have z2 := frozen_of_row w1 w.heap.size 2 _ 25 hR
    have g0 := cell_of_row w1 w.heap.size 0 _ 25 (0, 0) hR
    have g1 := cell_of_row w1 w.heap.size 1 _ 25 (0, 0) hR
    have g2 := cell_of_row w1 w.heap.size 2 _ 25 (0, 0) hR
    go_wp2_with fail
    have hF := ((hR.set0 0).set1 ⟨#[]⟩).set2 0
    have f0 := cell_of_row _ w.heap.size 0 _ 25 (0, 0) hF
    have f1 := cell_of_row _ w.heap.size 1 _ 25 (0, 0) hF
    have f2 := cell_of_row _ w.heap.size 2 _ 25 (0, 0) hF
    have hBf := ((hB.setCell (p := ⟨w.heap.size, 0, none⟩) (Nat.le_refl _) (.int .i64 0)).setCell (p := ⟨w.heap.size, 1, none⟩) (Nat.le_refl _) (.string ⟨#[]⟩)).setCell (p := ⟨w.heap.size, 2, none⟩) (Nat.le_refl _) (.int .i64 0)
    clear g0 g1 g2 z0 z1 z2 hF
    generalize ((w1.setCell ⟨w.heap.size, 0, none⟩ (.int .i64 0)).setCell ⟨w.heap.size, 1, none⟩ (.string ⟨#[]⟩)).setCell ⟨w.heap.size, 2, none⟩ (.int .i64 0) = wf at f0 f1 f2 hBf ⊢
    refine bodyPost_ret (v := .tuple #[.agg #[.int .i64 0, .string ⟨#[]⟩, .int .i64 0], .int .i64 1]) (by simp [results, Tryd.results37, go_sem, f0, f1, f2]) rfl ?_
    exact ElemE.mk (n := 1) HX.out hBf
end Go.Proofs.YtcadoplfgclbjaaDoor
