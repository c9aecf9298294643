
/- The contract of the program's reading of one element. -/
import Derived.Test.YtodgigdcdgdfdaaDoorElemF
namespace Go.Proofs.YtodgigdcdgdfdaaDoor
open Go.RowKit

set_option maxRecDepth 100000 in
set_option maxHeartbeats 8000000 in
theorem firstElement_impl (s : ByteArray) (w : World) (hs : s.size ≤ 4000000) (h0 : 0 < s.size) (hm : MaxI w) :
    Calls Tryd.prog 36 #[.string s] w (ElemE (el s.data.toList) w) := by
  have hlen : s.data.toList.length = s.size := rfl
  have h0i : (0 : Int) < (s.size : Int) := by omega
  have hR := tok_alloc w
  have hB := below_tok w
  have hb0 : Hid (s[0] = s.data.toList.getD 0 0) := lstr_at h0
  have hP1 := fun w => Tryd.strings_HasPrefix s ⟨#[45, 45]⟩ w
  have hP2 := fun w => Tryd.strings_HasPrefix s ⟨#[47, 42]⟩ w
  have e1 : Lib.hasPrefix s.data.toList (⟨#[45, 45]⟩ : ByteArray).data.toList = is2 s.data.toList 0 45 45 := pre_two _ _ _
  have e2 : Lib.hasPrefix s.data.toList (⟨#[47, 42]⟩ : ByteArray).data.toList = is2 s.data.toList 0 47 42 := pre_two _ _ _
  rw [e1] at hP1
  rw [e2] at hP2
  clear e1 e2
  have hx : el s.data.toList = el s.data.toList := rfl
  conv at hx => rhs; unfold el
  have hL : is2 s.data.toList 0 47 42 = true → 2 ≤ s.size := fun h => is2_lt h
  have hrl := runEnd_le s.data.toList _ 0 rfl (by omega)
  have hW := fun w => wordSize_impl s w hs
  have hsl := signLen_le s.data.toList
  have hS := fun w => signSize_impl s w hs
  have hq := fun q k h w hm => quotedToken_impl q k s w hs h0 h hm
  have hbl := fun h w hm => blockSize_impl s w hs h hm
  have hli := fun w => lineSize_impl s w hs
  have hext := ext_pre s (runEnd s.data.toList 0)
  have hexs := ext_pre s (signLen s.data.toList)
  have hsl0 : sl s.data.toList 0 (runEnd s.data.toList 0) = s.data.toList.take (runEnd s.data.toList 0) := by unfold sl; simp
  rw [hsl0, ← hext, ← hexs] at hx
  generalize s.data.toList.getD 0 0 = bt at *
  generalize runEnd s.data.toList 0 = r at *
  generalize signLen s.data.toList = sg at *
  generalize el s.data.toList = x at *
  have hri : (r : Int) ≤ (s.size : Int) := by omega
  have hsi : (sg : Int) ≤ (s.size : Int) := by omega
  obtain ⟨S, hSe⟩ : ∃ S, s.extract 0 r = S := ⟨_, rfl⟩
  obtain ⟨G, hGe⟩ : ∃ G, s.extract 0 sg = G := ⟨_, rfl⟩
  rw [hSe, hGe] at hx
  replace hx := Lib.hid hx
  have hSz : S.size ≤ 4000000 := by rw [← hSe, ByteArray.size_extract]; omega
  have hwt := fun w => wordToken_impl S w hSz
  clear hsl0 hext hexs hlen
  go_enter Tryd.func36, Tryd.ntmps36
  go_wp2_with fail
  generalize w.alloc (.cells #[.int .i64 0, .string ⟨#[]⟩, .int .i64 0] 31) = w0 at hR hB ⊢
  rw [hb0.out]
  refine (isSpace_impl _ _).mono ?_
  rintro e w1 ⟨rfl, rfl⟩
  have hlate : ∀ W, Below w.heap.size w W → MaxI W := fun W hb => hm.later hb hm.two
  clear hm
  cases k1 : spB (bt)
  · have hx' := hx.out
    rw [k1, if_neg (by simp)] at hx'
    replace hx := Lib.hid hx'; clear hx'
    clear k1
    go_wp2_with fail
    refine (hP1 _).mono ?_
    rintro e w2 ⟨rfl, rfl⟩
    clear hP1
    cases k2 : is2 s.data.toList 0 45 45
    · have hx' := hx.out
      rw [k2, if_neg (by simp)] at hx'
      replace hx := Lib.hid hx'; clear hx'
      clear k2 hli
      go_wp2_with fail
      refine (hP2 _).mono ?_
      rintro e w3 ⟨rfl, rfl⟩
      clear hP2
      cases k3 : is2 s.data.toList 0 47 42
      · have hx' := hx.out
        rw [k3, if_neg (by simp)] at hx'
        replace hx := Lib.hid hx'; clear hx'
        clear k3 hbl hL
        go_wp2_with fail
        refine (isDigit_any _ _).mono ?_
        rintro e w4 ⟨rfl, rfl⟩
        cases k4 : dg ((bt).toNat : Int)
        · have hx' := hx.out
          rw [k4, if_neg (by simp)] at hx'
          replace hx := Lib.hid hx'; clear hx'
          clear k4
          go_wp2_with fail
          refine (isWordByte_any _ _).mono ?_
          rintro e w5 ⟨rfl, rfl⟩
          cases k5 : wd ((bt).toNat : Int)
          · have hx' := hx.out
            rw [k5, if_neg (by simp)] at hx'
            replace hx := Lib.hid hx'; clear hx'
            clear k5 hW hwt
            by_cases k6 : bt = 34
            · have d6 : (((bt).toNat : Int) == 34) = true := u8_eq k6
              have hx' := hx.out
              rw [if_pos k6] at hx'
              replace hx := Lib.hid hx'; clear hx'
              have HX := hx
              have hqq := fun w hm => hq 34 2 k6 w hm
              clear hq hS
              generalize ((bt).toNat : Int) = b at d6 ⊢
              go_wp2_with fail
              refine (hqq _ (hlate _ hB)).mono ?_
              rintro e w6 ⟨rfl, hb6⟩
              have hz0 := (Array.getElem?_eq_some_iff.1 hR).1
              replace hR := hR.below hb6 hz0
              replace hB := hB.trans (hb6.mono hB.size)
              clear hb6 hqq
              obtain ⟨T, hT⟩ : ∃ T : ByteArray, T = ⟨(quoT 34 s.data.toList).toArray⟩ := ⟨_, rfl⟩
              rw [← hT]
              have HT := Lib.hid (show quoT 34 s.data.toList = T.data.toList by rw [hT])
              clear hT
              generalize quoK 34 2 s.data.toList = K at HX ⊢
              generalize quoL 34 s.data.toList = n at HX ⊢
              have z0 := frozen_of_row w6 w.heap.size 0 _ 31 hR
              have z1 := frozen_of_row w6 w.heap.size 1 _ 31 hR
              have z2 := frozen_of_row w6 w.heap.size 2 _ 31 hR
              have g0 := cell_of_row w6 w.heap.size 0 _ 31 (0, 0) hR
              have g1 := cell_of_row w6 w.heap.size 1 _ 31 (0, 0) hR
              have g2 := cell_of_row w6 w.heap.size 2 _ 31 (0, 0) hR
              go_wp2_with fail
              have hF := ((hR.set0 K).set1 T).set2 0
              have f0 := cell_of_row _ w.heap.size 0 _ 31 (0, 0) hF
              have f1 := cell_of_row _ w.heap.size 1 _ 31 (0, 0) hF
              have f2 := cell_of_row _ w.heap.size 2 _ 31 (0, 0) hF
              have hBf := ((hB.setCell (p := ⟨w.heap.size, 0, none⟩) (Nat.le_refl _) (.int .i64 K)).setCell (p := ⟨w.heap.size, 1, none⟩) (Nat.le_refl _) (.string T)).setCell (p := ⟨w.heap.size, 2, none⟩) (Nat.le_refl _) (.int .i64 0)
              clear g0 g1 g2 z0 z1 z2 hF
              generalize ((w6.setCell ⟨w.heap.size, 0, none⟩ (.int .i64 K)).setCell ⟨w.heap.size, 1, none⟩ (.string T)).setCell ⟨w.heap.size, 2, none⟩ (.int .i64 0) = wf at f0 f1 f2 hBf ⊢
              refine bodyPost_ret (v := .tuple #[.agg #[.int .i64 K, .string T, .int .i64 0], .int .i64 (n : Int)]) (by simp [results, Tryd.results36, go_sem, f0, f1, f2]) rfl ?_
              exact ElemE.mk (by rw [HX.out, HT.out]) hBf
            · have d6 : (((bt).toNat : Int) == 34) = false := u8_ne k6
              have hx' := hx.out
              rw [if_neg k6] at hx'
              replace hx := Lib.hid hx'; clear hx'
              by_cases k7 : bt = 39
              · have d7 : (((bt).toNat : Int) == 39) = true := u8_eq k7
                have hx' := hx.out
                rw [if_pos k7] at hx'
                replace hx := Lib.hid hx'; clear hx'
                have HX := hx
                have hqq := fun w hm => hq 39 4 k7 w hm
                clear hq hS
                generalize ((bt).toNat : Int) = b at d6 d7 ⊢
                go_wp2_with fail
                refine (hqq _ (hlate _ hB)).mono ?_
                rintro e w6 ⟨rfl, hb6⟩
                have hz0 := (Array.getElem?_eq_some_iff.1 hR).1
                replace hR := hR.below hb6 hz0
                replace hB := hB.trans (hb6.mono hB.size)
                clear hb6 hqq
                obtain ⟨T, hT⟩ : ∃ T : ByteArray, T = ⟨(quoT 39 s.data.toList).toArray⟩ := ⟨_, rfl⟩
                rw [← hT]
                have HT := Lib.hid (show quoT 39 s.data.toList = T.data.toList by rw [hT])
                clear hT
                generalize quoK 39 4 s.data.toList = K at HX ⊢
                generalize quoL 39 s.data.toList = n at HX ⊢
                have z0 := frozen_of_row w6 w.heap.size 0 _ 31 hR
                have z1 := frozen_of_row w6 w.heap.size 1 _ 31 hR
                have z2 := frozen_of_row w6 w.heap.size 2 _ 31 hR
                have g0 := cell_of_row w6 w.heap.size 0 _ 31 (0, 0) hR
                have g1 := cell_of_row w6 w.heap.size 1 _ 31 (0, 0) hR
                have g2 := cell_of_row w6 w.heap.size 2 _ 31 (0, 0) hR
                go_wp2_with fail
                have hF := ((hR.set0 K).set1 T).set2 0
                have f0 := cell_of_row _ w.heap.size 0 _ 31 (0, 0) hF
                have f1 := cell_of_row _ w.heap.size 1 _ 31 (0, 0) hF
                have f2 := cell_of_row _ w.heap.size 2 _ 31 (0, 0) hF
                have hBf := ((hB.setCell (p := ⟨w.heap.size, 0, none⟩) (Nat.le_refl _) (.int .i64 K)).setCell (p := ⟨w.heap.size, 1, none⟩) (Nat.le_refl _) (.string T)).setCell (p := ⟨w.heap.size, 2, none⟩) (Nat.le_refl _) (.int .i64 0)
                clear g0 g1 g2 z0 z1 z2 hF
                generalize ((w6.setCell ⟨w.heap.size, 0, none⟩ (.int .i64 K)).setCell ⟨w.heap.size, 1, none⟩ (.string T)).setCell ⟨w.heap.size, 2, none⟩ (.int .i64 0) = wf at f0 f1 f2 hBf ⊢
                refine bodyPost_ret (v := .tuple #[.agg #[.int .i64 K, .string T, .int .i64 0], .int .i64 (n : Int)]) (by simp [results, Tryd.results36, go_sem, f0, f1, f2]) rfl ?_
                exact ElemE.mk (by rw [HX.out, HT.out]) hBf
              · have d7 : (((bt).toNat : Int) == 39) = false := u8_ne k7
                have hx' := hx.out
                rw [if_neg k7] at hx'
                replace hx := Lib.hid hx'; clear hx'
                have HX := hx; clear hq
                generalize ((bt).toNat : Int) = b at d6 d7 ⊢
                go_wp2_with fail
                refine (hS _).mono ?_
                rintro e w6 ⟨rfl, rfl⟩
                clear hS
                have z0 := frozen_of_row w6 w.heap.size 0 _ 31 hR
                have z1 := frozen_of_row w6 w.heap.size 1 _ 31 hR
                have z2 := frozen_of_row w6 w.heap.size 2 _ 31 hR
                have g0 := cell_of_row w6 w.heap.size 0 _ 31 (0, 0) hR
                have g1 := cell_of_row w6 w.heap.size 1 _ 31 (0, 0) hR
                have g2 := cell_of_row w6 w.heap.size 2 _ 31 (0, 0) hR
                go_wp2_with fail
                try rw [hGe]
                have hF := ((hR.set0 5).set1 G).set2 0
                have f0 := cell_of_row _ w.heap.size 0 _ 31 (0, 0) hF
                have f1 := cell_of_row _ w.heap.size 1 _ 31 (0, 0) hF
                have f2 := cell_of_row _ w.heap.size 2 _ 31 (0, 0) hF
                have hBf := ((hB.setCell (p := ⟨w.heap.size, 0, none⟩) (Nat.le_refl _) (.int .i64 5)).setCell (p := ⟨w.heap.size, 1, none⟩) (Nat.le_refl _) (.string G)).setCell (p := ⟨w.heap.size, 2, none⟩) (Nat.le_refl _) (.int .i64 0)
                clear g0 g1 g2 z0 z1 z2 hF
                generalize ((w6.setCell ⟨w.heap.size, 0, none⟩ (.int .i64 5)).setCell ⟨w.heap.size, 1, none⟩ (.string G)).setCell ⟨w.heap.size, 2, none⟩ (.int .i64 0) = wf at f0 f1 f2 hBf ⊢
                refine bodyPost_ret (v := .tuple #[.agg #[.int .i64 5, .string G, .int .i64 0], .int .i64 (sg : Int)]) (by simp [results, Tryd.results36, go_sem, f0, f1, f2]) rfl ?_
                exact ElemE.mk HX.out hBf
          · have hx' := hx.out
            rw [k5, if_pos rfl] at hx'
            replace hx := Lib.hid hx'; clear hx'
            clear k5 hS hq
            go_wp2_with fail
            refine (hW _).mono ?_
            rintro e w6 ⟨rfl, rfl⟩
            clear hW
            go_wp2_with fail
            try rw [hSe]
            refine (hwt _).mono ?_
            rintro e w7 ⟨rfl, hb7⟩
            have hz0 := (Array.getElem?_eq_some_iff.1 hR).1
            replace hR := hR.below hb7 hz0
            replace hB := hB.trans (hb7.mono hB.size)
            clear hb7 hwt
            have hx2 : x = (if 0 < numOf (upL S.data.toList) then 1 else 2, if 0 < numOf (upL S.data.toList) then upL S.data.toList else S.data.toList, r) := by
              rw [hx.out]; split <;> rfl
            clear hx
            generalize (if 0 < numOf (upL S.data.toList) then (1 : Int) else 2) = K at hx2 ⊢
            generalize (if 0 < numOf (upL S.data.toList) then upL S.data.toList else S.data.toList) = Tl at hx2 ⊢
            obtain ⟨T, hT⟩ : ∃ T : ByteArray, T = ⟨Tl.toArray⟩ := ⟨_, rfl⟩
            rw [← hT]
            have HX := Lib.hid (show x = (K, T.data.toList, r) by rw [hx2, hT])
            clear hT hx2
            have z0 := frozen_of_row w7 w.heap.size 0 _ 31 hR
            have z1 := frozen_of_row w7 w.heap.size 1 _ 31 hR
            have z2 := frozen_of_row w7 w.heap.size 2 _ 31 hR
            have g0 := cell_of_row w7 w.heap.size 0 _ 31 (0, 0) hR
            have g1 := cell_of_row w7 w.heap.size 1 _ 31 (0, 0) hR
            have g2 := cell_of_row w7 w.heap.size 2 _ 31 (0, 0) hR
            go_wp2_with fail
            have hF := ((hR.set0 K).set1 T).set2 0
            have f0 := cell_of_row _ w.heap.size 0 _ 31 (0, 0) hF
            have f1 := cell_of_row _ w.heap.size 1 _ 31 (0, 0) hF
            have f2 := cell_of_row _ w.heap.size 2 _ 31 (0, 0) hF
            have hBf := ((hB.setCell (p := ⟨w.heap.size, 0, none⟩) (Nat.le_refl _) (.int .i64 K)).setCell (p := ⟨w.heap.size, 1, none⟩) (Nat.le_refl _) (.string T)).setCell (p := ⟨w.heap.size, 2, none⟩) (Nat.le_refl _) (.int .i64 0)
            clear g0 g1 g2 z0 z1 z2 hF
            generalize ((w7.setCell ⟨w.heap.size, 0, none⟩ (.int .i64 K)).setCell ⟨w.heap.size, 1, none⟩ (.string T)).setCell ⟨w.heap.size, 2, none⟩ (.int .i64 0) = wf at f0 f1 f2 hBf ⊢
            refine bodyPost_ret (v := .tuple #[.agg #[.int .i64 K, .string T, .int .i64 0], .int .i64 (r : Int)]) (by simp [results, Tryd.results36, go_sem, f0, f1, f2]) rfl ?_
            exact ElemE.mk HX.out hBf
        · have hx' := hx.out
          rw [k4, if_pos rfl] at hx'
          replace hx := Lib.hid hx'; clear hx'
          have HX := hx
          clear k4 hS hq hwt
          go_wp2_with fail
          refine (hW _).mono ?_
          rintro e w6 ⟨rfl, rfl⟩
          clear hW
          have z0 := frozen_of_row w6 w.heap.size 0 _ 31 hR
          have z1 := frozen_of_row w6 w.heap.size 1 _ 31 hR
          have z2 := frozen_of_row w6 w.heap.size 2 _ 31 hR
          have g0 := cell_of_row w6 w.heap.size 0 _ 31 (0, 0) hR
          have g1 := cell_of_row w6 w.heap.size 1 _ 31 (0, 0) hR
          have g2 := cell_of_row w6 w.heap.size 2 _ 31 (0, 0) hR
          go_wp2_with fail
          try rw [hSe]
          have hF := ((hR.set0 3).set1 S).set2 0
          have f0 := cell_of_row _ w.heap.size 0 _ 31 (0, 0) hF
          have f1 := cell_of_row _ w.heap.size 1 _ 31 (0, 0) hF
          have f2 := cell_of_row _ w.heap.size 2 _ 31 (0, 0) hF
          have hBf := ((hB.setCell (p := ⟨w.heap.size, 0, none⟩) (Nat.le_refl _) (.int .i64 3)).setCell (p := ⟨w.heap.size, 1, none⟩) (Nat.le_refl _) (.string S)).setCell (p := ⟨w.heap.size, 2, none⟩) (Nat.le_refl _) (.int .i64 0)
          clear g0 g1 g2 z0 z1 z2 hF
          generalize ((w6.setCell ⟨w.heap.size, 0, none⟩ (.int .i64 3)).setCell ⟨w.heap.size, 1, none⟩ (.string S)).setCell ⟨w.heap.size, 2, none⟩ (.int .i64 0) = wf at f0 f1 f2 hBf ⊢
          refine bodyPost_ret (v := .tuple #[.agg #[.int .i64 3, .string S, .int .i64 0], .int .i64 (r : Int)]) (by simp [results, Tryd.results36, go_sem, f0, f1, f2]) rfl ?_
          exact ElemE.mk HX.out hBf
      · have hx' := hx.out
        rw [k3, if_pos rfl] at hx'
        replace hx := Lib.hid hx'; clear hx'
        have h2 := hL k3
        have HX := hx
        clear k3 hS hq hwt hW
        go_wp2_with fail
        refine (hbl h2 _ (hlate _ hB)).mono ?_
        rintro e w6 ⟨rfl, rfl⟩
        clear hbl
        generalize longLen s.data.toList = n at HX ⊢
        have z0 := frozen_of_row w6 w.heap.size 0 _ 31 hR
        have z1 := frozen_of_row w6 w.heap.size 1 _ 31 hR
        have z2 := frozen_of_row w6 w.heap.size 2 _ 31 hR
        have g0 := cell_of_row w6 w.heap.size 0 _ 31 (0, 0) hR
        have g1 := cell_of_row w6 w.heap.size 1 _ 31 (0, 0) hR
        have g2 := cell_of_row w6 w.heap.size 2 _ 31 (0, 0) hR
        go_wp2_with fail
        have hF := ((hR.set0 0).set1 ⟨#[]⟩).set2 0
        have f0 := cell_of_row _ w.heap.size 0 _ 31 (0, 0) hF
        have f1 := cell_of_row _ w.heap.size 1 _ 31 (0, 0) hF
        have f2 := cell_of_row _ w.heap.size 2 _ 31 (0, 0) hF
        have hBf := ((hB.setCell (p := ⟨w.heap.size, 0, none⟩) (Nat.le_refl _) (.int .i64 0)).setCell (p := ⟨w.heap.size, 1, none⟩) (Nat.le_refl _) (.string ⟨#[]⟩)).setCell (p := ⟨w.heap.size, 2, none⟩) (Nat.le_refl _) (.int .i64 0)
        clear g0 g1 g2 z0 z1 z2 hF
        generalize ((w6.setCell ⟨w.heap.size, 0, none⟩ (.int .i64 0)).setCell ⟨w.heap.size, 1, none⟩ (.string ⟨#[]⟩)).setCell ⟨w.heap.size, 2, none⟩ (.int .i64 0) = wf at f0 f1 f2 hBf ⊢
        refine bodyPost_ret (v := .tuple #[.agg #[.int .i64 0, .string ⟨#[]⟩, .int .i64 0], .int .i64 (n : Int)]) (by simp [results, Tryd.results36, go_sem, f0, f1, f2]) rfl ?_
        exact ElemE.mk HX.out hBf
    · have hx' := hx.out
      rw [k2, if_pos rfl] at hx'
      replace hx := Lib.hid hx'; clear hx'
      have HX := hx
      clear k2 hS hq hwt hW hbl
      go_wp2_with fail
      refine (hli _).mono ?_
      rintro e w6 ⟨rfl, rfl⟩
      clear hli
      generalize lineEnd s.data.toList 0 = n at HX ⊢
      have z0 := frozen_of_row w6 w.heap.size 0 _ 31 hR
      have z1 := frozen_of_row w6 w.heap.size 1 _ 31 hR
      have z2 := frozen_of_row w6 w.heap.size 2 _ 31 hR
      have g0 := cell_of_row w6 w.heap.size 0 _ 31 (0, 0) hR
      have g1 := cell_of_row w6 w.heap.size 1 _ 31 (0, 0) hR
      have g2 := cell_of_row w6 w.heap.size 2 _ 31 (0, 0) hR
      go_wp2_with fail
      have hF := ((hR.set0 0).set1 ⟨#[]⟩).set2 0
      have f0 := cell_of_row _ w.heap.size 0 _ 31 (0, 0) hF
      have f1 := cell_of_row _ w.heap.size 1 _ 31 (0, 0) hF
      have f2 := cell_of_row _ w.heap.size 2 _ 31 (0, 0) hF
      have hBf := ((hB.setCell (p := ⟨w.heap.size, 0, none⟩) (Nat.le_refl _) (.int .i64 0)).setCell (p := ⟨w.heap.size, 1, none⟩) (Nat.le_refl _) (.string ⟨#[]⟩)).setCell (p := ⟨w.heap.size, 2, none⟩) (Nat.le_refl _) (.int .i64 0)
      clear g0 g1 g2 z0 z1 z2 hF
      generalize ((w6.setCell ⟨w.heap.size, 0, none⟩ (.int .i64 0)).setCell ⟨w.heap.size, 1, none⟩ (.string ⟨#[]⟩)).setCell ⟨w.heap.size, 2, none⟩ (.int .i64 0) = wf at f0 f1 f2 hBf ⊢
      refine bodyPost_ret (v := .tuple #[.agg #[.int .i64 0, .string ⟨#[]⟩, .int .i64 0], .int .i64 (n : Int)]) (by simp [results, Tryd.results36, go_sem, f0, f1, f2]) rfl ?_
      exact ElemE.mk HX.out hBf
  · have hx' := hx.out
    rw [k1, if_pos rfl] at hx'
    replace hx := Lib.hid hx'; clear hx'
    have HX := hx
    clear k1 hS hq hwt hW hbl hli
    have z0 := frozen_of_row w1 w.heap.size 0 _ 31 hR
    have z1 := frozen_of_row w1 w.heap.size 1 _ 31 hR
    have z2 := frozen_of_row w1 w.heap.size 2 _ 31 hR
    have g0 := cell_of_row w1 w.heap.size 0 _ 31 (0, 0) hR
    have g1 := cell_of_row w1 w.heap.size 1 _ 31 (0, 0) hR
    have g2 := cell_of_row w1 w.heap.size 2 _ 31 (0, 0) hR
    go_wp2_with fail
    have hF := ((hR.set0 0).set1 ⟨#[]⟩).set2 0
    have f0 := cell_of_row _ w.heap.size 0 _ 31 (0, 0) hF
    have f1 := cell_of_row _ w.heap.size 1 _ 31 (0, 0) hF
    have f2 := cell_of_row _ w.heap.size 2 _ 31 (0, 0) hF
    have hBf := ((hB.setCell (p := ⟨w.heap.size, 0, none⟩) (Nat.le_refl _) (.int .i64 0)).setCell (p := ⟨w.heap.size, 1, none⟩) (Nat.le_refl _) (.string ⟨#[]⟩)).setCell (p := ⟨w.heap.size, 2, none⟩) (Nat.le_refl _) (.int .i64 0)
    clear g0 g1 g2 z0 z1 z2 hF
    generalize ((w1.setCell ⟨w.heap.size, 0, none⟩ (.int .i64 0)).setCell ⟨w.heap.size, 1, none⟩ (.string ⟨#[]⟩)).setCell ⟨w.heap.size, 2, none⟩ (.int .i64 0) = wf at f0 f1 f2 hBf ⊢
    refine bodyPost_ret (v := .tuple #[.agg #[.int .i64 0, .string ⟨#[]⟩, .int .i64 0], .int .i64 1]) (by simp [results, Tryd.results36, go_sem, f0, f1, f2]) rfl ?_
    exact ElemE.mk (n := 1) HX.out hBf
end Go.Proofs.YtodgigdcdgdfdaaDoor
