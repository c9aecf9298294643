
/- The contract of the model's reading of one token. -/
import Derived.Test.YtodgigdcdgdfdaaDoorLexQ
import Derived.Test.YtodgigdcdgdfdaaDoorLexT
import Derived.Test.YtodgigdcdgdfdaaDoorTokAt
namespace Go.Proofs.YtodgigdcdgdfdaaDoor
open Go.RowKit


/-- what l3One hands back: the token and the place behind, or any token and -1 -/
def OneE (r : Option (Tk × Nat)) (w : World) (e : Ending) (w' : World) : Prop :=
  (match r with
    | some (t, n) => e = .returned (.tuple #[.agg #[.int .i64 t.k, .string ⟨t.t.toArray⟩, .int .i64 (t.a : Int)], .int .i64 (n : Int)])
    | none => ∃ (k : Int) (x : ByteArray) (n : Int), e = .returned (.tuple #[.agg #[.int .i64 k, .string x, .int .i64 n], .int .i64 (-1)])) ∧ Below w.heap.size w w'
theorem OneE.yes {r : Option (Tk × Nat)} {k : Int} {x : ByteArray} {a n : Nat} {w w' : World} (h : r = if tokOk k x.data.toList then some (⟨k, x.data.toList, a⟩, n) else none) (ht : tokOk k x.data.toList = true) (hb : Below w.heap.size w w') :
    OneE r w (.returned (.tuple #[.agg #[.int .i64 k, .string x, .int .i64 (a : Int)], .int .i64 (n : Int)])) w' := by
  rw [ht] at h
  subst h
  exact ⟨rfl, hb⟩
theorem OneE.no {r : Option (Tk × Nat)} {k : Int} {x : ByteArray} {a : Int} {w w' : World} (h : r = none) (hb : Below w.heap.size w w') :
    OneE r w (.returned (.tuple #[.agg #[.int .i64 k, .string x, .int .i64 a], .int .i64 (-1)])) w' := by
  subst h
  exact ⟨⟨k, x, a, rfl⟩, hb⟩

set_option maxRecDepth 100000 in
set_option maxHeartbeats 8000000 in
theorem one_spec (s : ByteArray) (a : Nat) (w : World) (ha : a < s.size) (hs : s.size ≤ 4000000) :
    Calls Tryd.prog 46 #[.string s, .int .i64 (a : Int)] w (OneE (one s.data.toList a) w) := by
  have hlen : s.data.toList.length = s.size := rfl
  have ha2 : (a : Int) < (s.size : Int) := by omega
  have hr1 := runEnd_ge s.data.toList _ a rfl
  have hr2 := runEnd_le s.data.toList _ a rfl (by omega)
  have hRun := fun w => run_spec s a w (by omega) (by omega)
  have hE0 := fun (h1 : let1 s.data.toList a = true) (h2 : ¬ 0 < numOf (upL (s.extract a (runEnd s.data.toList a)).data.toList)) => one_raw (raw_name h1 (by rw [← ext_sl]; exact h2))
  have hE1 := fun (h1 : let1 s.data.toList a = true) (h2 : 0 < numOf (upL (s.extract a (runEnd s.data.toList a)).data.toList)) => one_raw (raw_key h1 (by rw [← ext_sl]; exact h2))
  have hE2 := fun (h1 : let1 s.data.toList a = false) (h2 : dg ((s.data.toList.getD a 0).toNat : Int) = true) => one_raw (raw_num h1 h2)
  rw [← ext_sl] at hE0 hE1 hE2
  generalize runEnd s.data.toList a = r at hr1 hr2 hRun hE0 hE1 hE2
  have hr1i : (a : Int) ≤ (r : Int) := by omega
  have hr2i : (r : Int) ≤ (s.size : Int) := by omega
  have hSz : (s.extract a r).size ≤ s.size := by
    show (s.extract a r).data.toList.length ≤ s.data.toList.length
    rw [ext_sl]; exact sl_len _ _ _
  obtain ⟨S, hS⟩ : ∃ S, s.extract a r = S := ⟨_, rfl⟩
  rw [hS] at hE0 hE1 hE2 hSz
  have hKey := fun w => keyOf_spec S w (by unfold maxLen; omega)
  have hFold := fun w => fold_spec S w (by omega)
  have d0 : decide ((r : Int) < 0) = false := by simp
  go_enter Tryd.func46, Tryd.ntmps46
  go_wp2_with fail
  refine (l2Letter_any _ _).mono ?_
  rintro e w1 ⟨rfl, rfl⟩
  rw [lstr_at ha]
  have hLet : let1 s.data.toList a = (ltr ((s.data.toList.getD a 0).toNat : Int) || ((s.data.toList.getD a 0).toNat : Int) == 95) := rfl
  cases h1 : (ltr ((s.data.toList.getD a 0).toNat : Int) || ((s.data.toList.getD a 0).toNat : Int) == 95)
  · rw [h1] at hLet
    go_wp2_with fail
    refine (l2Figure_any _ _).mono ?_
    rintro e w1 ⟨rfl, rfl⟩
    rw [lstr_at ha]
    cases h2 : dg ((s.data.toList.getD a 0).toNat : Int)
    · have HB := Lib.hid (lstr_at ha)
      by_cases h3 : s[a] = 34
      · have q34 : (((s[a]).toNat : Int) == 34) = true := u8_eq h3
        have h3' : s.data.toList.getD a 0 = 34 := by rw [← HB.out]; exact h3
        clear h3
        go_wp2_with fail
        have hT0 : TokAt ((w.alloc (.cells #[.int .i64 0, .string ⟨#[]⟩, .int .i64 0] 31)).alloc (.cells #[.int .i64 2, .string ⟨#[]⟩, .int .i64 (a : Int)] 31)) (w.heap.size + 1) 2 ⟨#[]⟩ a := tok_new w _ 2 ⟨#[]⟩ a
        have hR0 : TokAt ((w.alloc (.cells #[.int .i64 0, .string ⟨#[]⟩, .int .i64 0] 31)).alloc (.cells #[.int .i64 2, .string ⟨#[]⟩, .int .i64 (a : Int)] 31)) w.heap.size 0 ⟨#[]⟩ 0 := tok_first w _
        have hB0 : Below w.heap.size w ((w.alloc (.cells #[.int .i64 0, .string ⟨#[]⟩, .int .i64 0] 31)).alloc (.cells #[.int .i64 2, .string ⟨#[]⟩, .int .i64 (a : Int)] 31)) := ((Below.refl _ _).alloc (Nat.le_refl _) _).alloc (by simp) _
        refine (quoted_spec s a _ ha hs).mono ?_
        rw [h3']
        rcases hqo : quo 34 s.data.toList (a + 1) with _ | ⟨x, n⟩
        · have HE := Lib.hid (one_no (by rw [raw_q34 hLet h2 h3', hqo]; rfl))
          clear hqo
          rintro e w2 ⟨rfl, hb2⟩
          have hT2 := hT0.below hb2 (Array.getElem?_eq_some_iff.1 hT0).1
          have hR2 := hR0.below hb2 (Array.getElem?_eq_some_iff.1 hR0).1
          have hB2 := hB0.trans (hb2.mono hB0.size)
          have c0 := cell_of_row w2 (w.heap.size + 1) 0 _ 31 (0, 0) hT2
          have c1 := cell_of_row w2 (w.heap.size + 1) 1 _ 31 (0, 0) hT2
          have c2 := cell_of_row w2 (w.heap.size + 1) 2 _ 31 (0, 0) hT2
          have z5 := frozen_of_row w2 (w.heap.size + 1) 0 _ 31 hT2
          have z6 := frozen_of_row w2 (w.heap.size + 1) 1 _ 31 hT2
          have z7 := frozen_of_row w2 (w.heap.size + 1) 2 _ 31 hT2
          have g0 := cell_of_row w2 (w.heap.size) 0 _ 31 (0, 0) hR2
          have g1 := cell_of_row w2 (w.heap.size) 1 _ 31 (0, 0) hR2
          have g2 := cell_of_row w2 (w.heap.size) 2 _ 31 (0, 0) hR2
          have z0 := frozen_of_row w2 (w.heap.size) 0 _ 31 hR2
          have z1 := frozen_of_row w2 (w.heap.size) 1 _ 31 hR2
          have z2 := frozen_of_row w2 (w.heap.size) 2 _ 31 hR2
          clear hb2
          have hR9 := hR2.set_other (C := w.heap.size + 1) (o := 1) (v := .string ⟨#[]⟩) (by omega)
          have hB9 := hB2.setCell (p := ⟨w.heap.size + 1, 1, none⟩) (by show w.heap.size ≤ w.heap.size + 1; omega) (.string ⟨#[]⟩)
          unfold quoV
          go_wp2_with fail
          have hF := ((hR9.set0 2).set1 ⟨#[]⟩).set2 (a : Int)
          have f0 := cell_of_row _ w.heap.size 0 _ 31 (0, 0) hF
          have f1 := cell_of_row _ w.heap.size 1 _ 31 (0, 0) hF
          have f2 := cell_of_row _ w.heap.size 2 _ 31 (0, 0) hF
          have hBf := ((hB9.setCell (p := ⟨w.heap.size, 0, none⟩) (Nat.le_refl _) (.int .i64 2)).setCell (p := ⟨w.heap.size, 1, none⟩) (Nat.le_refl _) (.string ⟨#[]⟩)).setCell (p := ⟨w.heap.size, 2, none⟩) (Nat.le_refl _) (.int .i64 (a : Int))
          clear c0 c1 c2 z5 z6 z7 g0 g1 g2 z0 z1 z2 hF
          generalize (((w2.setCell ⟨w.heap.size + 1, 1, none⟩ (.string ⟨#[]⟩)).setCell ⟨w.heap.size, 0, none⟩ (.int .i64 2)).setCell ⟨w.heap.size, 1, none⟩ (.string ⟨#[]⟩)).setCell ⟨w.heap.size, 2, none⟩ (.int .i64 (a : Int)) = wf at f0 f1 f2 hBf ⊢
          refine bodyPost_ret (v := .tuple #[.agg #[.int .i64 2, .string ⟨#[]⟩, .int .i64 (a : Int)], .int .i64 (-1)]) (by simp [results, Tryd.results46, go_sem, f0, f1, f2]) rfl ?_
          exact OneE.no HE.out hBf
        · have hqe := quo_end _ _ _ _ (Nat.le_refl _) _ hqo
          have HE := Lib.hid (one_raw (t := ⟨2, x, a⟩) (e := n) (by rw [raw_q34 hLet h2 h3', hqo]; rfl))
          have HE2 : Hid (one s.data.toList a = if tokOk 2 (⟨x.toArray⟩ : ByteArray).data.toList then some (⟨2, (⟨x.toArray⟩ : ByteArray).data.toList, a⟩, n) else none) := HE.out
          clear HE hqo
          have HE := HE2
          clear HE2
          have hXz : (⟨x.toArray⟩ : ByteArray).size ≤ s.size := by
            show x.length ≤ s.size
            have h1 : a + 1 + x.length < n := hqe.1
            have h2 : n ≤ s.size := hqe.2
            omega
          clear hqe
          have dn : decide ((n : Int) < 0) = false := by simp
          rintro e w2 ⟨rfl, hb2⟩
          have hT2 := hT0.below hb2 (Array.getElem?_eq_some_iff.1 hT0).1
          have hR2 := hR0.below hb2 (Array.getElem?_eq_some_iff.1 hR0).1
          have hB2 := hB0.trans (hb2.mono hB0.size)
          have c0 := cell_of_row w2 (w.heap.size + 1) 0 _ 31 (0, 0) hT2
          have c1 := cell_of_row w2 (w.heap.size + 1) 1 _ 31 (0, 0) hT2
          have c2 := cell_of_row w2 (w.heap.size + 1) 2 _ 31 (0, 0) hT2
          have z5 := frozen_of_row w2 (w.heap.size + 1) 0 _ 31 hT2
          have z6 := frozen_of_row w2 (w.heap.size + 1) 1 _ 31 hT2
          have z7 := frozen_of_row w2 (w.heap.size + 1) 2 _ 31 hT2
          clear hb2
          unfold quoV
          show _
          simp only []
          generalize (⟨x.toArray⟩ : ByteArray) = X at HE hXz ⊢
          go_wp2_with fail
          have hT4 := hT2.set1 X
          have hR4 := hR2.set_other (C := w.heap.size + 1) (o := 1) (v := .string X) (by omega)
          have hB4 := hB2.setCell (p := ⟨w.heap.size + 1, 1, none⟩) (by show w.heap.size ≤ w.heap.size + 1; omega) (.string X)
          clear z5 z6 z7
          refine (tokenOk_spec 2 X (a : Int) _ (by omega)).mono ?_
          rintro e w9 ⟨rfl, hb9⟩
          have hT9 := hT4.below hb9 (Array.getElem?_eq_some_iff.1 hT4).1
          have hR9 := hR4.below hb9 (Array.getElem?_eq_some_iff.1 hR4).1
          have hB9 := hB4.trans (hb9.mono hB4.size)
          clear hb9
          try clear c0 c1 c2
          have c0 := cell_of_row w9 (w.heap.size + 1) 0 _ 31 (0, 0) hT9
          have c1 := cell_of_row w9 (w.heap.size + 1) 1 _ 31 (0, 0) hT9
          have c2 := cell_of_row w9 (w.heap.size + 1) 2 _ 31 (0, 0) hT9
          have g0 := cell_of_row w9 (w.heap.size) 0 _ 31 (0, 0) hR9
          have g1 := cell_of_row w9 (w.heap.size) 1 _ 31 (0, 0) hR9
          have g2 := cell_of_row w9 (w.heap.size) 2 _ 31 (0, 0) hR9
          have z0 := frozen_of_row w9 (w.heap.size) 0 _ 31 hR9
          have z1 := frozen_of_row w9 (w.heap.size) 1 _ 31 hR9
          have z2 := frozen_of_row w9 (w.heap.size) 2 _ 31 hR9
          cases hq : tokOk 2 X.data.toList
          · have HN := Lib.hid (HE.out.trans (if_no hq))
            clear hq
            go_wp2_with fail
            have hF := ((hR9.set0 2).set1 X).set2 (a : Int)
            have f0 := cell_of_row _ w.heap.size 0 _ 31 (0, 0) hF
            have f1 := cell_of_row _ w.heap.size 1 _ 31 (0, 0) hF
            have f2 := cell_of_row _ w.heap.size 2 _ 31 (0, 0) hF
            have hBf := ((hB9.setCell (p := ⟨w.heap.size, 0, none⟩) (Nat.le_refl _) (.int .i64 2)).setCell (p := ⟨w.heap.size, 1, none⟩) (Nat.le_refl _) (.string X)).setCell (p := ⟨w.heap.size, 2, none⟩) (Nat.le_refl _) (.int .i64 (a : Int))
            clear c0 c1 c2 g0 g1 g2 z0 z1 z2 hF
            generalize ((w9.setCell ⟨w.heap.size, 0, none⟩ (.int .i64 2)).setCell ⟨w.heap.size, 1, none⟩ (.string X)).setCell ⟨w.heap.size, 2, none⟩ (.int .i64 (a : Int)) = wf at f0 f1 f2 hBf ⊢
            refine bodyPost_ret (v := .tuple #[.agg #[.int .i64 2, .string X, .int .i64 (a : Int)], .int .i64 (-1)]) (by simp [results, Tryd.results46, go_sem, f0, f1, f2]) rfl ?_
            exact OneE.no HN.out hBf
          · have HQ := Lib.hid hq
            clear hq
            go_wp2_with fail
            have hF := ((hR9.set0 2).set1 X).set2 (a : Int)
            have f0 := cell_of_row _ w.heap.size 0 _ 31 (0, 0) hF
            have f1 := cell_of_row _ w.heap.size 1 _ 31 (0, 0) hF
            have f2 := cell_of_row _ w.heap.size 2 _ 31 (0, 0) hF
            have hBf := ((hB9.setCell (p := ⟨w.heap.size, 0, none⟩) (Nat.le_refl _) (.int .i64 2)).setCell (p := ⟨w.heap.size, 1, none⟩) (Nat.le_refl _) (.string X)).setCell (p := ⟨w.heap.size, 2, none⟩) (Nat.le_refl _) (.int .i64 (a : Int))
            clear c0 c1 c2 g0 g1 g2 z0 z1 z2 hF
            generalize ((w9.setCell ⟨w.heap.size, 0, none⟩ (.int .i64 2)).setCell ⟨w.heap.size, 1, none⟩ (.string X)).setCell ⟨w.heap.size, 2, none⟩ (.int .i64 (a : Int)) = wf at f0 f1 f2 hBf ⊢
            refine bodyPost_ret (v := .tuple #[.agg #[.int .i64 2, .string X, .int .i64 (a : Int)], .int .i64 (n : Int)]) (by simp [results, Tryd.results46, go_sem, f0, f1, f2]) rfl ?_
            exact OneE.yes HE.out HQ.out hBf
      · have q34 : (((s[a]).toNat : Int) == 34) = false := u8_ne h3
        have h3' : ¬ s.data.toList.getD a 0 = 34 := by rw [← HB.out]; exact h3
        clear h3
        by_cases h4 : s[a] = 39
        · have q39 : (((s[a]).toNat : Int) == 39) = true := u8_eq h4
          have h4' : s.data.toList.getD a 0 = 39 := by rw [← HB.out]; exact h4
          clear h4
          go_wp2_with fail
          have hT0 : TokAt ((w.alloc (.cells #[.int .i64 0, .string ⟨#[]⟩, .int .i64 0] 31)).alloc (.cells #[.int .i64 4, .string ⟨#[]⟩, .int .i64 (a : Int)] 31)) (w.heap.size + 1) 4 ⟨#[]⟩ a := tok_new w _ 4 ⟨#[]⟩ a
          have hR0 : TokAt ((w.alloc (.cells #[.int .i64 0, .string ⟨#[]⟩, .int .i64 0] 31)).alloc (.cells #[.int .i64 4, .string ⟨#[]⟩, .int .i64 (a : Int)] 31)) w.heap.size 0 ⟨#[]⟩ 0 := tok_first w _
          have hB0 : Below w.heap.size w ((w.alloc (.cells #[.int .i64 0, .string ⟨#[]⟩, .int .i64 0] 31)).alloc (.cells #[.int .i64 4, .string ⟨#[]⟩, .int .i64 (a : Int)] 31)) := ((Below.refl _ _).alloc (Nat.le_refl _) _).alloc (by simp) _
          refine (quoted_spec s a _ ha hs).mono ?_
          rw [h4']
          rcases hqo : quo 39 s.data.toList (a + 1) with _ | ⟨x, n⟩
          · have HE := Lib.hid (one_no (by rw [raw_q39 hLet h2 h3' h4', hqo]; rfl))
            clear hqo
            rintro e w2 ⟨rfl, hb2⟩
            have hT2 := hT0.below hb2 (Array.getElem?_eq_some_iff.1 hT0).1
            have hR2 := hR0.below hb2 (Array.getElem?_eq_some_iff.1 hR0).1
            have hB2 := hB0.trans (hb2.mono hB0.size)
            have c0 := cell_of_row w2 (w.heap.size + 1) 0 _ 31 (0, 0) hT2
            have c1 := cell_of_row w2 (w.heap.size + 1) 1 _ 31 (0, 0) hT2
            have c2 := cell_of_row w2 (w.heap.size + 1) 2 _ 31 (0, 0) hT2
            have z5 := frozen_of_row w2 (w.heap.size + 1) 0 _ 31 hT2
            have z6 := frozen_of_row w2 (w.heap.size + 1) 1 _ 31 hT2
            have z7 := frozen_of_row w2 (w.heap.size + 1) 2 _ 31 hT2
            have g0 := cell_of_row w2 (w.heap.size) 0 _ 31 (0, 0) hR2
            have g1 := cell_of_row w2 (w.heap.size) 1 _ 31 (0, 0) hR2
            have g2 := cell_of_row w2 (w.heap.size) 2 _ 31 (0, 0) hR2
            have z0 := frozen_of_row w2 (w.heap.size) 0 _ 31 hR2
            have z1 := frozen_of_row w2 (w.heap.size) 1 _ 31 hR2
            have z2 := frozen_of_row w2 (w.heap.size) 2 _ 31 hR2
            clear hb2
            have hR9 := hR2.set_other (C := w.heap.size + 1) (o := 1) (v := .string ⟨#[]⟩) (by omega)
            have hB9 := hB2.setCell (p := ⟨w.heap.size + 1, 1, none⟩) (by show w.heap.size ≤ w.heap.size + 1; omega) (.string ⟨#[]⟩)
            unfold quoV
            go_wp2_with fail
            have hF := ((hR9.set0 4).set1 ⟨#[]⟩).set2 (a : Int)
            have f0 := cell_of_row _ w.heap.size 0 _ 31 (0, 0) hF
            have f1 := cell_of_row _ w.heap.size 1 _ 31 (0, 0) hF
            have f2 := cell_of_row _ w.heap.size 2 _ 31 (0, 0) hF
            have hBf := ((hB9.setCell (p := ⟨w.heap.size, 0, none⟩) (Nat.le_refl _) (.int .i64 4)).setCell (p := ⟨w.heap.size, 1, none⟩) (Nat.le_refl _) (.string ⟨#[]⟩)).setCell (p := ⟨w.heap.size, 2, none⟩) (Nat.le_refl _) (.int .i64 (a : Int))
            clear c0 c1 c2 z5 z6 z7 g0 g1 g2 z0 z1 z2 hF
            generalize (((w2.setCell ⟨w.heap.size + 1, 1, none⟩ (.string ⟨#[]⟩)).setCell ⟨w.heap.size, 0, none⟩ (.int .i64 4)).setCell ⟨w.heap.size, 1, none⟩ (.string ⟨#[]⟩)).setCell ⟨w.heap.size, 2, none⟩ (.int .i64 (a : Int)) = wf at f0 f1 f2 hBf ⊢
            refine bodyPost_ret (v := .tuple #[.agg #[.int .i64 4, .string ⟨#[]⟩, .int .i64 (a : Int)], .int .i64 (-1)]) (by simp [results, Tryd.results46, go_sem, f0, f1, f2]) rfl ?_
            exact OneE.no HE.out hBf
          · have hqe := quo_end _ _ _ _ (Nat.le_refl _) _ hqo
            have HE := Lib.hid (one_raw (t := ⟨4, x, a⟩) (e := n) (by rw [raw_q39 hLet h2 h3' h4', hqo]; rfl))
            have HE2 : Hid (one s.data.toList a = if tokOk 4 (⟨x.toArray⟩ : ByteArray).data.toList then some (⟨4, (⟨x.toArray⟩ : ByteArray).data.toList, a⟩, n) else none) := HE.out
            clear HE hqo
            have HE := HE2
            clear HE2
            have hXz : (⟨x.toArray⟩ : ByteArray).size ≤ s.size := by
              show x.length ≤ s.size
              have h1 : a + 1 + x.length < n := hqe.1
              have h2 : n ≤ s.size := hqe.2
              omega
            clear hqe
            have dn : decide ((n : Int) < 0) = false := by simp
            rintro e w2 ⟨rfl, hb2⟩
            have hT2 := hT0.below hb2 (Array.getElem?_eq_some_iff.1 hT0).1
            have hR2 := hR0.below hb2 (Array.getElem?_eq_some_iff.1 hR0).1
            have hB2 := hB0.trans (hb2.mono hB0.size)
            have c0 := cell_of_row w2 (w.heap.size + 1) 0 _ 31 (0, 0) hT2
            have c1 := cell_of_row w2 (w.heap.size + 1) 1 _ 31 (0, 0) hT2
            have c2 := cell_of_row w2 (w.heap.size + 1) 2 _ 31 (0, 0) hT2
            have z5 := frozen_of_row w2 (w.heap.size + 1) 0 _ 31 hT2
            have z6 := frozen_of_row w2 (w.heap.size + 1) 1 _ 31 hT2
            have z7 := frozen_of_row w2 (w.heap.size + 1) 2 _ 31 hT2
            clear hb2
            unfold quoV
            show _
            simp only []
            generalize (⟨x.toArray⟩ : ByteArray) = X at HE hXz ⊢
            go_wp2_with fail
            have hT4 := hT2.set1 X
            have hR4 := hR2.set_other (C := w.heap.size + 1) (o := 1) (v := .string X) (by omega)
            have hB4 := hB2.setCell (p := ⟨w.heap.size + 1, 1, none⟩) (by show w.heap.size ≤ w.heap.size + 1; omega) (.string X)
            clear z5 z6 z7
            refine (tokenOk_spec 4 X (a : Int) _ (by omega)).mono ?_
            rintro e w9 ⟨rfl, hb9⟩
            have hT9 := hT4.below hb9 (Array.getElem?_eq_some_iff.1 hT4).1
            have hR9 := hR4.below hb9 (Array.getElem?_eq_some_iff.1 hR4).1
            have hB9 := hB4.trans (hb9.mono hB4.size)
            clear hb9
            try clear c0 c1 c2
            have c0 := cell_of_row w9 (w.heap.size + 1) 0 _ 31 (0, 0) hT9
            have c1 := cell_of_row w9 (w.heap.size + 1) 1 _ 31 (0, 0) hT9
            have c2 := cell_of_row w9 (w.heap.size + 1) 2 _ 31 (0, 0) hT9
            have g0 := cell_of_row w9 (w.heap.size) 0 _ 31 (0, 0) hR9
            have g1 := cell_of_row w9 (w.heap.size) 1 _ 31 (0, 0) hR9
            have g2 := cell_of_row w9 (w.heap.size) 2 _ 31 (0, 0) hR9
            have z0 := frozen_of_row w9 (w.heap.size) 0 _ 31 hR9
            have z1 := frozen_of_row w9 (w.heap.size) 1 _ 31 hR9
            have z2 := frozen_of_row w9 (w.heap.size) 2 _ 31 hR9
            cases hq : tokOk 4 X.data.toList
            · have HN := Lib.hid (HE.out.trans (if_no hq))
              clear hq
              go_wp2_with fail
              have hF := ((hR9.set0 4).set1 X).set2 (a : Int)
              have f0 := cell_of_row _ w.heap.size 0 _ 31 (0, 0) hF
              have f1 := cell_of_row _ w.heap.size 1 _ 31 (0, 0) hF
              have f2 := cell_of_row _ w.heap.size 2 _ 31 (0, 0) hF
              have hBf := ((hB9.setCell (p := ⟨w.heap.size, 0, none⟩) (Nat.le_refl _) (.int .i64 4)).setCell (p := ⟨w.heap.size, 1, none⟩) (Nat.le_refl _) (.string X)).setCell (p := ⟨w.heap.size, 2, none⟩) (Nat.le_refl _) (.int .i64 (a : Int))
              clear c0 c1 c2 g0 g1 g2 z0 z1 z2 hF
              generalize ((w9.setCell ⟨w.heap.size, 0, none⟩ (.int .i64 4)).setCell ⟨w.heap.size, 1, none⟩ (.string X)).setCell ⟨w.heap.size, 2, none⟩ (.int .i64 (a : Int)) = wf at f0 f1 f2 hBf ⊢
              refine bodyPost_ret (v := .tuple #[.agg #[.int .i64 4, .string X, .int .i64 (a : Int)], .int .i64 (-1)]) (by simp [results, Tryd.results46, go_sem, f0, f1, f2]) rfl ?_
              exact OneE.no HN.out hBf
            · have HQ := Lib.hid hq
              clear hq
              go_wp2_with fail
              have hF := ((hR9.set0 4).set1 X).set2 (a : Int)
              have f0 := cell_of_row _ w.heap.size 0 _ 31 (0, 0) hF
              have f1 := cell_of_row _ w.heap.size 1 _ 31 (0, 0) hF
              have f2 := cell_of_row _ w.heap.size 2 _ 31 (0, 0) hF
              have hBf := ((hB9.setCell (p := ⟨w.heap.size, 0, none⟩) (Nat.le_refl _) (.int .i64 4)).setCell (p := ⟨w.heap.size, 1, none⟩) (Nat.le_refl _) (.string X)).setCell (p := ⟨w.heap.size, 2, none⟩) (Nat.le_refl _) (.int .i64 (a : Int))
              clear c0 c1 c2 g0 g1 g2 z0 z1 z2 hF
              generalize ((w9.setCell ⟨w.heap.size, 0, none⟩ (.int .i64 4)).setCell ⟨w.heap.size, 1, none⟩ (.string X)).setCell ⟨w.heap.size, 2, none⟩ (.int .i64 (a : Int)) = wf at f0 f1 f2 hBf ⊢
              refine bodyPost_ret (v := .tuple #[.agg #[.int .i64 4, .string X, .int .i64 (a : Int)], .int .i64 (n : Int)]) (by simp [results, Tryd.results46, go_sem, f0, f1, f2]) rfl ?_
              exact OneE.yes HE.out HQ.out hBf
        · have q39 : (((s[a]).toNat : Int) == 39) = false := u8_ne h4
          have h4' : ¬ s.data.toList.getD a 0 = 39 := by rw [← HB.out]; exact h4
          clear h4
          have e1 := ext_sl s a (a + 1)
          have e2 := ext_sl s a (a + 2)
          have hz1 : (s.extract a (a + 1)).size ≤ s.size := by
            show (s.extract a (a + 1)).data.toList.length ≤ s.data.toList.length
            rw [e1]; exact sl_len _ _ _
          have hz2 : (s.extract a (a + 2)).size ≤ s.size := by
            show (s.extract a (a + 2)).data.toList.length ≤ s.data.toList.length
            rw [e2]; exact sl_len _ _ _
          obtain ⟨S1, hS1⟩ : ∃ S1, s.extract a (a + 1) = S1 := ⟨_, rfl⟩
          obtain ⟨S2, hS2⟩ : ∃ S2, s.extract a (a + 2) = S2 := ⟨_, rfl⟩
          rw [hS1] at e1 hz1
          rw [hS2] at e2 hz2
          have dn1 : decide ((a : Int) + 1 < 0) = false := by simp; omega
          have dn2 : decide ((a : Int) + 2 < 0) = false := by simp; omega
          have ha3 : (a : Int) + 1 ≤ (s.size : Int) := by omega
          have hsl1 : ∀ W, (Instr.slice 9 (.string s) (some (.int .i64 (a : Int))) (some (.int .i64 ((a : Int) + 1))) none).run Tryd.prog W = .ok (.string S1) W := fun W => by
            have h := run_slice_string (P := Tryd.prog) W 9 s .i64 .i64 (a : Int) ((a : Int) + 1) Tryd.underlying9 (by omega) (by omega) (by omega)
            rw [Int.toNat_natCast, show ((a : Int) + 1).toNat = a + 1 from by omega, hS1] at h
            exact h
          have hsg := fun w => signOk_spec S2 w
          by_cases h5 : a + 2 ≤ s.size
          · have h5i : (a : Int) + 2 ≤ (s.size : Int) := by omega
            have d5 : decide ((a : Int) + 2 ≤ (s.size : Int)) = true := by simpa using h5i
            have hsl2 : ∀ W, (Instr.slice 9 (.string s) (some (.int .i64 (a : Int))) (some (.int .i64 ((a : Int) + 2))) none).run Tryd.prog W = .ok (.string S2) W := fun W => by
              have h := run_slice_string (P := Tryd.prog) W 9 s .i64 .i64 (a : Int) ((a : Int) + 2) Tryd.underlying9 (by omega) (by omega) (by omega)
              rw [Int.toNat_natCast, show ((a : Int) + 2).toNat = a + 2 from by omega, hS2] at h
              exact h
            cases h6 : signB S2.data.toList
            · have HE0 := one_raw (raw_one hLet h2 h3' h4' (fun h => by rw [← e2] at h; rw [h6] at h; cases h.2))
              rw [← e1] at HE0
              have HE := Lib.hid HE0
              clear HE0
              rw [h6] at hsg
              clear h6
              go_wp2_with fail
              refine (hsg _).mono ?_
              rintro e w2 ⟨rfl, rfl⟩
              go_wp2_with fail
              have hT0 : TokAt ((w.alloc (.cells #[.int .i64 0, .string ⟨#[]⟩, .int .i64 0] 31)).alloc (.cells #[.int .i64 5, .string S1, .int .i64 (a : Int)] 31)) (w.heap.size + 1) 5 S1 a := tok_new w _ 5 S1 a
              have hR0 : TokAt ((w.alloc (.cells #[.int .i64 0, .string ⟨#[]⟩, .int .i64 0] 31)).alloc (.cells #[.int .i64 5, .string S1, .int .i64 (a : Int)] 31)) w.heap.size 0 ⟨#[]⟩ 0 := tok_first w _
              have hB0 : Below w.heap.size w ((w.alloc (.cells #[.int .i64 0, .string ⟨#[]⟩, .int .i64 0] 31)).alloc (.cells #[.int .i64 5, .string S1, .int .i64 (a : Int)] 31)) := ((Below.refl _ _).alloc (Nat.le_refl _) _).alloc (by simp) _
              refine (tokenOk_spec 5 S1 (a : Int) _ (by omega)).mono ?_
              rintro e w9 ⟨rfl, hb9⟩
              have hT9 := hT0.below hb9 (Array.getElem?_eq_some_iff.1 hT0).1
              have hR9 := hR0.below hb9 (Array.getElem?_eq_some_iff.1 hR0).1
              have hB9 := hB0.trans (hb9.mono hB0.size)
              clear hb9
              try clear c0 c1 c2
              have c0 := cell_of_row w9 (w.heap.size + 1) 0 _ 31 (0, 0) hT9
              have c1 := cell_of_row w9 (w.heap.size + 1) 1 _ 31 (0, 0) hT9
              have c2 := cell_of_row w9 (w.heap.size + 1) 2 _ 31 (0, 0) hT9
              have g0 := cell_of_row w9 (w.heap.size) 0 _ 31 (0, 0) hR9
              have g1 := cell_of_row w9 (w.heap.size) 1 _ 31 (0, 0) hR9
              have g2 := cell_of_row w9 (w.heap.size) 2 _ 31 (0, 0) hR9
              have z0 := frozen_of_row w9 (w.heap.size) 0 _ 31 hR9
              have z1 := frozen_of_row w9 (w.heap.size) 1 _ 31 hR9
              have z2 := frozen_of_row w9 (w.heap.size) 2 _ 31 hR9
              cases hq : tokOk 5 S1.data.toList
              · have HN := Lib.hid (HE.out.trans (if_no hq))
                clear hq
                go_wp2_with fail
                have hF := ((hR9.set0 5).set1 S1).set2 (a : Int)
                have f0 := cell_of_row _ w.heap.size 0 _ 31 (0, 0) hF
                have f1 := cell_of_row _ w.heap.size 1 _ 31 (0, 0) hF
                have f2 := cell_of_row _ w.heap.size 2 _ 31 (0, 0) hF
                have hBf := ((hB9.setCell (p := ⟨w.heap.size, 0, none⟩) (Nat.le_refl _) (.int .i64 5)).setCell (p := ⟨w.heap.size, 1, none⟩) (Nat.le_refl _) (.string S1)).setCell (p := ⟨w.heap.size, 2, none⟩) (Nat.le_refl _) (.int .i64 (a : Int))
                clear c0 c1 c2 g0 g1 g2 z0 z1 z2 hF
                generalize ((w9.setCell ⟨w.heap.size, 0, none⟩ (.int .i64 5)).setCell ⟨w.heap.size, 1, none⟩ (.string S1)).setCell ⟨w.heap.size, 2, none⟩ (.int .i64 (a : Int)) = wf at f0 f1 f2 hBf ⊢
                refine bodyPost_ret (v := .tuple #[.agg #[.int .i64 5, .string S1, .int .i64 (a : Int)], .int .i64 (-1)]) (by simp [results, Tryd.results46, go_sem, f0, f1, f2]) rfl ?_
                exact OneE.no HN.out hBf
              · have HQ := Lib.hid hq
                clear hq
                go_wp2_with fail
                have hF := ((hR9.set0 5).set1 S1).set2 (a : Int)
                have f0 := cell_of_row _ w.heap.size 0 _ 31 (0, 0) hF
                have f1 := cell_of_row _ w.heap.size 1 _ 31 (0, 0) hF
                have f2 := cell_of_row _ w.heap.size 2 _ 31 (0, 0) hF
                have hBf := ((hB9.setCell (p := ⟨w.heap.size, 0, none⟩) (Nat.le_refl _) (.int .i64 5)).setCell (p := ⟨w.heap.size, 1, none⟩) (Nat.le_refl _) (.string S1)).setCell (p := ⟨w.heap.size, 2, none⟩) (Nat.le_refl _) (.int .i64 (a : Int))
                clear c0 c1 c2 g0 g1 g2 z0 z1 z2 hF
                generalize ((w9.setCell ⟨w.heap.size, 0, none⟩ (.int .i64 5)).setCell ⟨w.heap.size, 1, none⟩ (.string S1)).setCell ⟨w.heap.size, 2, none⟩ (.int .i64 (a : Int)) = wf at f0 f1 f2 hBf ⊢
                refine bodyPost_ret (v := .tuple #[.agg #[.int .i64 5, .string S1, .int .i64 (a : Int)], .int .i64 (((a + 1 : Nat)) : Int)]) (by simp [results, Tryd.results46, go_sem, f0, f1, f2]) rfl ?_
                exact OneE.yes HE.out HQ.out hBf
            · have HE0 := one_raw (raw_two hLet h2 h3' h4' ⟨h5, by rw [← e2]; exact h6⟩)
              rw [← e2] at HE0
              have HE := Lib.hid HE0
              clear HE0
              rw [h6] at hsg
              clear h6
              go_wp2_with fail
              refine (hsg _).mono ?_
              rintro e w2 ⟨rfl, rfl⟩
              go_wp2_with fail
              have hT0 : TokAt ((w.alloc (.cells #[.int .i64 0, .string ⟨#[]⟩, .int .i64 0] 31)).alloc (.cells #[.int .i64 5, .string S2, .int .i64 (a : Int)] 31)) (w.heap.size + 1) 5 S2 a := tok_new w _ 5 S2 a
              have hR0 : TokAt ((w.alloc (.cells #[.int .i64 0, .string ⟨#[]⟩, .int .i64 0] 31)).alloc (.cells #[.int .i64 5, .string S2, .int .i64 (a : Int)] 31)) w.heap.size 0 ⟨#[]⟩ 0 := tok_first w _
              have hB0 : Below w.heap.size w ((w.alloc (.cells #[.int .i64 0, .string ⟨#[]⟩, .int .i64 0] 31)).alloc (.cells #[.int .i64 5, .string S2, .int .i64 (a : Int)] 31)) := ((Below.refl _ _).alloc (Nat.le_refl _) _).alloc (by simp) _
              refine (tokenOk_spec 5 S2 (a : Int) _ (by omega)).mono ?_
              rintro e w9 ⟨rfl, hb9⟩
              have hT9 := hT0.below hb9 (Array.getElem?_eq_some_iff.1 hT0).1
              have hR9 := hR0.below hb9 (Array.getElem?_eq_some_iff.1 hR0).1
              have hB9 := hB0.trans (hb9.mono hB0.size)
              clear hb9
              try clear c0 c1 c2
              have c0 := cell_of_row w9 (w.heap.size + 1) 0 _ 31 (0, 0) hT9
              have c1 := cell_of_row w9 (w.heap.size + 1) 1 _ 31 (0, 0) hT9
              have c2 := cell_of_row w9 (w.heap.size + 1) 2 _ 31 (0, 0) hT9
              have g0 := cell_of_row w9 (w.heap.size) 0 _ 31 (0, 0) hR9
              have g1 := cell_of_row w9 (w.heap.size) 1 _ 31 (0, 0) hR9
              have g2 := cell_of_row w9 (w.heap.size) 2 _ 31 (0, 0) hR9
              have z0 := frozen_of_row w9 (w.heap.size) 0 _ 31 hR9
              have z1 := frozen_of_row w9 (w.heap.size) 1 _ 31 hR9
              have z2 := frozen_of_row w9 (w.heap.size) 2 _ 31 hR9
              cases hq : tokOk 5 S2.data.toList
              · have HN := Lib.hid (HE.out.trans (if_no hq))
                clear hq
                go_wp2_with fail
                have hF := ((hR9.set0 5).set1 S2).set2 (a : Int)
                have f0 := cell_of_row _ w.heap.size 0 _ 31 (0, 0) hF
                have f1 := cell_of_row _ w.heap.size 1 _ 31 (0, 0) hF
                have f2 := cell_of_row _ w.heap.size 2 _ 31 (0, 0) hF
                have hBf := ((hB9.setCell (p := ⟨w.heap.size, 0, none⟩) (Nat.le_refl _) (.int .i64 5)).setCell (p := ⟨w.heap.size, 1, none⟩) (Nat.le_refl _) (.string S2)).setCell (p := ⟨w.heap.size, 2, none⟩) (Nat.le_refl _) (.int .i64 (a : Int))
                clear c0 c1 c2 g0 g1 g2 z0 z1 z2 hF
                generalize ((w9.setCell ⟨w.heap.size, 0, none⟩ (.int .i64 5)).setCell ⟨w.heap.size, 1, none⟩ (.string S2)).setCell ⟨w.heap.size, 2, none⟩ (.int .i64 (a : Int)) = wf at f0 f1 f2 hBf ⊢
                refine bodyPost_ret (v := .tuple #[.agg #[.int .i64 5, .string S2, .int .i64 (a : Int)], .int .i64 (-1)]) (by simp [results, Tryd.results46, go_sem, f0, f1, f2]) rfl ?_
                exact OneE.no HN.out hBf
              · have HQ := Lib.hid hq
                clear hq
                go_wp2_with fail
                have hF := ((hR9.set0 5).set1 S2).set2 (a : Int)
                have f0 := cell_of_row _ w.heap.size 0 _ 31 (0, 0) hF
                have f1 := cell_of_row _ w.heap.size 1 _ 31 (0, 0) hF
                have f2 := cell_of_row _ w.heap.size 2 _ 31 (0, 0) hF
                have hBf := ((hB9.setCell (p := ⟨w.heap.size, 0, none⟩) (Nat.le_refl _) (.int .i64 5)).setCell (p := ⟨w.heap.size, 1, none⟩) (Nat.le_refl _) (.string S2)).setCell (p := ⟨w.heap.size, 2, none⟩) (Nat.le_refl _) (.int .i64 (a : Int))
                clear c0 c1 c2 g0 g1 g2 z0 z1 z2 hF
                generalize ((w9.setCell ⟨w.heap.size, 0, none⟩ (.int .i64 5)).setCell ⟨w.heap.size, 1, none⟩ (.string S2)).setCell ⟨w.heap.size, 2, none⟩ (.int .i64 (a : Int)) = wf at f0 f1 f2 hBf ⊢
                refine bodyPost_ret (v := .tuple #[.agg #[.int .i64 5, .string S2, .int .i64 (a : Int)], .int .i64 (((a + 2 : Nat)) : Int)]) (by simp [results, Tryd.results46, go_sem, f0, f1, f2]) rfl ?_
                exact OneE.yes HE.out HQ.out hBf
          · have d5 : decide ((a : Int) + 2 ≤ (s.size : Int)) = false := by simp; omega
            have HE0 := one_raw (raw_one hLet h2 h3' h4' (fun h => h5 h.1))
            rw [← e1] at HE0
            have HE := Lib.hid HE0
            clear HE0
            go_wp2_with fail
            have hT0 : TokAt ((w.alloc (.cells #[.int .i64 0, .string ⟨#[]⟩, .int .i64 0] 31)).alloc (.cells #[.int .i64 5, .string S1, .int .i64 (a : Int)] 31)) (w.heap.size + 1) 5 S1 a := tok_new w _ 5 S1 a
            have hR0 : TokAt ((w.alloc (.cells #[.int .i64 0, .string ⟨#[]⟩, .int .i64 0] 31)).alloc (.cells #[.int .i64 5, .string S1, .int .i64 (a : Int)] 31)) w.heap.size 0 ⟨#[]⟩ 0 := tok_first w _
            have hB0 : Below w.heap.size w ((w.alloc (.cells #[.int .i64 0, .string ⟨#[]⟩, .int .i64 0] 31)).alloc (.cells #[.int .i64 5, .string S1, .int .i64 (a : Int)] 31)) := ((Below.refl _ _).alloc (Nat.le_refl _) _).alloc (by simp) _
            refine (tokenOk_spec 5 S1 (a : Int) _ (by omega)).mono ?_
            rintro e w9 ⟨rfl, hb9⟩
            have hT9 := hT0.below hb9 (Array.getElem?_eq_some_iff.1 hT0).1
            have hR9 := hR0.below hb9 (Array.getElem?_eq_some_iff.1 hR0).1
            have hB9 := hB0.trans (hb9.mono hB0.size)
            clear hb9
            try clear c0 c1 c2
            have c0 := cell_of_row w9 (w.heap.size + 1) 0 _ 31 (0, 0) hT9
            have c1 := cell_of_row w9 (w.heap.size + 1) 1 _ 31 (0, 0) hT9
            have c2 := cell_of_row w9 (w.heap.size + 1) 2 _ 31 (0, 0) hT9
            have g0 := cell_of_row w9 (w.heap.size) 0 _ 31 (0, 0) hR9
            have g1 := cell_of_row w9 (w.heap.size) 1 _ 31 (0, 0) hR9
            have g2 := cell_of_row w9 (w.heap.size) 2 _ 31 (0, 0) hR9
            have z0 := frozen_of_row w9 (w.heap.size) 0 _ 31 hR9
            have z1 := frozen_of_row w9 (w.heap.size) 1 _ 31 hR9
            have z2 := frozen_of_row w9 (w.heap.size) 2 _ 31 hR9
            cases hq : tokOk 5 S1.data.toList
            · have HN := Lib.hid (HE.out.trans (if_no hq))
              clear hq
              go_wp2_with fail
              have hF := ((hR9.set0 5).set1 S1).set2 (a : Int)
              have f0 := cell_of_row _ w.heap.size 0 _ 31 (0, 0) hF
              have f1 := cell_of_row _ w.heap.size 1 _ 31 (0, 0) hF
              have f2 := cell_of_row _ w.heap.size 2 _ 31 (0, 0) hF
              have hBf := ((hB9.setCell (p := ⟨w.heap.size, 0, none⟩) (Nat.le_refl _) (.int .i64 5)).setCell (p := ⟨w.heap.size, 1, none⟩) (Nat.le_refl _) (.string S1)).setCell (p := ⟨w.heap.size, 2, none⟩) (Nat.le_refl _) (.int .i64 (a : Int))
              clear c0 c1 c2 g0 g1 g2 z0 z1 z2 hF
              generalize ((w9.setCell ⟨w.heap.size, 0, none⟩ (.int .i64 5)).setCell ⟨w.heap.size, 1, none⟩ (.string S1)).setCell ⟨w.heap.size, 2, none⟩ (.int .i64 (a : Int)) = wf at f0 f1 f2 hBf ⊢
              refine bodyPost_ret (v := .tuple #[.agg #[.int .i64 5, .string S1, .int .i64 (a : Int)], .int .i64 (-1)]) (by simp [results, Tryd.results46, go_sem, f0, f1, f2]) rfl ?_
              exact OneE.no HN.out hBf
            · have HQ := Lib.hid hq
              clear hq
              go_wp2_with fail
              have hF := ((hR9.set0 5).set1 S1).set2 (a : Int)
              have f0 := cell_of_row _ w.heap.size 0 _ 31 (0, 0) hF
              have f1 := cell_of_row _ w.heap.size 1 _ 31 (0, 0) hF
              have f2 := cell_of_row _ w.heap.size 2 _ 31 (0, 0) hF
              have hBf := ((hB9.setCell (p := ⟨w.heap.size, 0, none⟩) (Nat.le_refl _) (.int .i64 5)).setCell (p := ⟨w.heap.size, 1, none⟩) (Nat.le_refl _) (.string S1)).setCell (p := ⟨w.heap.size, 2, none⟩) (Nat.le_refl _) (.int .i64 (a : Int))
              clear c0 c1 c2 g0 g1 g2 z0 z1 z2 hF
              generalize ((w9.setCell ⟨w.heap.size, 0, none⟩ (.int .i64 5)).setCell ⟨w.heap.size, 1, none⟩ (.string S1)).setCell ⟨w.heap.size, 2, none⟩ (.int .i64 (a : Int)) = wf at f0 f1 f2 hBf ⊢
              refine bodyPost_ret (v := .tuple #[.agg #[.int .i64 5, .string S1, .int .i64 (a : Int)], .int .i64 (((a + 1 : Nat)) : Int)]) (by simp [results, Tryd.results46, go_sem, f0, f1, f2]) rfl ?_
              exact OneE.yes HE.out HQ.out hBf
    · have HE := Lib.hid (hE2 hLet h2)
      clear h2
      go_wp2_with fail
      refine (hRun _).mono ?_
      rintro e w1 ⟨rfl, rfl⟩
      go_wp2_with fail
      have hT0 : TokAt ((w.alloc (.cells #[.int .i64 0, .string ⟨#[]⟩, .int .i64 0] 31)).alloc (.cells #[.int .i64 3, .string S, .int .i64 (a : Int)] 31)) (w.heap.size + 1) 3 S a := tok_new w _ 3 S a
      have hR0 : TokAt ((w.alloc (.cells #[.int .i64 0, .string ⟨#[]⟩, .int .i64 0] 31)).alloc (.cells #[.int .i64 3, .string S, .int .i64 (a : Int)] 31)) w.heap.size 0 ⟨#[]⟩ 0 := tok_first w _
      have hB0 : Below w.heap.size w ((w.alloc (.cells #[.int .i64 0, .string ⟨#[]⟩, .int .i64 0] 31)).alloc (.cells #[.int .i64 3, .string S, .int .i64 (a : Int)] 31)) := ((Below.refl _ _).alloc (Nat.le_refl _) _).alloc (by simp) _
      refine (tokenOk_spec 3 S (a : Int) _ (by omega)).mono ?_
      rintro e w9 ⟨rfl, hb9⟩
      have hT9 := hT0.below hb9 (Array.getElem?_eq_some_iff.1 hT0).1
      have hR9 := hR0.below hb9 (Array.getElem?_eq_some_iff.1 hR0).1
      have hB9 := hB0.trans (hb9.mono hB0.size)
      clear hb9
      try clear c0 c1 c2
      have c0 := cell_of_row w9 (w.heap.size + 1) 0 _ 31 (0, 0) hT9
      have c1 := cell_of_row w9 (w.heap.size + 1) 1 _ 31 (0, 0) hT9
      have c2 := cell_of_row w9 (w.heap.size + 1) 2 _ 31 (0, 0) hT9
      have g0 := cell_of_row w9 (w.heap.size) 0 _ 31 (0, 0) hR9
      have g1 := cell_of_row w9 (w.heap.size) 1 _ 31 (0, 0) hR9
      have g2 := cell_of_row w9 (w.heap.size) 2 _ 31 (0, 0) hR9
      have z0 := frozen_of_row w9 (w.heap.size) 0 _ 31 hR9
      have z1 := frozen_of_row w9 (w.heap.size) 1 _ 31 hR9
      have z2 := frozen_of_row w9 (w.heap.size) 2 _ 31 hR9
      cases hq : tokOk 3 S.data.toList
      · have HN := Lib.hid (HE.out.trans (if_no hq))
        clear hq
        go_wp2_with fail
        have hF := ((hR9.set0 3).set1 S).set2 (a : Int)
        have f0 := cell_of_row _ w.heap.size 0 _ 31 (0, 0) hF
        have f1 := cell_of_row _ w.heap.size 1 _ 31 (0, 0) hF
        have f2 := cell_of_row _ w.heap.size 2 _ 31 (0, 0) hF
        have hBf := ((hB9.setCell (p := ⟨w.heap.size, 0, none⟩) (Nat.le_refl _) (.int .i64 3)).setCell (p := ⟨w.heap.size, 1, none⟩) (Nat.le_refl _) (.string S)).setCell (p := ⟨w.heap.size, 2, none⟩) (Nat.le_refl _) (.int .i64 (a : Int))
        clear c0 c1 c2 g0 g1 g2 z0 z1 z2 hF
        generalize ((w9.setCell ⟨w.heap.size, 0, none⟩ (.int .i64 3)).setCell ⟨w.heap.size, 1, none⟩ (.string S)).setCell ⟨w.heap.size, 2, none⟩ (.int .i64 (a : Int)) = wf at f0 f1 f2 hBf ⊢
        refine bodyPost_ret (v := .tuple #[.agg #[.int .i64 3, .string S, .int .i64 (a : Int)], .int .i64 (-1)]) (by simp [results, Tryd.results46, go_sem, f0, f1, f2]) rfl ?_
        exact OneE.no HN.out hBf
      · have HQ := Lib.hid hq
        clear hq
        go_wp2_with fail
        have hF := ((hR9.set0 3).set1 S).set2 (a : Int)
        have f0 := cell_of_row _ w.heap.size 0 _ 31 (0, 0) hF
        have f1 := cell_of_row _ w.heap.size 1 _ 31 (0, 0) hF
        have f2 := cell_of_row _ w.heap.size 2 _ 31 (0, 0) hF
        have hBf := ((hB9.setCell (p := ⟨w.heap.size, 0, none⟩) (Nat.le_refl _) (.int .i64 3)).setCell (p := ⟨w.heap.size, 1, none⟩) (Nat.le_refl _) (.string S)).setCell (p := ⟨w.heap.size, 2, none⟩) (Nat.le_refl _) (.int .i64 (a : Int))
        clear c0 c1 c2 g0 g1 g2 z0 z1 z2 hF
        generalize ((w9.setCell ⟨w.heap.size, 0, none⟩ (.int .i64 3)).setCell ⟨w.heap.size, 1, none⟩ (.string S)).setCell ⟨w.heap.size, 2, none⟩ (.int .i64 (a : Int)) = wf at f0 f1 f2 hBf ⊢
        refine bodyPost_ret (v := .tuple #[.agg #[.int .i64 3, .string S, .int .i64 (a : Int)], .int .i64 (r : Int)]) (by simp [results, Tryd.results46, go_sem, f0, f1, f2]) rfl ?_
        exact OneE.yes HE.out HQ.out hBf
  · rw [h1] at hLet
    go_wp2_with fail
    refine (hRun _).mono ?_
    rintro e w1 ⟨rfl, rfl⟩
    go_wp2_with fail
    have hT0 : TokAt ((w.alloc (.cells #[.int .i64 0, .string ⟨#[]⟩, .int .i64 0] 31)).alloc (.cells #[.int .i64 2, .string S, .int .i64 (a : Int)] 31)) (w.heap.size + 1) 2 S a := tok_new w _ 2 S a
    have hR0 : TokAt ((w.alloc (.cells #[.int .i64 0, .string ⟨#[]⟩, .int .i64 0] 31)).alloc (.cells #[.int .i64 2, .string S, .int .i64 (a : Int)] 31)) w.heap.size 0 ⟨#[]⟩ 0 := tok_first w _
    have hB0 : Below w.heap.size w ((w.alloc (.cells #[.int .i64 0, .string ⟨#[]⟩, .int .i64 0] 31)).alloc (.cells #[.int .i64 2, .string S, .int .i64 (a : Int)] 31)) := ((Below.refl _ _).alloc (Nat.le_refl _) _).alloc (by simp) _
    refine (hKey _).mono ?_
    rintro e w2 ⟨rfl, hb2⟩
    have hT2 := hT0.below hb2 (Array.getElem?_eq_some_iff.1 hT0).1
    have hR2 := hR0.below hb2 (Array.getElem?_eq_some_iff.1 hR0).1
    have hB2 := hB0.trans (hb2.mono hB0.size)
    clear hb2
    have c0 := cell_of_row w2 (w.heap.size + 1) 0 _ 31 (0, 0) hT2
    have c1 := cell_of_row w2 (w.heap.size + 1) 1 _ 31 (0, 0) hT2
    have c2 := cell_of_row w2 (w.heap.size + 1) 2 _ 31 (0, 0) hT2
    by_cases h2 : 0 < numOf (upL S.data.toList)
    · have dN : decide ((0 : Int) < (numOf (upL S.data.toList) : Int)) = true := by simp at h2 ⊢; omega
      have HE := Lib.hid (hE1 hLet h2)
      generalize (numOf (upL S.data.toList) : Int) = N at dN
      clear h2
      have z5 := frozen_of_row w2 (w.heap.size + 1) 0 _ 31 hT2
      go_wp2_with fail
      refine (hFold _).mono ?_
      rintro e w3 ⟨rfl, hb3⟩
      have hT2' := hT2.set0 1
      have hR2' := hR2.set_other (C := w.heap.size + 1) (o := 0) (v := .int .i64 1) (by omega)
      have hB2' := hB2.setCell (p := ⟨w.heap.size + 1, 0, none⟩) (by show w.heap.size ≤ w.heap.size + 1; omega) (.int .i64 1)
      have hT3 := hT2'.below hb3 (Array.getElem?_eq_some_iff.1 hT2').1
      have hR3 := hR2'.below hb3 (Array.getElem?_eq_some_iff.1 hR2').1
      have hB3 := hB2'.trans (hb3.mono hB2'.size)
      clear hb3 c0 c1 c2 z5
      have hUz : (⟨(upL S.data.toList).toArray⟩ : ByteArray).size ≤ s.size := by
        show (upL S.data.toList).length ≤ s.size
        rw [upL_len]; exact hSz
      have HE2 : Hid (one s.data.toList a = if tokOk 1 (⟨(upL S.data.toList).toArray⟩ : ByteArray).data.toList then some (⟨1, (⟨(upL S.data.toList).toArray⟩ : ByteArray).data.toList, a⟩, r) else none) := HE.out
      clear HE
      have HE := HE2
      clear HE2
      generalize (⟨(upL S.data.toList).toArray⟩ : ByteArray) = U at HE hUz ⊢
      have c0 := cell_of_row w3 (w.heap.size + 1) 0 _ 31 (0, 0) hT3
      have c1 := cell_of_row w3 (w.heap.size + 1) 1 _ 31 (0, 0) hT3
      have c2 := cell_of_row w3 (w.heap.size + 1) 2 _ 31 (0, 0) hT3
      have z5 := frozen_of_row w3 (w.heap.size + 1) 1 _ 31 hT3
      go_wp2_with fail
      have hT4 := hT3.set1 U
      have hR4 := hR3.set_other (C := w.heap.size + 1) (o := 1) (v := .string U) (by omega)
      have hB4 := hB3.setCell (p := ⟨w.heap.size + 1, 1, none⟩) (by show w.heap.size ≤ w.heap.size + 1; omega) (.string U)
      clear z5
      refine (tokenOk_spec 1 U (a : Int) _ (by omega)).mono ?_
      rintro e w9 ⟨rfl, hb9⟩
      have hT9 := hT4.below hb9 (Array.getElem?_eq_some_iff.1 hT4).1
      have hR9 := hR4.below hb9 (Array.getElem?_eq_some_iff.1 hR4).1
      have hB9 := hB4.trans (hb9.mono hB4.size)
      clear hb9
      try clear c0 c1 c2
      have c0 := cell_of_row w9 (w.heap.size + 1) 0 _ 31 (0, 0) hT9
      have c1 := cell_of_row w9 (w.heap.size + 1) 1 _ 31 (0, 0) hT9
      have c2 := cell_of_row w9 (w.heap.size + 1) 2 _ 31 (0, 0) hT9
      have g0 := cell_of_row w9 (w.heap.size) 0 _ 31 (0, 0) hR9
      have g1 := cell_of_row w9 (w.heap.size) 1 _ 31 (0, 0) hR9
      have g2 := cell_of_row w9 (w.heap.size) 2 _ 31 (0, 0) hR9
      have z0 := frozen_of_row w9 (w.heap.size) 0 _ 31 hR9
      have z1 := frozen_of_row w9 (w.heap.size) 1 _ 31 hR9
      have z2 := frozen_of_row w9 (w.heap.size) 2 _ 31 hR9
      cases hq : tokOk 1 U.data.toList
      · have HN := Lib.hid (HE.out.trans (if_no hq))
        clear hq
        go_wp2_with fail
        have hF := ((hR9.set0 1).set1 U).set2 (a : Int)
        have f0 := cell_of_row _ w.heap.size 0 _ 31 (0, 0) hF
        have f1 := cell_of_row _ w.heap.size 1 _ 31 (0, 0) hF
        have f2 := cell_of_row _ w.heap.size 2 _ 31 (0, 0) hF
        have hBf := ((hB9.setCell (p := ⟨w.heap.size, 0, none⟩) (Nat.le_refl _) (.int .i64 1)).setCell (p := ⟨w.heap.size, 1, none⟩) (Nat.le_refl _) (.string U)).setCell (p := ⟨w.heap.size, 2, none⟩) (Nat.le_refl _) (.int .i64 (a : Int))
        clear c0 c1 c2 g0 g1 g2 z0 z1 z2 hF
        generalize ((w9.setCell ⟨w.heap.size, 0, none⟩ (.int .i64 1)).setCell ⟨w.heap.size, 1, none⟩ (.string U)).setCell ⟨w.heap.size, 2, none⟩ (.int .i64 (a : Int)) = wf at f0 f1 f2 hBf ⊢
        refine bodyPost_ret (v := .tuple #[.agg #[.int .i64 1, .string U, .int .i64 (a : Int)], .int .i64 (-1)]) (by simp [results, Tryd.results46, go_sem, f0, f1, f2]) rfl ?_
        exact OneE.no HN.out hBf
      · have HQ := Lib.hid hq
        clear hq
        go_wp2_with fail
        have hF := ((hR9.set0 1).set1 U).set2 (a : Int)
        have f0 := cell_of_row _ w.heap.size 0 _ 31 (0, 0) hF
        have f1 := cell_of_row _ w.heap.size 1 _ 31 (0, 0) hF
        have f2 := cell_of_row _ w.heap.size 2 _ 31 (0, 0) hF
        have hBf := ((hB9.setCell (p := ⟨w.heap.size, 0, none⟩) (Nat.le_refl _) (.int .i64 1)).setCell (p := ⟨w.heap.size, 1, none⟩) (Nat.le_refl _) (.string U)).setCell (p := ⟨w.heap.size, 2, none⟩) (Nat.le_refl _) (.int .i64 (a : Int))
        clear c0 c1 c2 g0 g1 g2 z0 z1 z2 hF
        generalize ((w9.setCell ⟨w.heap.size, 0, none⟩ (.int .i64 1)).setCell ⟨w.heap.size, 1, none⟩ (.string U)).setCell ⟨w.heap.size, 2, none⟩ (.int .i64 (a : Int)) = wf at f0 f1 f2 hBf ⊢
        refine bodyPost_ret (v := .tuple #[.agg #[.int .i64 1, .string U, .int .i64 (a : Int)], .int .i64 (r : Int)]) (by simp [results, Tryd.results46, go_sem, f0, f1, f2]) rfl ?_
        exact OneE.yes HE.out HQ.out hBf
    · have dN : decide ((0 : Int) < (numOf (upL S.data.toList) : Int)) = false := by simp at h2 ⊢; omega
      have HE := Lib.hid (hE0 hLet h2)
      generalize (numOf (upL S.data.toList) : Int) = N at dN
      clear h2
      go_wp2_with fail
      refine (tokenOk_spec 2 S (a : Int) _ (by omega)).mono ?_
      rintro e w9 ⟨rfl, hb9⟩
      have hT9 := hT2.below hb9 (Array.getElem?_eq_some_iff.1 hT2).1
      have hR9 := hR2.below hb9 (Array.getElem?_eq_some_iff.1 hR2).1
      have hB9 := hB2.trans (hb9.mono hB2.size)
      clear hb9
      try clear c0 c1 c2
      have c0 := cell_of_row w9 (w.heap.size + 1) 0 _ 31 (0, 0) hT9
      have c1 := cell_of_row w9 (w.heap.size + 1) 1 _ 31 (0, 0) hT9
      have c2 := cell_of_row w9 (w.heap.size + 1) 2 _ 31 (0, 0) hT9
      have g0 := cell_of_row w9 (w.heap.size) 0 _ 31 (0, 0) hR9
      have g1 := cell_of_row w9 (w.heap.size) 1 _ 31 (0, 0) hR9
      have g2 := cell_of_row w9 (w.heap.size) 2 _ 31 (0, 0) hR9
      have z0 := frozen_of_row w9 (w.heap.size) 0 _ 31 hR9
      have z1 := frozen_of_row w9 (w.heap.size) 1 _ 31 hR9
      have z2 := frozen_of_row w9 (w.heap.size) 2 _ 31 hR9
      cases hq : tokOk 2 S.data.toList
      · have HN := Lib.hid (HE.out.trans (if_no hq))
        clear hq
        go_wp2_with fail
        have hF := ((hR9.set0 2).set1 S).set2 (a : Int)
        have f0 := cell_of_row _ w.heap.size 0 _ 31 (0, 0) hF
        have f1 := cell_of_row _ w.heap.size 1 _ 31 (0, 0) hF
        have f2 := cell_of_row _ w.heap.size 2 _ 31 (0, 0) hF
        have hBf := ((hB9.setCell (p := ⟨w.heap.size, 0, none⟩) (Nat.le_refl _) (.int .i64 2)).setCell (p := ⟨w.heap.size, 1, none⟩) (Nat.le_refl _) (.string S)).setCell (p := ⟨w.heap.size, 2, none⟩) (Nat.le_refl _) (.int .i64 (a : Int))
        clear c0 c1 c2 g0 g1 g2 z0 z1 z2 hF
        generalize ((w9.setCell ⟨w.heap.size, 0, none⟩ (.int .i64 2)).setCell ⟨w.heap.size, 1, none⟩ (.string S)).setCell ⟨w.heap.size, 2, none⟩ (.int .i64 (a : Int)) = wf at f0 f1 f2 hBf ⊢
        refine bodyPost_ret (v := .tuple #[.agg #[.int .i64 2, .string S, .int .i64 (a : Int)], .int .i64 (-1)]) (by simp [results, Tryd.results46, go_sem, f0, f1, f2]) rfl ?_
        exact OneE.no HN.out hBf
      · have HQ := Lib.hid hq
        clear hq
        go_wp2_with fail
        have hF := ((hR9.set0 2).set1 S).set2 (a : Int)
        have f0 := cell_of_row _ w.heap.size 0 _ 31 (0, 0) hF
        have f1 := cell_of_row _ w.heap.size 1 _ 31 (0, 0) hF
        have f2 := cell_of_row _ w.heap.size 2 _ 31 (0, 0) hF
        have hBf := ((hB9.setCell (p := ⟨w.heap.size, 0, none⟩) (Nat.le_refl _) (.int .i64 2)).setCell (p := ⟨w.heap.size, 1, none⟩) (Nat.le_refl _) (.string S)).setCell (p := ⟨w.heap.size, 2, none⟩) (Nat.le_refl _) (.int .i64 (a : Int))
        clear c0 c1 c2 g0 g1 g2 z0 z1 z2 hF
        generalize ((w9.setCell ⟨w.heap.size, 0, none⟩ (.int .i64 2)).setCell ⟨w.heap.size, 1, none⟩ (.string S)).setCell ⟨w.heap.size, 2, none⟩ (.int .i64 (a : Int)) = wf at f0 f1 f2 hBf ⊢
        refine bodyPost_ret (v := .tuple #[.agg #[.int .i64 2, .string S, .int .i64 (a : Int)], .int .i64 (r : Int)]) (by simp [results, Tryd.results46, go_sem, f0, f1, f2]) rfl ?_
        exact OneE.yes HE.out HQ.out hBf
end Go.Proofs.YtodgigdcdgdfdaaDoor
