
/- The contract of the program's text of a token, and the walk of the law on it. -/
import Derived.Test.YtodgigdcdgdfdaaDoorTokText
import Derived.Test.YtodgigdcdgdfdaaDoorTextI
import Derived.Test.YtodgigdcdgdfdaaDoorTokI
import Derived.Test.YtodgigdcdgdfdaaDoorTokArg
namespace Go.Proofs.YtodgigdcdgdfdaaDoor
open Go.RowKit

set_option maxRecDepth 100000 in
set_option maxHeartbeats 1600000 in
theorem tokenText_impl (k : Int) (t : ByteArray) (a : Int) (w : World) (ht : t.size ≤ 9223372036854775807) (hm : MaxI w) :
    Calls Tryd.prog 28 #[.agg #[.int .i64 k, .string t, .int .i64 a]] w (StrE (tokTextL k t.data.toList) w) := by
  have hsz : t.data.toList.length = t.size := rfl
  have hO := fun w => tokenOk_impl k t a w ht
  have hT : tokTextL k t.data.toList = (if tokOk k t.data.toList then (if k = 2 then nameL t.data.toList else if k = 4 then quoted 39 t.data.toList else t.data.toList) else []) := rfl
  cases ho : tokOk k t.data.toList
  · rw [ho] at hO hT
    have HT := Lib.hid (show tokTextL k t.data.toList = [] from hT)
    clear hT ho
    go_enter Tryd.func28, Tryd.ntmps28
    go_wp2_with fail
    refine (hO _).mono ?_
    rintro e w1 ⟨rfl, hb1⟩
    have hbb := ((Below.refl w.heap.size w).alloc (Nat.le_refl _) (.cells #[.int .i64 k, .string t, .int .i64 a] 31)).trans (hb1.mono (by simp))
    go_wp2_with fail
    go_ret
    exact ⟨ret_str HT.out.symm, hbb⟩
  · have hsm := tokOk_small ho
    rw [ho] at hO hT
    by_cases h2 : k = 2
    · subst h2
      have HT := Lib.hid (show tokTextL 2 t.data.toList = nameL t.data.toList from hT)
      clear hT ho
      go_enter Tryd.func28, Tryd.ntmps28
      go_wp2_with fail
      refine (hO _).mono ?_
      rintro e w1 ⟨rfl, hb1⟩
      have hbb := ((Below.refl w.heap.size w).alloc (Nat.le_refl _) (.cells #[.int .i64 2, .string t, .int .i64 a] 31)).trans (hb1.mono (by simp))
      have c0 := (hb1.cell (p := ⟨w.heap.size, 0, none⟩) (by simp)).trans (cell_of_row _ w.heap.size 0 _ 31 (0, 0) (heap_alloc_new w _))
      have c1 := (hb1.cell (p := ⟨w.heap.size, 1, none⟩) (by simp)).trans (cell_of_row _ w.heap.size 1 _ 31 (0, 0) (heap_alloc_new w _))
      go_wp2_with fail
      refine (nameText_impl t _ ht (hm.later hbb hm.two)).mono ?_
      rintro e w2 ⟨rfl, hb2⟩
      go_wp2_with fail
      go_ret
      exact ⟨ret_str HT.out.symm, hbb.trans (hb2.mono hbb.size)⟩
    · have q2 : (k == 2) = false := by simpa using h2
      by_cases h4 : k = 4
      · subst h4
        have HT := Lib.hid (show tokTextL 4 t.data.toList = quoted 39 t.data.toList from hT)
        clear hT ho h2
        go_enter Tryd.func28, Tryd.ntmps28
        go_wp2_with fail
        refine (hO _).mono ?_
        rintro e w1 ⟨rfl, hb1⟩
        have hbb := ((Below.refl w.heap.size w).alloc (Nat.le_refl _) (.cells #[.int .i64 4, .string t, .int .i64 a] 31)).trans (hb1.mono (by simp))
        have c0 := (hb1.cell (p := ⟨w.heap.size, 0, none⟩) (by simp)).trans (cell_of_row _ w.heap.size 0 _ 31 (0, 0) (heap_alloc_new w _))
        have c1 := (hb1.cell (p := ⟨w.heap.size, 1, none⟩) (by simp)).trans (cell_of_row _ w.heap.size 1 _ 31 (0, 0) (heap_alloc_new w _))
        go_wp2_with fail
        refine (quoteText_impl t _ (by omega) (hm.later hbb hm.two)).mono ?_
        rintro e w2 ⟨rfl, hb2⟩
        go_wp2_with fail
        go_ret
        exact ⟨ret_str HT.out.symm, hbb.trans (hb2.mono hbb.size)⟩
      · have q4 : (k == 4) = false := by simpa using h4
        have HT := Lib.hid (show tokTextL k t.data.toList = t.data.toList by rw [hT, if_pos rfl, if_neg h2, if_neg h4])
        clear hT ho h2 h4
        go_enter Tryd.func28, Tryd.ntmps28
        go_wp2_with fail
        refine (hO _).mono ?_
        rintro e w1 ⟨rfl, hb1⟩
        have hbb := ((Below.refl w.heap.size w).alloc (Nat.le_refl _) (.cells #[.int .i64 k, .string t, .int .i64 a] 31)).trans (hb1.mono (by simp))
        have c0 := (hb1.cell (p := ⟨w.heap.size, 0, none⟩) (by simp)).trans (cell_of_row _ w.heap.size 0 _ 31 (0, 0) (heap_alloc_new w _))
        have c1 := (hb1.cell (p := ⟨w.heap.size, 1, none⟩) (by simp)).trans (cell_of_row _ w.heap.size 1 _ 31 (0, 0) (heap_alloc_new w _))
        go_wp2_with fail
        go_ret
        exact ⟨ret_ba' HT.out, hbb⟩
theorem leftOf_neg {n z : Int} (h : n - z < 0) : decide (leftOf n z < 0) = true := by unfold leftOf; rw [if_pos h]; rfl
theorem leftOf_nat {n z : Int} (h : ¬ n - z < 0) : decide (leftOf n z < 0) = false := by unfold leftOf; rw [if_neg h]; simpa using h

set_option maxRecDepth 100000 in
set_option maxHeartbeats 1600000 in
theorem ex_tokenText (k : Int) (t : ByteArray) (a : Int) (w : World) (hs : t.size ≤ maxLen) (hm : MaxI w) : Calls Tryd.prog 7 #[.agg #[.int .i64 k, .string t, .int .i64 a]] w (BoolE true w) := by
  have hs2 : t.size ≤ 9223372036854775807 := hs
  have hZ := fun w => szToken_any k t a 1048576 w hs2 (by omega) (by omega)
  have hB0 : ∀ w0 : World, w0 = w.alloc (.cells #[.int .i64 k, .string t, .int .i64 a] 35) → w0.heap[w.heap.size]? = some (.cells #[.int .i64 k, .string t, .int .i64 a] 35 (0, 0)) ∧ Below w.heap.size w w0 := fun w0 e => by
    subst e
    exact ⟨heap_alloc_new w _, (Below.refl _ _).alloc (Nat.le_refl _) _⟩
  by_cases hbig : 1048576 - (t.size : Int) < 0
  · have hd := leftOf_neg hbig
    generalize leftOf 1048576 t.size = z at hZ hd
    clear hbig hB0
    go_enter Tryd.func7, Tryd.ntmps7
    go_wp2_with fail
    refine (hZ _).mono ?_
    rintro e w1 ⟨rfl, hb1⟩
    have hbb := ((Below.refl w.heap.size w).alloc (Nat.le_refl _) _).trans (hb1.mono (by simp))
    go_wp2_with fail
    go_ret
    exact ⟨rfl, hbb⟩
  · have hd := leftOf_nat hbig
    generalize leftOf 1048576 t.size = z at hZ hd
    clear hbig
    have hS := fun w => tokenText_spec k t a w hs2
    have hI := fun w hm => tokenText_impl k t a w hs2 hm
    have hC := fun w => toToken_any k t a w
    have hlate : ∀ W, Below w.heap.size w W → MaxI W := fun W hb => hm.later hb hm.two
    clear hm
    unfold StrE at hS hI
    generalize (⟨(tokTextL k t.data.toList).toArray⟩ : ByteArray) = U at hS hI
    have hU : (U.toList != U.toList) = false := by simp
    have once : True := trivial
    cases once
    all_goals
      go_enter Tryd.func7, Tryd.ntmps7
      go_wp2_with fail
      obtain ⟨hR, hB⟩ := hB0 _ rfl
      clear hB0
      generalize w.alloc (.cells #[.int .i64 k, .string t, .int .i64 a] 35) = w0 at hR hB ⊢
      refine (hZ _).mono ?_
      rintro e w1 ⟨rfl, hb1⟩
      replace hR := (hb1.block w.heap.size (Array.getElem?_eq_some_iff.1 hR).1).trans hR
      replace hB := hB.trans (hb1.mono hB.size)
      have c0 := cell_of_row w1 w.heap.size 0 _ 35 (0, 0) hR
      have c1 := cell_of_row w1 w.heap.size 1 _ 35 (0, 0) hR
      have c2 := cell_of_row w1 w.heap.size 2 _ 35 (0, 0) hR
      clear hb1 hZ
      go_wp2_with fail
      refine (hC _).mono ?_
      rintro e w2 ⟨rfl, hb2⟩
      replace hR := (hb2.block w.heap.size (Array.getElem?_eq_some_iff.1 hR).1).trans hR
      replace hB := hB.trans (hb2.mono hB.size)
      clear hb2 c0 c1 c2
      go_wp2_with fail
      refine (hS _).mono ?_
      rintro e w3 ⟨rfl, hb3⟩
      replace hR := (hb3.block w.heap.size (Array.getElem?_eq_some_iff.1 hR).1).trans hR
      replace hB := hB.trans (hb3.mono hB.size)
      have c0 := cell_of_row w3 w.heap.size 0 _ 35 (0, 0) hR
      have c1 := cell_of_row w3 w.heap.size 1 _ 35 (0, 0) hR
      have c2 := cell_of_row w3 w.heap.size 2 _ 35 (0, 0) hR
      clear hb3 hS
      go_wp2_with fail
      refine (hC _).mono ?_
      rintro e w4 ⟨rfl, hb4⟩
      replace hB := hB.trans (hb4.mono hB.size)
      clear hb4 c0 c1 c2 hR hC
      go_wp2_with fail
      refine (hI _ (hlate _ hB)).mono ?_
      rintro e w5 ⟨rfl, hb5⟩
      replace hB := hB.trans (hb5.mono hB.size)
      clear hb5 hI
      go_wp2_with fail
      go_ret
      exact ⟨rfl, hB⟩
end Go.Proofs.YtodgigdcdgdfdaaDoor
