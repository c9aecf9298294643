/- Joined texts: TokTextI. -/
import Derived.Test.YtcadoplfgclbjaaGreatDoorQG
import Derived.Test.YtcadoplfgclbjaaGreatDoorQN
import Derived.Test.YtcadoplfgclbjaaGreatDoorQK
import Derived.Test.YtcadoplfgclbjaaGreatDoorQV
/- The contract of the program's text of a token, and the walk of the law on it. -/
namespace Go.Proofs.YtcadoplfgclbjaaGreatDoor
open Go.RowKit

set_option maxRecDepth 100000 in
set_option maxHeartbeats 1600000 in
theorem tokenText_impl (k : Int) (t : ByteArray) (a : Int) (w : World) (ht : t.size ≤ 9223372036854775807) (hm : MaxI w) :
    Calls Tryz.prog 30 #[.agg #[.int .i64 k, .string t, .int .i64 a]] w (StrE (tokTextL k t.data.toList) w) := by
  have hsz : t.data.toList.length = t.size := rfl
  have hO := fun w => tokenOk_impl k t a w ht
  have hT : tokTextL k t.data.toList = (if tokOk k t.data.toList then (if k = 2 then nameL t.data.toList else if k = 4 then quoted 39 t.data.toList else t.data.toList) else []) := rfl
  cases ho : tokOk k t.data.toList
  · rw [ho] at hO hT
    have HT := Lib.hid (show tokTextL k t.data.toList = [] from hT)
    clear hT ho
    go_enter Tryz.func30, Tryz.ntmps30
    go_wp2_with fail
    refine (hO _).mono ?_
    rintro e w1 ⟨rfl, hb1⟩
    have hbb := ((Below.refl w.heap.size w).alloc (Nat.le_refl _) (.cells #[.int .i64 k, .string t, .int .i64 a] 40)).trans (hb1.mono (by simp))
    go_wp2_with fail
    go_ret
    exact ⟨ret_str HT.out.symm, hbb⟩
  · have hsm := tokOk_small ho
    rw [ho] at hO hT
    by_cases h2 : k = 2
    · subst h2
      have HT := Lib.hid (show tokTextL 2 t.data.toList = nameL t.data.toList from hT)
      clear hT ho
      go_enter Tryz.func30, Tryz.ntmps30
      go_wp2_with fail
      refine (hO _).mono ?_
      rintro e w1 ⟨rfl, hb1⟩
      have hbb := ((Below.refl w.heap.size w).alloc (Nat.le_refl _) (.cells #[.int .i64 2, .string t, .int .i64 a] 40)).trans (hb1.mono (by simp))
      have c0 := (hb1.cell (p := ⟨w.heap.size, 0, none⟩) (by simp)).trans (cell_of_row _ w.heap.size 0 _ 40 (0, 0) (heap_alloc_new w _))
      have c1 := (hb1.cell (p := ⟨w.heap.size, 1, none⟩) (by simp)).trans (cell_of_row _ w.heap.size 1 _ 40 (0, 0) (heap_alloc_new w _))
      go_wp2_with fail
      refine (nameText_impl t _ ht (hm.later hbb hm.two)).mono ?_
      rintro e w2 ⟨rfl, hb2⟩
      go_wp2_with fail
      go_ret
      exact ⟨ret_str HT.out.symm, hbb.trans (hb2.mono hbb.size)⟩
    · have q2 : (k == 2) = false := by simpa using h2
      by_cases h4 : k = 4
      · subst h4
        have HT := Lib.hid (show tokTextL 4 t.data.toList = quoted 39 t.data.toList from hT)
        clear hT ho h2
        go_enter Tryz.func30, Tryz.ntmps30
        go_wp2_with fail
        refine (hO _).mono ?_
        rintro e w1 ⟨rfl, hb1⟩
        have hbb := ((Below.refl w.heap.size w).alloc (Nat.le_refl _) (.cells #[.int .i64 4, .string t, .int .i64 a] 40)).trans (hb1.mono (by simp))
        have c0 := (hb1.cell (p := ⟨w.heap.size, 0, none⟩) (by simp)).trans (cell_of_row _ w.heap.size 0 _ 40 (0, 0) (heap_alloc_new w _))
        have c1 := (hb1.cell (p := ⟨w.heap.size, 1, none⟩) (by simp)).trans (cell_of_row _ w.heap.size 1 _ 40 (0, 0) (heap_alloc_new w _))
        go_wp2_with fail
        refine (quoteText_impl t _ (by omega) (hm.later hbb hm.two)).mono ?_
        rintro e w2 ⟨rfl, hb2⟩
        go_wp2_with fail
        go_ret
        exact ⟨ret_str HT.out.symm, hbb.trans (hb2.mono hbb.size)⟩
      · have q4 : (k == 4) = false := by simpa using h4
        have HT := Lib.hid (show tokTextL k t.data.toList = t.data.toList by rw [hT, if_pos rfl, if_neg h2, if_neg h4])
        clear hT ho h2 h4
        go_enter Tryz.func30, Tryz.ntmps30
        go_wp2_with fail
        refine (hO _).mono ?_
        rintro e w1 ⟨rfl, hb1⟩
        have hbb := ((Below.refl w.heap.size w).alloc (Nat.le_refl _) (.cells #[.int .i64 k, .string t, .int .i64 a] 40)).trans (hb1.mono (by simp))
        have c0 := (hb1.cell (p := ⟨w.heap.size, 0, none⟩) (by simp)).trans (cell_of_row _ w.heap.size 0 _ 40 (0, 0) (heap_alloc_new w _))
        have c1 := (hb1.cell (p := ⟨w.heap.size, 1, none⟩) (by simp)).trans (cell_of_row _ w.heap.size 1 _ 40 (0, 0) (heap_alloc_new w _))
        go_wp2_with fail
        go_ret
        exact ⟨ret_ba' HT.out, hbb⟩

end Go.Proofs.YtcadoplfgclbjaaGreatDoor
