
/- The contract of the model's ValueText. -/
import Derived.Test.YtelbcfipkanfkaaDoorVTextDef
import Derived.Test.YtelbcfipkanfkaaDoorDig
import Derived.Test.YtelbcfipkanfkaaDoorTextS
namespace Go.Proofs.YtelbcfipkanfkaaDoor
open Go.RowKit

set_option maxRecDepth 100000 in
set_option maxHeartbeats 2000000 in
theorem valueText_spec (k n : Int) (t : ByteArray) (w : World) (ht : t.size ≤ 1048576) (h0 : -9223372036854775808 ≤ n) (h1 : n ≤ 9223372036854775807) :
    Calls Tryd.prog 5 #[.agg #[.int .i64 k, .int .i64 n, .string t]] w (StrE (valText k n t.data.toList) w) := by
  have hbb := (Below.refl w.heap.size w).alloc (Nat.le_refl _) (.cells #[.int .i64 k, .int .i64 n, .string t] 26)
  have hR := heap_alloc_new w (.cells #[.int .i64 k, .int .i64 n, .string t] 26)
  have hOk := fun w => valueOk_spec k n t w (by omega)
  have hV : valText k n t.data.toList = (if valOk k n t.data.toList = true then (if k = 1 then Lib.itoa n else if k = 2 then quoted 39 t.data.toList else if k = 3 then (if n = 1 then [84, 82, 85, 69] else [70, 65, 76, 83, 69]) else [78, 85, 76, 76]) else [63]) := rfl
  generalize valText k n t.data.toList = V at hV ⊢
  generalize valOk k n t.data.toList = b at hV hOk
  cases b
  · rw [if_neg (by decide)] at hV
    have HV := Lib.hid hV; clear hV
    go_enter Tryd.func5, Tryd.ntmps5
    go_wp2_with fail
    refine (hOk _).mono ?_
    rintro e w1 ⟨rfl, hb1⟩
    have hbe := hbb.trans (hb1.mono hbb.size)
    clear hOk hb1
    go_wp2_with fail
    go_ret
    exact ⟨ret_str HV.out.symm, hbe⟩
  · rw [if_pos rfl] at hV
    have once : True := trivial
    by_cases k1 : k = 1
    · subst k1
      rw [if_pos rfl] at hV
      have HV := Lib.hid hV; clear hV
      go_enter Tryd.func5, Tryd.ntmps5
      go_wp2_with fail
      generalize w.alloc (.cells #[.int .i64 1, .int .i64 n, .string t] 26) = wr at *
      refine (hOk _).mono ?_
      rintro e w1 ⟨rfl, hb1⟩
      have hbe := hbb.trans (hb1.mono hbb.size)
      have hR1 := (hb1.block _ (Array.getElem?_eq_some_iff.1 hR).1).trans hR
      have c0 := cell_of_row w1 w.heap.size 0 _ 26 (0, 0) hR1
      have c1 := cell_of_row w1 w.heap.size 1 _ 26 (0, 0) hR1
      clear hOk hb1 hR hR1
      go_wp2_with fail
      refine (digits_spec n _ h0 h1).mono ?_
      rintro e w2 ⟨rfl, hb2⟩
      have hbe2 := hbe.trans (hb2.mono hbe.size)
      clear hb2 c0 c1
      go_wp2_with fail
      go_ret
      exact ⟨ret_str HV.out.symm, hbe2⟩
    rw [if_neg k1] at hV
    have q1 : (k == 1) = false := by simpa using k1
    by_cases k2 : k = 2
    · subst k2
      rw [if_pos rfl] at hV
      have HV := Lib.hid hV; clear hV
      go_enter Tryd.func5, Tryd.ntmps5
      go_wp2_with fail
      generalize w.alloc (.cells #[.int .i64 2, .int .i64 n, .string t] 26) = wr at *
      refine (hOk _).mono ?_
      rintro e w1 ⟨rfl, hb1⟩
      have hbe := hbb.trans (hb1.mono hbb.size)
      have hR1 := (hb1.block _ (Array.getElem?_eq_some_iff.1 hR).1).trans hR
      have c0 := cell_of_row w1 w.heap.size 0 _ 26 (0, 0) hR1
      have c1 := cell_of_row w1 w.heap.size 2 _ 26 (0, 0) hR1
      clear hOk hb1 hR hR1
      go_wp2_with fail
      refine (quoteText_spec t _ ht).mono ?_
      rintro e w2 ⟨rfl, hb2⟩
      have hbe2 := hbe.trans (hb2.mono hbe.size)
      clear hb2 c0 c1
      go_wp2_with fail
      go_ret
      exact ⟨ret_str HV.out.symm, hbe2⟩
    rw [if_neg k2] at hV
    have q2 : (k == 2) = false := by simpa using k2
    by_cases k3 : k = 3
    · subst k3
      rw [if_pos rfl] at hV
      by_cases hn : n = 1
      · subst hn
        rw [if_pos rfl] at hV
        have HV := Lib.hid hV; clear hV
        go_enter Tryd.func5, Tryd.ntmps5
        go_wp2_with fail
        generalize w.alloc (.cells #[.int .i64 3, .int .i64 1, .string t] 26) = wr at *
        refine (hOk _).mono ?_
        rintro e w1 ⟨rfl, hb1⟩
        have hbe := hbb.trans (hb1.mono hbb.size)
        have hR1 := (hb1.block _ (Array.getElem?_eq_some_iff.1 hR).1).trans hR
        have c0 := cell_of_row w1 w.heap.size 0 _ 26 (0, 0) hR1
        have c1 := cell_of_row w1 w.heap.size 1 _ 26 (0, 0) hR1
        clear hOk hb1 hR hR1
        go_wp2_with fail
        go_ret
        exact ⟨ret_str HV.out.symm, hbe⟩
      · have hnb : (n == 1) = false := by simpa using hn
        rw [if_neg hn] at hV
        have HV := Lib.hid hV; clear hV
        go_enter Tryd.func5, Tryd.ntmps5
        go_wp2_with fail
        generalize w.alloc (.cells #[.int .i64 3, .int .i64 n, .string t] 26) = wr at *
        refine (hOk _).mono ?_
        rintro e w1 ⟨rfl, hb1⟩
        have hbe := hbb.trans (hb1.mono hbb.size)
        have hR1 := (hb1.block _ (Array.getElem?_eq_some_iff.1 hR).1).trans hR
        have c0 := cell_of_row w1 w.heap.size 0 _ 26 (0, 0) hR1
        have c1 := cell_of_row w1 w.heap.size 1 _ 26 (0, 0) hR1
        clear hOk hb1 hR hR1
        go_wp2_with fail
        go_ret
        exact ⟨ret_str HV.out.symm, hbe⟩
    rw [if_neg k3] at hV
    have q3 : (k == 3) = false := by simpa using k3
    have HV := Lib.hid hV; clear hV
    go_enter Tryd.func5, Tryd.ntmps5
    go_wp2_with fail
    generalize w.alloc (.cells #[.int .i64 k, .int .i64 n, .string t] 26) = wr at *
    refine (hOk _).mono ?_
    rintro e w1 ⟨rfl, hb1⟩
    have hbe := hbb.trans (hb1.mono hbb.size)
    have hR1 := (hb1.block _ (Array.getElem?_eq_some_iff.1 hR).1).trans hR
    have c0 := cell_of_row w1 w.heap.size 0 _ 26 (0, 0) hR1
    have c1 := cell_of_row w1 w.heap.size 1 _ 26 (0, 0) hR1
    clear hOk hb1 hR hR1
    go_wp2_with fail
    go_ret
    exact ⟨ret_str HV.out.symm, hbe⟩
end Go.Proofs.YtelbcfipkanfkaaDoor
