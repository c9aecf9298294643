
/- Contracts of the model's test on values and of the makers of values. -/
import Derived.Test.YtjekhgekldkopaaValArg
import Derived.Test.YtjekhgekldkopaaLexMath2
namespace Go.Proofs.Ytjekhgekldkopaa
open Go.RowKit

/-- the document's condition on a value -/
def valOk (k n : Int) (t : List UInt8) : Bool :=
  if k = 0 then decide (n = 0) && decide (t = [])
  else if k = 1 then decide (t = [])
  else if k = 2 then decide (n = 0) && decide ((t.length : Int) ≤ 200)
  else if k = 3 then (decide (0 ≤ n) && decide (n ≤ 1)) && decide (t = [])
  else false
theorem beq_nil (s : ByteArray) : (s.toList == []) = decide (s.data.toList = []) := beq_lit s []

set_option maxRecDepth 100000 in
set_option maxHeartbeats 2000000 in
theorem valueOk_spec (k n : Int) (t : ByteArray) (w : World) (ht : t.size ≤ 9223372036854775807) :
    Calls Try.prog 53 #[.agg #[.int .i64 k, .int .i64 n, .string t]] w (BoolE (valOk k n t.data.toList) w) := by
  have hbb := (Below.refl w.heap.size w).alloc (Nat.le_refl _) (.cells #[.int .i64 k, .int .i64 n, .string t] 27)
  have hsz : ((t.data.toList.length : Nat) : Int) = (t.size : Int) := rfl
  have hN : (n == 0) = decide (n = 0) := by by_cases h : n = 0 <;> simp [h]
  have hT := beq_nil t
  have hL : decide ((t.size : Int) ≤ 200) = decide (t.size ≤ 200) := by rw [decide_eq_decide]; omega
  have hI := fun w => in_any n 0 1 (decide (0 ≤ n) && decide (n ≤ 1)) w (by rw [Bool.decide_and])
  have hV : valOk k n t.data.toList = (if k = 0 then decide (n = 0) && decide (t.data.toList = []) else if k = 1 then decide (t.data.toList = []) else if k = 2 then decide (n = 0) && decide ((t.size : Int) ≤ 200) else if k = 3 then (decide (0 ≤ n) && decide (n ≤ 1)) && decide (t.data.toList = []) else false) := rfl
  generalize valOk k n t.data.toList = V at hV ⊢
  generalize decide (n = 0) = b0 at hN hV
  generalize decide (t.data.toList = []) = b1 at hT hV
  generalize (decide (0 ≤ n) && decide (n ≤ 1)) = b2 at hI hV
  by_cases h0 : k = 0
  · subst h0
    have HV := Lib.hid (hV.trans (if_pos rfl)); clear hV hI
    cases b0 <;> cases b1
    all_goals
      go_enter Try.func53, Try.ntmps53
      go_wp2_with fail
      go_ret
      exact ⟨by rw [HV.out]; rfl, hbb⟩
  rw [if_neg h0] at hV
  have q0 : (k == 0) = false := by simpa using h0
  by_cases h1 : k = 1
  · subst h1
    have HV := Lib.hid (hV.trans (if_pos rfl)); clear hV hI
    cases b1
    all_goals
      go_enter Try.func53, Try.ntmps53
      go_wp2_with fail
      go_ret
      exact ⟨by rw [HV.out]; rfl, hbb⟩
  rw [if_neg h1] at hV
  have q1 : (k == 1) = false := by simpa using h1
  by_cases h2 : k = 2
  · subst h2
    replace hV := hV.trans (if_pos rfl); clear hI hL
    by_cases hz : t.size ≤ 200
    · have d1 : decide ((t.size : Int) ≤ 200) = true := by simp; omega
      have d2 : decide (t.size ≤ 200) = true := by simp; omega
      rw [d1] at hV
      have HV := Lib.hid hV; clear hV hz
      cases b0
      all_goals
        go_enter Try.func53, Try.ntmps53
        go_wp2_with fail
        go_ret
        exact ⟨by rw [HV.out]; rfl, hbb⟩
    · have d1 : decide ((t.size : Int) ≤ 200) = false := by simp; omega
      have d2 : decide (t.size ≤ 200) = false := by simp; omega
      rw [d1] at hV
      have HV := Lib.hid hV; clear hV hz
      cases b0
      all_goals
        go_enter Try.func53, Try.ntmps53
        go_wp2_with fail
        go_ret
        exact ⟨by rw [HV.out]; rfl, hbb⟩
  rw [if_neg h2] at hV
  have q2 : (k == 2) = false := by simpa using h2
  by_cases h3 : k = 3
  · subst h3
    have HV := Lib.hid (hV.trans (if_pos rfl)); clear hV
    cases b2 <;> cases b1
    all_goals
      go_enter Try.func53, Try.ntmps53
      go_wp2_with fail
      refine (hI _).mono ?_
      rintro e w1 ⟨rfl, rfl⟩
      go_wp2_with fail
      go_ret
      exact ⟨by rw [HV.out]; rfl, hbb⟩
  rw [if_neg h3] at hV
  have q3 : (k == 3) = false := by simpa using h3
  have HV := Lib.hid hV; clear hV hI
  go_enter Try.func53, Try.ntmps53
  go_wp2_with fail
  go_ret
  exact ⟨by rw [HV.out]; rfl, hbb⟩

set_option maxRecDepth 100000 in
set_option maxHeartbeats 800000 in
theorem intValue_spec (n : Int) (w : World) : Calls Try.prog 20 #[.int .i64 n] w (CopyV 1 n ⟨#[]⟩ w) := by
  have hR := heap_alloc_new w (.cells #[.int .i64 1, .int .i64 n, .string ⟨#[]⟩] 27)
  have f0 := cell_of_row _ w.heap.size 0 _ 27 (0, 0) hR
  have f1 := cell_of_row _ w.heap.size 1 _ 27 (0, 0) hR
  have f2 := cell_of_row _ w.heap.size 2 _ 27 (0, 0) hR
  have hb := (Below.refl w.heap.size w).alloc (Nat.le_refl _) (.cells #[.int .i64 1, .int .i64 n, .string ⟨#[]⟩] 27)
  go_enter Try.func20, Try.ntmps20
  go_wp2_with fail
  generalize w.alloc (.cells #[.int .i64 1, .int .i64 n, .string ⟨#[]⟩] 27) = wf at f0 f1 f2 hb ⊢
  refine bodyPost_ret (v := .agg #[.int .i64 1, .int .i64 n, .string ⟨#[]⟩]) (by simp [results, Try.results20, go_sem, f0, f1, f2]) rfl ?_
  exact ⟨rfl, hb⟩
set_option maxRecDepth 100000 in
set_option maxHeartbeats 800000 in
theorem textValue_spec (s : ByteArray) (w : World) : Calls Try.prog 57 #[.string s] w (CopyV 2 0 s w) := by
  have hR := heap_alloc_new w (.cells #[.int .i64 2, .int .i64 0, .string s] 27)
  have f0 := cell_of_row _ w.heap.size 0 _ 27 (0, 0) hR
  have f1 := cell_of_row _ w.heap.size 1 _ 27 (0, 0) hR
  have f2 := cell_of_row _ w.heap.size 2 _ 27 (0, 0) hR
  have hb := (Below.refl w.heap.size w).alloc (Nat.le_refl _) (.cells #[.int .i64 2, .int .i64 0, .string s] 27)
  go_enter Try.func57, Try.ntmps57
  go_wp2_with fail
  generalize w.alloc (.cells #[.int .i64 2, .int .i64 0, .string s] 27) = wf at f0 f1 f2 hb ⊢
  refine bodyPost_ret (v := .agg #[.int .i64 2, .int .i64 0, .string s]) (by simp [results, Try.results57, go_sem, f0, f1, f2]) rfl ?_
  exact ⟨rfl, hb⟩
set_option maxRecDepth 100000 in
set_option maxHeartbeats 800000 in
theorem boolValue_spec (b : Bool) (w : World) : Calls Try.prog 24 #[.bool b] w (CopyV 3 (if b then 1 else 0) ⟨#[]⟩ w) := by
  cases b
  · have hR := heap_alloc_new w (.cells #[.int .i64 3, .int .i64 0, .string ⟨#[]⟩] 27)
    have f0 := cell_of_row _ w.heap.size 0 _ 27 (0, 0) hR
    have f1 := cell_of_row _ w.heap.size 1 _ 27 (0, 0) hR
    have f2 := cell_of_row _ w.heap.size 2 _ 27 (0, 0) hR
    have hb := (Below.refl w.heap.size w).alloc (Nat.le_refl _) (.cells #[.int .i64 3, .int .i64 0, .string ⟨#[]⟩] 27)
    go_enter Try.func24, Try.ntmps24
    go_wp2_with fail
    generalize w.alloc (.cells #[.int .i64 3, .int .i64 0, .string ⟨#[]⟩] 27) = wf at f0 f1 f2 hb ⊢
    refine bodyPost_ret (v := .agg #[.int .i64 3, .int .i64 0, .string ⟨#[]⟩]) (by simp [results, Try.results24, go_sem, f0, f1, f2]) rfl ?_
    exact ⟨rfl, hb⟩
  · have hR := heap_alloc_new w (.cells #[.int .i64 3, .int .i64 1, .string ⟨#[]⟩] 27)
    have f0 := cell_of_row _ w.heap.size 0 _ 27 (0, 0) hR
    have f1 := cell_of_row _ w.heap.size 1 _ 27 (0, 0) hR
    have f2 := cell_of_row _ w.heap.size 2 _ 27 (0, 0) hR
    have hb := (Below.refl w.heap.size w).alloc (Nat.le_refl _) (.cells #[.int .i64 3, .int .i64 1, .string ⟨#[]⟩] 27)
    go_enter Try.func24, Try.ntmps24
    go_wp2_with fail
    generalize w.alloc (.cells #[.int .i64 3, .int .i64 1, .string ⟨#[]⟩] 27) = wf at f0 f1 f2 hb ⊢
    refine bodyPost_ret (v := .agg #[.int .i64 3, .int .i64 1, .string ⟨#[]⟩]) (by simp [results, Try.results24, go_sem, f0, f1, f2]) rfl ?_
    exact ⟨rfl, hb⟩
end Go.Proofs.Ytjekhgekldkopaa
