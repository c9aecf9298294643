/- Joined texts: ValSl ValLaws ValI CalcI0. -/
import Derived.Test.YtjekhgekldkopaaQG
import Derived.Test.YtjekhgekldkopaaQD
import Derived.Test.YtjekhgekldkopaaQH
import Derived.Test.YtjekhgekldkopaaQJ
import Derived.Test.YtjekhgekldkopaaQI
import Derived.Deep.RegionWith
import Derived.Laws.Cover1
/- The laws' comparison of slices of values. -/
namespace Go.Proofs.Ytjekhgekldkopaa
open Go.RowKit

set_option maxRecDepth 100000 in
set_option maxHeartbeats 400000 in
theorem eqValue_yes (k a : Int) (t : ByteArray) (w : World) :
    Calls Try.prog 35 #[.agg #[.int .i64 k, .int .i64 a, .string t], .agg #[.int .i64 k, .int .i64 a, .string t]] w (BoolE true w) := by
  go_enter Try.func35, Try.ntmps35
  go_wp2_with fail
  go_ret
  exact ⟨rfl, ((Below.refl _ _).alloc (Nat.le_refl _) _).alloc (by simp) _⟩

end Go.Proofs.Ytjekhgekldkopaa

/- The walks of the exact laws on the test on values and on the makers of values. -/
namespace Go.Proofs.Ytjekhgekldkopaa
open Go.RowKit

/-- what the program's functions are known to do -/
def ValueOkI : Prop := ∀ (k n : Int) (t : ByteArray) (w : World), t.size ≤ 9223372036854775807 → Calls Try.prog 42 #[.agg #[.int .i64 k, .int .i64 n, .string t]] w (BoolE (valOk k n t.data.toList) w)
def IntValueI : Prop := ∀ (n : Int) (w : World), Calls Try.prog 18 #[.int .i64 n] w (CopyV 1 n ⟨#[]⟩ w)
def TextValueI : Prop := ∀ (s : ByteArray) (w : World), Calls Try.prog 71 #[.string s] w (CopyV 2 0 s w)
def BoolValueI : Prop := ∀ (b : Bool) (w : World), Calls Try.prog 21 #[.bool b] w (CopyV 3 (if b then 1 else 0) ⟨#[]⟩ w)

end Go.Proofs.Ytjekhgekldkopaa

/- Contracts of the program's test on values and of its makers of values. -/
namespace Go.Proofs.Ytjekhgekldkopaa
open Go.RowKit

set_option maxRecDepth 100000 in
set_option maxHeartbeats 800000 in
theorem intValue_implC (n : Int) (w : World) : Calls Try.prog 18 #[.int .i64 n] w (CopyV 1 n ⟨#[]⟩ w) := by
  have hR := heap_alloc_new w (.cells #[.int .i64 1, .int .i64 n, .string ⟨#[]⟩] 27)
  have f0 := cell_of_row _ w.heap.size 0 _ 27 (0, 0) hR
  have f1 := cell_of_row _ w.heap.size 1 _ 27 (0, 0) hR
  have f2 := cell_of_row _ w.heap.size 2 _ 27 (0, 0) hR
  have hb := (Below.refl w.heap.size w).alloc (Nat.le_refl _) (.cells #[.int .i64 1, .int .i64 n, .string ⟨#[]⟩] 27)
  go_enter Try.func18, Try.ntmps18
  go_wp2_with fail
  generalize w.alloc (.cells #[.int .i64 1, .int .i64 n, .string ⟨#[]⟩] 27) = wf at f0 f1 f2 hb ⊢
  refine bodyPost_ret (v := .agg #[.int .i64 1, .int .i64 n, .string ⟨#[]⟩]) (by simp [results, Try.results18, go_sem, f0, f1, f2]) rfl ?_
  exact ⟨rfl, hb⟩
set_option maxRecDepth 100000 in
set_option maxHeartbeats 800000 in
theorem textValue_implC (s : ByteArray) (w : World) : Calls Try.prog 71 #[.string s] w (CopyV 2 0 s w) := by
  have hR := heap_alloc_new w (.cells #[.int .i64 2, .int .i64 0, .string s] 27)
  have f0 := cell_of_row _ w.heap.size 0 _ 27 (0, 0) hR
  have f1 := cell_of_row _ w.heap.size 1 _ 27 (0, 0) hR
  have f2 := cell_of_row _ w.heap.size 2 _ 27 (0, 0) hR
  have hb := (Below.refl w.heap.size w).alloc (Nat.le_refl _) (.cells #[.int .i64 2, .int .i64 0, .string s] 27)
  go_enter Try.func71, Try.ntmps71
  go_wp2_with fail
  generalize w.alloc (.cells #[.int .i64 2, .int .i64 0, .string s] 27) = wf at f0 f1 f2 hb ⊢
  refine bodyPost_ret (v := .agg #[.int .i64 2, .int .i64 0, .string s]) (by simp [results, Try.results71, go_sem, f0, f1, f2]) rfl ?_
  exact ⟨rfl, hb⟩
set_option maxRecDepth 100000 in
set_option maxHeartbeats 800000 in
theorem boolValue_implC (b : Bool) (w : World) : Calls Try.prog 21 #[.bool b] w (CopyV 3 (if b then 1 else 0) ⟨#[]⟩ w) := by
  cases b
  · have hR := heap_alloc_new w (.cells #[.int .i64 3, .int .i64 0, .string ⟨#[]⟩] 27)
    have f0 := cell_of_row _ w.heap.size 0 _ 27 (0, 0) hR
    have f1 := cell_of_row _ w.heap.size 1 _ 27 (0, 0) hR
    have f2 := cell_of_row _ w.heap.size 2 _ 27 (0, 0) hR
    have hb := (Below.refl w.heap.size w).alloc (Nat.le_refl _) (.cells #[.int .i64 3, .int .i64 0, .string ⟨#[]⟩] 27)
    go_enter Try.func21, Try.ntmps21
    go_wp2_with fail
    generalize w.alloc (.cells #[.int .i64 3, .int .i64 0, .string ⟨#[]⟩] 27) = wf at f0 f1 f2 hb ⊢
    refine bodyPost_ret (v := .agg #[.int .i64 3, .int .i64 0, .string ⟨#[]⟩]) (by simp [results, Try.results21, go_sem, f0, f1, f2]) rfl ?_
    exact ⟨rfl, hb⟩
  · have hR := heap_alloc_new w (.cells #[.int .i64 3, .int .i64 1, .string ⟨#[]⟩] 27)
    have f0 := cell_of_row _ w.heap.size 0 _ 27 (0, 0) hR
    have f1 := cell_of_row _ w.heap.size 1 _ 27 (0, 0) hR
    have f2 := cell_of_row _ w.heap.size 2 _ 27 (0, 0) hR
    have hb := (Below.refl w.heap.size w).alloc (Nat.le_refl _) (.cells #[.int .i64 3, .int .i64 1, .string ⟨#[]⟩] 27)
    go_enter Try.func21, Try.ntmps21
    go_wp2_with fail
    generalize w.alloc (.cells #[.int .i64 3, .int .i64 1, .string ⟨#[]⟩] 27) = wf at f0 f1 f2 hb ⊢
    refine bodyPost_ret (v := .agg #[.int .i64 3, .int .i64 1, .string ⟨#[]⟩]) (by simp [results, Try.results21, go_sem, f0, f1, f2]) rfl ?_
    exact ⟨rfl, hb⟩

theorem intValue_impl : IntValueI := intValue_implC
theorem textValue_impl : TextValueI := textValue_implC
theorem boolValue_impl : BoolValueI := boolValue_implC

theorem lst_nil (t : ByteArray) : (t.toList = []) = (t.data.toList = []) := by rw [ba_toList]

set_option maxRecDepth 100000 in
set_option maxHeartbeats 4000000 in
theorem valueOk_impl : ValueOkI := fun k n t w ht => by
  have hbb := (Below.refl w.heap.size w).alloc (Nat.le_refl _) (.cells #[.int .i64 k, .int .i64 n, .string t] 27)
  have hR := heap_alloc_new w (.cells #[.int .i64 k, .int .i64 n, .string t] 27)
  have c0 := cell_of_row _ w.heap.size 0 _ 27 (0, 0) hR
  have c1 := cell_of_row _ w.heap.size 1 _ 27 (0, 0) hR
  have c2 := cell_of_row _ w.heap.size 2 _ 27 (0, 0) hR
  clear hR
  have hV : valOk k n t.data.toList = (if k = 0 then decide (n = 0) && decide (t.data.toList = []) else if k = 1 then decide (t.data.toList = []) else if k = 2 then decide (n = 0) && decide ((t.size : Int) ≤ 200) else if k = 3 then (decide (0 ≤ n) && decide (n ≤ 1)) && decide (t.data.toList = []) else false) := rfl
  generalize valOk k n t.data.toList = V at hV ⊢
  simp only [← lst_nil] at hV
  have hI := fun w => intValue_implC n w
  have hT := fun w => textValue_implC t w
  have hB := fun w => boolValue_implC (n == 1) w
  by_cases h1 : k = 1
  · subst h1
    rw [if_neg (by decide), if_pos rfl] at hV
    clear hT hB
    by_cases ht0 : t.toList = []
    · rw [decide_eq_true ht0] at hV
      have HV := Lib.hid hV; clear hV
      have x0 := lat_cell c0
      have x1 := lat_cell c1
      have x2 := lat_cell c2
      go_enter Try.func42, Try.ntmps42
      go_wp2_with fail
      generalize w.alloc (.cells #[.int .i64 1, .int .i64 n, .string t] 27) = wr at *
      refine region_lat (by kernel_rfl) (by kernel_rfl) ?_
      iterate 6 (go_big_quiet_step ((refine (hI (lat wr _)).mono ?_; rintro e w'' ⟨rfl, hb''⟩; exact ⟨rfl, lat_to hb''⟩)))
      refine wpQuiet_nil ?_
      rintro _ ⟨nq, rfl⟩
      have hbq := hbb.trans ((lat_below wr nq).mono hbb.size)
      clear x0 x1 x2 hI
      generalize lat wr nq = wq at hbq ⊢
      go_wp2_with fail
      go_ret
      exact ⟨by rw [HV.out]; rfl, hbq⟩
    · rw [decide_eq_false ht0] at hV
      have HV := Lib.hid hV; clear hV
      have x0 := lat_cell c0
      have x1 := lat_cell c1
      have x2 := lat_cell c2
      go_enter Try.func42, Try.ntmps42
      go_wp2_with fail
      generalize w.alloc (.cells #[.int .i64 1, .int .i64 n, .string t] 27) = wr at *
      refine region_lat (by kernel_rfl) (by kernel_rfl) ?_
      iterate 6 (go_big_quiet_step ((refine (hI (lat wr _)).mono ?_; rintro e w'' ⟨rfl, hb''⟩; exact ⟨rfl, lat_to hb''⟩)))
      refine wpQuiet_nil ?_
      rintro _ ⟨nq, rfl⟩
      have hbq := hbb.trans ((lat_below wr nq).mono hbb.size)
      clear x0 x1 x2 hI
      generalize lat wr nq = wq at hbq ⊢
      go_wp2_with fail
      go_ret
      exact ⟨by rw [HV.out]; rfl, hbq⟩
  have q1 : (k == 1) = false := by simpa using h1
  by_cases h2 : k = 2
  · subst h2
    rw [if_neg (by decide), if_neg (by decide), if_pos rfl] at hV
    clear hI hB q1 h1
    by_cases hn : n = 0
    · subst hn
      by_cases hz : t.size ≤ 200
      · have d1 : decide ((t.size : Int) ≤ 200) = true := by simp; omega
        have d2 : decide (t.size ≤ 200) = true := by simp; omega
        rw [d1] at hV
        have HV := Lib.hid (hV.trans (by rfl : _ = true)); clear hV hz
        have x0 := lat_cell c0
        have x1 := lat_cell c1
        have x2 := lat_cell c2
        go_enter Try.func42, Try.ntmps42
        go_wp2_with fail
        generalize w.alloc (.cells #[.int .i64 2, .int .i64 0, .string t] 27) = wr at *
        refine region_lat (by kernel_rfl) (by kernel_rfl) ?_
        iterate 12 (go_big_quiet_step ((refine (hT (lat wr _)).mono ?_; rintro e w'' ⟨rfl, hb''⟩; exact ⟨rfl, lat_to hb''⟩)))
        refine wpQuiet_nil ?_
        rintro _ ⟨nq, rfl⟩
        have hbq := hbb.trans ((lat_below wr nq).mono hbb.size)
        clear x0 x1 x2 hT
        generalize lat wr nq = wq at hbq ⊢
        go_wp2_with fail
        go_ret
        exact ⟨by rw [HV.out]; rfl, hbq⟩
      · have d1 : decide ((t.size : Int) ≤ 200) = false := by simp; omega
        have d2 : decide (t.size ≤ 200) = false := by simp; omega
        rw [d1] at hV
        have HV := Lib.hid (hV.trans (by rfl : _ = false)); clear hV hz
        have x0 := lat_cell c0
        have x1 := lat_cell c1
        have x2 := lat_cell c2
        go_enter Try.func42, Try.ntmps42
        go_wp2_with fail
        generalize w.alloc (.cells #[.int .i64 2, .int .i64 0, .string t] 27) = wr at *
        refine region_lat (by kernel_rfl) (by kernel_rfl) ?_
        iterate 12 (go_big_quiet_step ((refine (hT (lat wr _)).mono ?_; rintro e w'' ⟨rfl, hb''⟩; exact ⟨rfl, lat_to hb''⟩)))
        refine wpQuiet_nil ?_
        rintro _ ⟨nq, rfl⟩
        have hbq := hbb.trans ((lat_below wr nq).mono hbb.size)
        clear x0 x1 x2 hT
        generalize lat wr nq = wq at hbq ⊢
        go_wp2_with fail
        go_ret
        exact ⟨by rw [HV.out]; rfl, hbq⟩
    · rw [decide_eq_false hn] at hV
      have HV := Lib.hid (hV.trans (by rfl : _ = false)); clear hV
      have x0 := lat_cell c0
      have x1 := lat_cell c1
      have x2 := lat_cell c2
      go_enter Try.func42, Try.ntmps42
      go_wp2_with fail
      generalize w.alloc (.cells #[.int .i64 2, .int .i64 n, .string t] 27) = wr at *
      refine region_lat (by kernel_rfl) (by kernel_rfl) ?_
      iterate 12 (go_big_quiet_step ((refine (hT (lat wr _)).mono ?_; rintro e w'' ⟨rfl, hb''⟩; exact ⟨rfl, lat_to hb''⟩)))
      refine wpQuiet_nil ?_
      rintro _ ⟨nq, rfl⟩
      have hbq := hbb.trans ((lat_below wr nq).mono hbb.size)
      clear x0 x1 x2 hT
      generalize lat wr nq = wq at hbq ⊢
      go_wp2_with fail
      go_ret
      exact ⟨by rw [HV.out]; rfl, hbq⟩
  have q2 : (k == 2) = false := by simpa using h2
  clear hI hT
  by_cases h3 : k = 3
  · subst h3
    rw [if_neg (by decide), if_neg (by decide), if_neg (by decide), if_pos rfl] at hV
    clear q1 q2 h1 h2
    have hn3 : n = 1 ∨ n = 0 ∨ (¬ n = 1 ∧ ¬ n = 0) := by omega
    rcases hn3 with rfl | rfl | ⟨hn1, hn0⟩
    · by_cases ht0 : t.toList = []
      · rw [decide_eq_true ht0] at hV
        have HV := Lib.hid (hV.trans (by rfl : _ = true)); clear hV
        have x0 := lat_cell c0
        have x1 := lat_cell c1
        have x2 := lat_cell c2
        go_enter Try.func42, Try.ntmps42
        go_wp2_with fail
        generalize w.alloc (.cells #[.int .i64 3, .int .i64 1, .string t] 27) = wr at *
        refine region_lat (by kernel_rfl) (by kernel_rfl) ?_
        iterate 7 (go_big_quiet_step ((refine (hB (lat wr _)).mono ?_; rintro e w'' ⟨rfl, hb''⟩; exact ⟨rfl, lat_to hb''⟩)))
        refine wpQuiet_nil ?_
        rintro _ ⟨nq, rfl⟩
        have hbq := hbb.trans ((lat_below wr nq).mono hbb.size)
        clear x0 x1 x2 hB
        generalize lat wr nq = wq at hbq ⊢
        go_wp2_with fail
        go_ret
        exact ⟨by rw [HV.out]; rfl, hbq⟩
      · rw [decide_eq_false ht0] at hV
        have HV := Lib.hid (hV.trans (by rfl : _ = false)); clear hV
        have x0 := lat_cell c0
        have x1 := lat_cell c1
        have x2 := lat_cell c2
        go_enter Try.func42, Try.ntmps42
        go_wp2_with fail
        generalize w.alloc (.cells #[.int .i64 3, .int .i64 1, .string t] 27) = wr at *
        refine region_lat (by kernel_rfl) (by kernel_rfl) ?_
        iterate 7 (go_big_quiet_step ((refine (hB (lat wr _)).mono ?_; rintro e w'' ⟨rfl, hb''⟩; exact ⟨rfl, lat_to hb''⟩)))
        refine wpQuiet_nil ?_
        rintro _ ⟨nq, rfl⟩
        have hbq := hbb.trans ((lat_below wr nq).mono hbb.size)
        clear x0 x1 x2 hB
        generalize lat wr nq = wq at hbq ⊢
        go_wp2_with fail
        go_ret
        exact ⟨by rw [HV.out]; rfl, hbq⟩
    · by_cases ht0 : t.toList = []
      · rw [decide_eq_true ht0] at hV
        have HV := Lib.hid (hV.trans (by rfl : _ = true)); clear hV
        have x0 := lat_cell c0
        have x1 := lat_cell c1
        have x2 := lat_cell c2
        go_enter Try.func42, Try.ntmps42
        go_wp2_with fail
        generalize w.alloc (.cells #[.int .i64 3, .int .i64 0, .string t] 27) = wr at *
        refine region_lat (by kernel_rfl) (by kernel_rfl) ?_
        iterate 7 (go_big_quiet_step ((refine (hB (lat wr _)).mono ?_; rintro e w'' ⟨rfl, hb''⟩; exact ⟨rfl, lat_to hb''⟩)))
        refine wpQuiet_nil ?_
        rintro _ ⟨nq, rfl⟩
        have hbq := hbb.trans ((lat_below wr nq).mono hbb.size)
        clear x0 x1 x2 hB
        generalize lat wr nq = wq at hbq ⊢
        go_wp2_with fail
        go_ret
        exact ⟨by rw [HV.out]; rfl, hbq⟩
      · rw [decide_eq_false ht0] at hV
        have HV := Lib.hid (hV.trans (by rfl : _ = false)); clear hV
        have x0 := lat_cell c0
        have x1 := lat_cell c1
        have x2 := lat_cell c2
        go_enter Try.func42, Try.ntmps42
        go_wp2_with fail
        generalize w.alloc (.cells #[.int .i64 3, .int .i64 0, .string t] 27) = wr at *
        refine region_lat (by kernel_rfl) (by kernel_rfl) ?_
        iterate 7 (go_big_quiet_step ((refine (hB (lat wr _)).mono ?_; rintro e w'' ⟨rfl, hb''⟩; exact ⟨rfl, lat_to hb''⟩)))
        refine wpQuiet_nil ?_
        rintro _ ⟨nq, rfl⟩
        have hbq := hbb.trans ((lat_below wr nq).mono hbb.size)
        clear x0 x1 x2 hB
        generalize lat wr nq = wq at hbq ⊢
        go_wp2_with fail
        go_ret
        exact ⟨by rw [HV.out]; rfl, hbq⟩
    · have hr : (decide (0 ≤ n) && decide (n ≤ 1)) = false := by
        rw [Bool.and_eq_false_iff]
        simp only [decide_eq_false_iff_not]
        omega
      have hn1b : (n == 1) = false := by simpa using hn1
      rw [hr] at hV
      have HV := Lib.hid (hV.trans (by rfl : _ = false)); clear hV hr
      rw [hn1b] at hB
      have x0 := lat_cell c0
      have x1 := lat_cell c1
      have x2 := lat_cell c2
      go_enter Try.func42, Try.ntmps42
      go_wp2_with fail
      generalize w.alloc (.cells #[.int .i64 3, .int .i64 n, .string t] 27) = wr at *
      refine region_lat (by kernel_rfl) (by kernel_rfl) ?_
      iterate 7 (go_big_quiet_step ((refine (hB (lat wr _)).mono ?_; rintro e w'' ⟨rfl, hb''⟩; exact ⟨rfl, lat_to hb''⟩)))
      refine wpQuiet_nil ?_
      rintro _ ⟨nq, rfl⟩
      have hbq := hbb.trans ((lat_below wr nq).mono hbb.size)
      clear x0 x1 x2 hB
      generalize lat wr nq = wq at hbq ⊢
      go_wp2_with fail
      go_ret
      exact ⟨by rw [HV.out]; rfl, hbq⟩
  have q3 : (k == 3) = false := by simpa using h3
  rw [if_neg h1, if_neg h2, if_neg h3] at hV
  clear hB
  by_cases h0 : k = 0
  · subst h0
    rw [if_pos rfl] at hV
    clear q1 q2 q3 h1 h2 h3
    by_cases hn : n = 0
    · subst hn
      by_cases ht0 : t.toList = []
      · rw [decide_eq_true ht0] at hV
        have HV := Lib.hid (hV.trans (by rfl : _ = true)); clear hV
        have x0 := lat_cell c0
        have x1 := lat_cell c1
        have x2 := lat_cell c2
        go_enter Try.func42, Try.ntmps42
        go_wp2_with fail
        go_ret
        exact ⟨by rw [HV.out]; rfl, hbb⟩
      · rw [decide_eq_false ht0] at hV
        have HV := Lib.hid (hV.trans (by rfl : _ = false)); clear hV
        have x0 := lat_cell c0
        have x1 := lat_cell c1
        have x2 := lat_cell c2
        go_enter Try.func42, Try.ntmps42
        go_wp2_with fail
        go_ret
        exact ⟨by rw [HV.out]; rfl, hbb⟩
    · rw [decide_eq_false hn] at hV
      have HV := Lib.hid (hV.trans (by rfl : _ = false)); clear hV
      have x0 := lat_cell c0
      have x1 := lat_cell c1
      have x2 := lat_cell c2
      go_enter Try.func42, Try.ntmps42
      go_wp2_with fail
      go_ret
      exact ⟨by rw [HV.out]; rfl, hbb⟩
  · rw [if_neg h0] at hV
    have HV := Lib.hid hV; clear hV
    have x0 := lat_cell c0
    have x1 := lat_cell c1
    have x2 := lat_cell c2
    go_enter Try.func42, Try.ntmps42
    go_wp2_with fail
    go_ret
    exact ⟨by rw [HV.out]; rfl, hbb⟩
end Go.Proofs.Ytjekhgekldkopaa

/- Contracts of the program's operators. -/
namespace Go.Proofs.Ytjekhgekldkopaa
open Go.RowKit

set_option maxRecDepth 100000 in
set_option maxHeartbeats 1000000 in
theorem null_impl (k a : Int) (t : ByteArray) (w : World) : Calls Try.prog 46 #[.agg #[.int .i64 k, .int .i64 a, .string t]] w (BoolE (k == 0) w) := by
  have hbb := (Below.refl w.heap.size w).alloc (Nat.le_refl _) (.cells #[.int .i64 k, .int .i64 a, .string t] 27)
  go_enter Try.func46, Try.ntmps46
  go_wp2_with fail
  go_ret
  exact ⟨rfl, hbb⟩
set_option maxRecDepth 100000 in
set_option maxHeartbeats 1000000 in
theorem is_impl (k a c : Int) (t : ByteArray) (w : World) : Calls Try.prog 72 #[.agg #[.int .i64 k, .int .i64 a, .string t], .int .i64 c] w (BoolE (kindIn k c) w) := by
  have hbb := (Below.refl w.heap.size w).alloc (Nat.le_refl _) (.cells #[.int .i64 k, .int .i64 a, .string t] 27)
  have hN := fun w => null_impl k a t w
  have hR : ValAt (w.alloc (.cells #[.int .i64 k, .int .i64 a, .string t] 27)) w.heap.size k a t := heap_alloc_new w _
  have hV : kindIn k c = ((k == c) || (k == 0)) := rfl
  rw [hV]
  clear hV
  cases h0 : (k == 0)
  all_goals
    rw [h0] at hN
    go_enter Try.func72, Try.ntmps72
    go_wp2_with fail
    refine (hN _).mono ?_
    rintro e w1 ⟨rfl, hb1⟩
    obtain ⟨c0, c1, c2⟩ := (hR.below hb1 (by simp)).cells
    have hB := hbb.trans (hb1.mono (by simp))
    go_wp2_with fail
    go_ret
    exact ⟨by simp, hB⟩
set_option maxRecDepth 100000 in
set_option maxHeartbeats 1000000 in
theorem conn_impl (op : Int) (w : World) : Calls Try.prog 44 #[.int .i64 op] w (PureE (.bool ((op == 1) || (op == 2))) w) := by
  cases h : (op == 1)
  all_goals
    go_enter Try.func44, Try.ntmps44
    go_wp2_with fail
    go_ret
    exact ⟨rfl, rfl⟩
set_option maxRecDepth 100000 in
set_option maxHeartbeats 1000000 in
theorem cmp_impl (op : Int) (w : World) : Calls Try.prog 47 #[.int .i64 op] w (PureE (.bool (decide (3 ≤ op) && decide (op ≤ 8))) w) := by
  cases h : decide (3 ≤ op)
  all_goals
    go_enter Try.func47, Try.ntmps47
    go_wp2_with fail
    go_ret
    exact ⟨rfl, rfl⟩
set_option maxRecDepth 100000 in
set_option maxHeartbeats 2000000 in
theorem types_impl (op : Int) (k a : Int) (t : ByteArray) (k' a' : Int) (t' : ByteArray) (w : World) (hop : 1 ≤ op) (hop2 : op ≤ 14) : Calls Try.prog 43 #[.int .i64 op, .agg #[.int .i64 k, .int .i64 a, .string t], .agg #[.int .i64 k', .int .i64 a', .string t']] w (BoolE (fitsOp op k k') w) := by
  have hC := fun w => conn_impl op w
  have hD := fun w => cmp_impl op w
  by_cases h2 : op ≤ 2
  · have hV : fitsOp op k k' = (kindIn k 3 && kindIn k' 3) := by unfold fitsOp; rw [if_pos h2]
    have hc : ((op == 1) || (op == 2)) = true := by rcases (show op = 1 ∨ op = 2 by omega) with rfl | rfl <;> rfl
    rw [hV]
    rw [hc] at hC
    clear hV hc hD
    have hA := fun w => is_impl k a 3 t w
    have hB := fun w => is_impl k' a' 3 t' w
    generalize kindIn k 3 = x at hA ⊢
    generalize kindIn k' 3 = y at hB ⊢
    cases x
    · go_enter Try.func43, Try.ntmps43
      go_wp2_with fail
      have H := fr2_new w k a t k' a' t'
      generalize ((w.alloc (.cells #[.int .i64 k, .int .i64 a, .string t] 27)).alloc (.cells #[.int .i64 k', .int .i64 a', .string t'] 27)) = V at H ⊢
      refine (hC _).mono ?_
      rintro e w0 ⟨rfl, rfl⟩
      obtain ⟨ca0, ca1, ca2⟩ := H.a0.cells
      go_wp2_with fail
      refine (hA _).mono ?_
      rintro e w1 ⟨rfl, hbn1⟩
      replace H := H.next hbn1
      clear hbn1
      clear ca0 ca1 ca2
      go_wp2_with fail
      go_ret
      exact ⟨rfl, H.b⟩
    · go_enter Try.func43, Try.ntmps43
      go_wp2_with fail
      have H := fr2_new w k a t k' a' t'
      generalize ((w.alloc (.cells #[.int .i64 k, .int .i64 a, .string t] 27)).alloc (.cells #[.int .i64 k', .int .i64 a', .string t'] 27)) = V at H ⊢
      refine (hC _).mono ?_
      rintro e w0 ⟨rfl, rfl⟩
      obtain ⟨ca0, ca1, ca2⟩ := H.a0.cells
      go_wp2_with fail
      refine (hA _).mono ?_
      rintro e w1 ⟨rfl, hbn1⟩
      replace H := H.next hbn1
      clear hbn1
      clear ca0 ca1 ca2
      obtain ⟨cb0, cb1, cb2⟩ := H.b0.cells
      go_wp2_with fail
      refine (hB _).mono ?_
      rintro e w2 ⟨rfl, hbn2⟩
      replace H := H.next hbn2
      clear hbn2
      clear cb0 cb1 cb2
      go_wp2_with fail
      go_ret
      exact ⟨rfl, H.b⟩
  have hc : ((op == 1) || (op == 2)) = false := by
    rw [show (op == 1) = false by simp; omega, show (op == 2) = false by simp; omega]; rfl
  rw [hc] at hC
  clear hc
  by_cases h8 : op ≤ 8
  · have hV : fitsOp op k k' = ((k == k') || ((k == 0) || (k' == 0))) := by unfold fitsOp; rw [if_neg h2, if_pos h8]
    have hd : (decide (3 ≤ op) && decide (op ≤ 8)) = true := by rw [decide_eq_true (show 3 ≤ op by omega), decide_eq_true h8]; rfl
    rw [hV]
    rw [hd] at hD
    clear hV hd
    have hA := fun w => null_impl k a t w
    have hB := fun w => is_impl k' a' k t' w
    have hK : kindIn k' k = ((k' == k) || (k' == 0)) := rfl
    have hS : (k' == k) = (k == k') := BEq.comm
    rw [hK, hS] at hB
    clear hK hS
    generalize (k == k') = z at hB ⊢
    generalize (k' == 0) = y at hB ⊢
    generalize (k == 0) = x at hA ⊢
    cases x
    · go_enter Try.func43, Try.ntmps43
      go_wp2_with fail
      have H := fr2_new w k a t k' a' t'
      generalize ((w.alloc (.cells #[.int .i64 k, .int .i64 a, .string t] 27)).alloc (.cells #[.int .i64 k', .int .i64 a', .string t'] 27)) = V at H ⊢
      refine (hC _).mono ?_
      rintro e w0 ⟨rfl, rfl⟩
      go_wp2_with fail
      refine (hD _).mono ?_
      rintro e w0 ⟨rfl, rfl⟩
      obtain ⟨ca0, ca1, ca2⟩ := H.a0.cells
      go_wp2_with fail
      refine (hA _).mono ?_
      rintro e w1 ⟨rfl, hbn1⟩
      replace H := H.next hbn1
      clear hbn1
      clear ca0 ca1 ca2
      obtain ⟨ca0, ca1, ca2⟩ := H.a0.cells
      obtain ⟨cb0, cb1, cb2⟩ := H.b0.cells
      go_wp2_with fail
      refine (hB _).mono ?_
      rintro e w2 ⟨rfl, hbn2⟩
      replace H := H.next hbn2
      clear hbn2
      clear ca0 ca1 ca2
      clear cb0 cb1 cb2
      go_wp2_with fail
      go_ret
      exact ⟨by first | rfl | (cases z <;> cases y <;> rfl), H.b⟩
    · go_enter Try.func43, Try.ntmps43
      go_wp2_with fail
      have H := fr2_new w k a t k' a' t'
      generalize ((w.alloc (.cells #[.int .i64 k, .int .i64 a, .string t] 27)).alloc (.cells #[.int .i64 k', .int .i64 a', .string t'] 27)) = V at H ⊢
      refine (hC _).mono ?_
      rintro e w0 ⟨rfl, rfl⟩
      go_wp2_with fail
      refine (hD _).mono ?_
      rintro e w0 ⟨rfl, rfl⟩
      obtain ⟨ca0, ca1, ca2⟩ := H.a0.cells
      go_wp2_with fail
      refine (hA _).mono ?_
      rintro e w1 ⟨rfl, hbn1⟩
      replace H := H.next hbn1
      clear hbn1
      clear ca0 ca1 ca2
      go_wp2_with fail
      go_ret
      exact ⟨by first | rfl | (cases z <;> cases y <;> rfl), H.b⟩
  have hd : (decide (3 ≤ op) && decide (op ≤ 8)) = false := by rw [decide_eq_false h8]; simp
  rw [hd] at hD
  clear hd
  by_cases h9 : op = 9
  · subst h9
    have hV : fitsOp 9 k k' = (kindIn k 2 && kindIn k' 2) := rfl
    rw [hV]
    clear hV h2 h8
    have hA := fun w => is_impl k a 2 t w
    have hB := fun w => is_impl k' a' 2 t' w
    generalize kindIn k 2 = x at hA ⊢
    generalize kindIn k' 2 = y at hB ⊢
    cases x
    · go_enter Try.func43, Try.ntmps43
      go_wp2_with fail
      have H := fr2_new w k a t k' a' t'
      generalize ((w.alloc (.cells #[.int .i64 k, .int .i64 a, .string t] 27)).alloc (.cells #[.int .i64 k', .int .i64 a', .string t'] 27)) = V at H ⊢
      refine (hC _).mono ?_
      rintro e w0 ⟨rfl, rfl⟩
      go_wp2_with fail
      refine (hD _).mono ?_
      rintro e w0 ⟨rfl, rfl⟩
      obtain ⟨ca0, ca1, ca2⟩ := H.a0.cells
      go_wp2_with fail
      refine (hA _).mono ?_
      rintro e w1 ⟨rfl, hbn1⟩
      replace H := H.next hbn1
      clear hbn1
      clear ca0 ca1 ca2
      go_wp2_with fail
      go_ret
      exact ⟨rfl, H.b⟩
    · go_enter Try.func43, Try.ntmps43
      go_wp2_with fail
      have H := fr2_new w k a t k' a' t'
      generalize ((w.alloc (.cells #[.int .i64 k, .int .i64 a, .string t] 27)).alloc (.cells #[.int .i64 k', .int .i64 a', .string t'] 27)) = V at H ⊢
      refine (hC _).mono ?_
      rintro e w0 ⟨rfl, rfl⟩
      go_wp2_with fail
      refine (hD _).mono ?_
      rintro e w0 ⟨rfl, rfl⟩
      obtain ⟨ca0, ca1, ca2⟩ := H.a0.cells
      go_wp2_with fail
      refine (hA _).mono ?_
      rintro e w1 ⟨rfl, hbn1⟩
      replace H := H.next hbn1
      clear hbn1
      clear ca0 ca1 ca2
      obtain ⟨cb0, cb1, cb2⟩ := H.b0.cells
      go_wp2_with fail
      refine (hB _).mono ?_
      rintro e w2 ⟨rfl, hbn2⟩
      replace H := H.next hbn2
      clear hbn2
      clear cb0 cb1 cb2
      go_wp2_with fail
      go_ret
      exact ⟨rfl, H.b⟩
  have q9 : (op == 9) = false := by simpa using h9
  have hV : fitsOp op k k' = (kindIn k 1 && kindIn k' 1) := by unfold fitsOp; rw [if_neg h2, if_neg h8, if_neg h9]
  rw [hV]
  clear hV h2 h8
  have hA := fun w => is_impl k a 1 t w
  have hB := fun w => is_impl k' a' 1 t' w
  generalize kindIn k 1 = x at hA ⊢
  generalize kindIn k' 1 = y at hB ⊢
  cases x
  · go_enter Try.func43, Try.ntmps43
    go_wp2_with fail
    have H := fr2_new w k a t k' a' t'
    generalize ((w.alloc (.cells #[.int .i64 k, .int .i64 a, .string t] 27)).alloc (.cells #[.int .i64 k', .int .i64 a', .string t'] 27)) = V at H ⊢
    refine (hC _).mono ?_
    rintro e w0 ⟨rfl, rfl⟩
    go_wp2_with fail
    refine (hD _).mono ?_
    rintro e w0 ⟨rfl, rfl⟩
    obtain ⟨ca0, ca1, ca2⟩ := H.a0.cells
    go_wp2_with fail
    refine (hA _).mono ?_
    rintro e w1 ⟨rfl, hbn1⟩
    replace H := H.next hbn1
    clear hbn1
    clear ca0 ca1 ca2
    go_wp2_with fail
    go_ret
    exact ⟨rfl, H.b⟩
  · go_enter Try.func43, Try.ntmps43
    go_wp2_with fail
    have H := fr2_new w k a t k' a' t'
    generalize ((w.alloc (.cells #[.int .i64 k, .int .i64 a, .string t] 27)).alloc (.cells #[.int .i64 k', .int .i64 a', .string t'] 27)) = V at H ⊢
    refine (hC _).mono ?_
    rintro e w0 ⟨rfl, rfl⟩
    go_wp2_with fail
    refine (hD _).mono ?_
    rintro e w0 ⟨rfl, rfl⟩
    obtain ⟨ca0, ca1, ca2⟩ := H.a0.cells
    go_wp2_with fail
    refine (hA _).mono ?_
    rintro e w1 ⟨rfl, hbn1⟩
    replace H := H.next hbn1
    clear hbn1
    clear ca0 ca1 ca2
    obtain ⟨cb0, cb1, cb2⟩ := H.b0.cells
    go_wp2_with fail
    refine (hB _).mono ?_
    rintro e w2 ⟨rfl, hbn2⟩
    replace H := H.next hbn2
    clear hbn2
    clear cb0 cb1 cb2
    go_wp2_with fail
    go_ret
    exact ⟨rfl, H.b⟩
set_option maxRecDepth 100000 in
set_option maxHeartbeats 1000000 in
theorem numC_impl (x : Int) (w : World) : Calls Try.prog 76 #[.int .i64 (outI x), .bool (fits x)] w (CalcE (numC x) w) := by
  cases hf : fits x
  · rw [numC_no hf]
    unfold errC
    generalize outI x = y
    have H := fr1_new w
    go_enter Try.func76, Try.ntmps76
    obtain ⟨f0, f1, f2⟩ := H.r0.cells
    have hbF := H.b
    go_wp2_with fail
    generalize w.alloc (.cells #[.int .i64 0, .int .i64 0, .string ⟨#[]⟩] 27) = wf at f0 f1 f2 hbF ⊢
    refine bodyPost_ret (v := .tuple #[.agg #[.int .i64 (0), .int .i64 (0), .string (⟨#[]⟩)], .int .i64 (2)]) (by simp [results, Try.results76, go_sem, f0, f1, f2]) rfl ?_
    exact ⟨rfl, hbF⟩
  · rw [numC_yes hf]
    have ho : outI x = x := by unfold outI; rw [if_pos hf]
    rw [ho]
    have hI := fun w => intValue_implC x w
    go_enter Try.func76, Try.ntmps76
    go_wp2_with fail
    have H := fr1_new w
    generalize w.alloc (.cells #[.int .i64 0, .int .i64 0, .string ⟨#[]⟩] 27) = V at H ⊢
    refine (hI _).mono ?_
    rintro e w1 ⟨rfl, hbn1⟩
    replace H := H.next hbn1
    clear hbn1
    obtain ⟨z0, z1, z2⟩ := H.r0.soft
    obtain ⟨g0, g1, g2⟩ := H.r0.cells
    obtain ⟨f0, f1, f2, hbF⟩ := H.fin (1) (x) (⟨#[]⟩)
    go_wp2_with fail
    rw [put_eq]
    generalize put _ (w.heap.size) (1) (x) (⟨#[]⟩) = wf at f0 f1 f2 hbF ⊢
    refine bodyPost_ret (v := .tuple #[.agg #[.int .i64 (1), .int .i64 (x), .string (⟨#[]⟩)], .int .i64 (0)]) (by simp [results, Try.results76, go_sem, f0, f1, f2]) rfl ?_
    exact ⟨rfl, hbF⟩
set_option maxRecDepth 100000 in
set_option maxHeartbeats 2000000 in
theorem compare_impl (op o : Int) (w : World) (h3 : 3 ≤ op) (h8 : op ≤ 8) (ho : o = -1 ∨ o = 0 ∨ o = 1) : Calls Try.prog 48 #[.int .i64 op, .int .i64 o] w (PureE (.bool (holdsB op o)) w) := by
  rcases (show op = 3 ∨ op = 4 ∨ op = 5 ∨ op = 6 ∨ op = 7 ∨ op = 8 by omega) with rfl | rfl | rfl | rfl | rfl | rfl <;> rcases ho with rfl | rfl | rfl <;>
  (go_enter Try.func48, Try.ntmps48
   go_wp2_with fail
   go_ret
   exact ⟨rfl, rfl⟩)
end Go.Proofs.Ytjekhgekldkopaa
