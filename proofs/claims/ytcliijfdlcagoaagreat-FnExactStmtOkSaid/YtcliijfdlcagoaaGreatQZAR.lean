/- Joined texts: ValSl ValLaws ValMath OrdS ValI. -/
import Derived.Test.YtcliijfdlcagoaaGreatQZAQ
import Derived.Test.YtcliijfdlcagoaaGreatQZAP
import Derived.Test.YtcliijfdlcagoaaGreatQZAE
import Derived.Test.YtcliijfdlcagoaaGreatQZAC
import Derived.Deep.RegionWith
import Derived.WalkKit
import Derived.Lib.Hide
import Derived.Laws.Cover1
namespace Go.Proofs.YtcliijfdlcagoaaGreat
set_option linter.unusedVariables false
set_option linter.unusedSimpArgs false
open Go.RowKit
def ValueOkI : Prop := ∀ (k n : Int) (t : ByteArray) (w : World), t.size ≤ 9223372036854775807 → Calls Tryz.prog 127 #[.agg #[.int .i64 k, .int .i64 n, .string t]] w (BoolE (valOk k n t.data.toList) w)
/-! ### The order of strings -/
/-! ### The order of values -/
/-! ### The order of rows -/
/-! ### Rows in order -/
theorem ba_toList (t : ByteArray) : t.toList = t.data.toList := ByteArray.toList_eq t
set_option maxRecDepth 100000 in
set_option maxHeartbeats 800000 in
theorem intValue_implC (n : Int) (w : World) : Calls Tryz.prog 129 #[.int .i64 n] w (CopyV 1 n ⟨#[]⟩ w) := by
  have hR := heap_alloc_new w (.cells #[.int .i64 1, .int .i64 n, .string ⟨#[]⟩] 76)
  have f0 := cell_of_row _ w.heap.size 0 _ 76 (0, 0) hR
  have f1 := cell_of_row _ w.heap.size 1 _ 76 (0, 0) hR
  have f2 := cell_of_row _ w.heap.size 2 _ 76 (0, 0) hR
  have hb := (Below.refl w.heap.size w).alloc (Nat.le_refl _) (.cells #[.int .i64 1, .int .i64 n, .string ⟨#[]⟩] 76)
  go_enter Tryz.func129, Tryz.ntmps129
  go_wp2_with fail
  generalize w.alloc (.cells #[.int .i64 1, .int .i64 n, .string ⟨#[]⟩] 76) = wf at f0 f1 f2 hb ⊢
  refine bodyPost_ret (v := .agg #[.int .i64 1, .int .i64 n, .string ⟨#[]⟩]) (by simp [results, Tryz.results129, go_sem, f0, f1, f2]) rfl ?_
  exact ⟨rfl, hb⟩
set_option maxRecDepth 100000 in
set_option maxHeartbeats 800000 in
theorem textValue_implC (s : ByteArray) (w : World) : Calls Tryz.prog 130 #[.string s] w (CopyV 2 0 s w) := by
  have hR := heap_alloc_new w (.cells #[.int .i64 2, .int .i64 0, .string s] 76)
  have f0 := cell_of_row _ w.heap.size 0 _ 76 (0, 0) hR
  have f1 := cell_of_row _ w.heap.size 1 _ 76 (0, 0) hR
  have f2 := cell_of_row _ w.heap.size 2 _ 76 (0, 0) hR
  have hb := (Below.refl w.heap.size w).alloc (Nat.le_refl _) (.cells #[.int .i64 2, .int .i64 0, .string s] 76)
  go_enter Tryz.func130, Tryz.ntmps130
  go_wp2_with fail
  generalize w.alloc (.cells #[.int .i64 2, .int .i64 0, .string s] 76) = wf at f0 f1 f2 hb ⊢
  refine bodyPost_ret (v := .agg #[.int .i64 2, .int .i64 0, .string s]) (by simp [results, Tryz.results130, go_sem, f0, f1, f2]) rfl ?_
  exact ⟨rfl, hb⟩
set_option maxRecDepth 100000 in
set_option maxHeartbeats 800000 in
theorem boolValue_implC (b : Bool) (w : World) : Calls Tryz.prog 131 #[.bool b] w (CopyV 3 (if b then 1 else 0) ⟨#[]⟩ w) := by
  cases b
  · have hR := heap_alloc_new w (.cells #[.int .i64 3, .int .i64 0, .string ⟨#[]⟩] 76)
    have f0 := cell_of_row _ w.heap.size 0 _ 76 (0, 0) hR
    have f1 := cell_of_row _ w.heap.size 1 _ 76 (0, 0) hR
    have f2 := cell_of_row _ w.heap.size 2 _ 76 (0, 0) hR
    have hb := (Below.refl w.heap.size w).alloc (Nat.le_refl _) (.cells #[.int .i64 3, .int .i64 0, .string ⟨#[]⟩] 76)
    go_enter Tryz.func131, Tryz.ntmps131
    go_wp2_with fail
    generalize w.alloc (.cells #[.int .i64 3, .int .i64 0, .string ⟨#[]⟩] 76) = wf at f0 f1 f2 hb ⊢
    refine bodyPost_ret (v := .agg #[.int .i64 3, .int .i64 0, .string ⟨#[]⟩]) (by simp [results, Tryz.results131, go_sem, f0, f1, f2]) rfl ?_
    exact ⟨rfl, hb⟩
  · have hR := heap_alloc_new w (.cells #[.int .i64 3, .int .i64 1, .string ⟨#[]⟩] 76)
    have f0 := cell_of_row _ w.heap.size 0 _ 76 (0, 0) hR
    have f1 := cell_of_row _ w.heap.size 1 _ 76 (0, 0) hR
    have f2 := cell_of_row _ w.heap.size 2 _ 76 (0, 0) hR
    have hb := (Below.refl w.heap.size w).alloc (Nat.le_refl _) (.cells #[.int .i64 3, .int .i64 1, .string ⟨#[]⟩] 76)
    go_enter Tryz.func131, Tryz.ntmps131
    go_wp2_with fail
    generalize w.alloc (.cells #[.int .i64 3, .int .i64 1, .string ⟨#[]⟩] 76) = wf at f0 f1 f2 hb ⊢
    refine bodyPost_ret (v := .agg #[.int .i64 3, .int .i64 1, .string ⟨#[]⟩]) (by simp [results, Tryz.results131, go_sem, f0, f1, f2]) rfl ?_
    exact ⟨rfl, hb⟩
theorem lst_nil (t : ByteArray) : (t.toList = []) = (t.data.toList = []) := by rw [ba_toList]
set_option maxRecDepth 100000 in
set_option maxHeartbeats 4000000 in
theorem valueOk_impl : ValueOkI := fun k n t w ht => by
  have hbb := (Below.refl w.heap.size w).alloc (Nat.le_refl _) (.cells #[.int .i64 k, .int .i64 n, .string t] 76)
  have hR := heap_alloc_new w (.cells #[.int .i64 k, .int .i64 n, .string t] 76)
  have c0 := cell_of_row _ w.heap.size 0 _ 76 (0, 0) hR
  have c1 := cell_of_row _ w.heap.size 1 _ 76 (0, 0) hR
  have c2 := cell_of_row _ w.heap.size 2 _ 76 (0, 0) hR
  clear hR
  have hV : valOk k n t.data.toList = (if k = 0 then decide (n = 0) && decide (t.data.toList = []) else if k = 1 then decide (t.data.toList = []) else if k = 2 then decide (n = 0) && decide ((t.size : Int) ≤ 200) else if k = 3 then (decide (0 ≤ n) && decide (n ≤ 1)) && decide (t.data.toList = []) else false) := rfl
  generalize valOk k n t.data.toList = V at hV ⊢
  simp only [← lst_nil] at hV
  have hI := fun w => intValue_implC n w
  have hT := fun w => textValue_implC t w
  have hB := fun w => boolValue_implC (n == 1) w
  by_cases h1 : k = 1
  · subst h1
    rw [if_neg (by decide), if_pos rfl] at hV
    clear hT hB
    by_cases ht0 : t.toList = []
    · rw [decide_eq_true ht0] at hV
      have HV := Lib.hid hV; clear hV
      have x0 := lat_cell c0
      have x1 := lat_cell c1
      have x2 := lat_cell c2
      go_enter Tryz.func127, Tryz.ntmps127
      go_wp2_with fail
      generalize w.alloc (.cells #[.int .i64 1, .int .i64 n, .string t] 76) = wr at *
      refine region_lat (by kernel_rfl) (by kernel_rfl) ?_
      iterate 6 (go_big_quiet_step ((refine (hI (lat wr _)).mono ?_; rintro e w'' ⟨rfl, hb''⟩; exact ⟨rfl, lat_to hb''⟩)))
      refine wpQuiet_nil ?_
      rintro _ ⟨nq, rfl⟩
      have hbq := hbb.trans ((lat_below wr nq).mono hbb.size)
      clear x0 x1 x2 hI
      generalize lat wr nq = wq at hbq ⊢
      go_wp2_with fail
      go_ret
      exact ⟨by rw [HV.out]; rfl, hbq⟩
    · rw [decide_eq_false ht0] at hV
      have HV := Lib.hid hV; clear hV
      have x0 := lat_cell c0
      have x1 := lat_cell c1
      have x2 := lat_cell c2
      go_enter Tryz.func127, Tryz.ntmps127
      go_wp2_with fail
      generalize w.alloc (.cells #[.int .i64 1, .int .i64 n, .string t] 76) = wr at *
      refine region_lat (by kernel_rfl) (by kernel_rfl) ?_
      iterate 6 (go_big_quiet_step ((refine (hI (lat wr _)).mono ?_; rintro e w'' ⟨rfl, hb''⟩; exact ⟨rfl, lat_to hb''⟩)))
      refine wpQuiet_nil ?_
      rintro _ ⟨nq, rfl⟩
      have hbq := hbb.trans ((lat_below wr nq).mono hbb.size)
      clear x0 x1 x2 hI
      generalize lat wr nq = wq at hbq ⊢
      go_wp2_with fail
      go_ret
      exact ⟨by rw [HV.out]; rfl, hbq⟩
  have q1 : (k == 1) = false := by simpa using h1
  by_cases h2 : k = 2
  · subst h2
    rw [if_neg (by decide), if_neg (by decide), if_pos rfl] at hV
    clear hI hB q1 h1
    by_cases hn : n = 0
    · subst hn
      by_cases hz : t.size ≤ 200
      · have d1 : decide ((t.size : Int) ≤ 200) = true := by simp; omega
        have d2 : decide (t.size ≤ 200) = true := by simp; omega
        rw [d1] at hV
        have HV := Lib.hid (hV.trans (by rfl : _ = true)); clear hV hz
        have x0 := lat_cell c0
        have x1 := lat_cell c1
        have x2 := lat_cell c2
        go_enter Tryz.func127, Tryz.ntmps127
        go_wp2_with fail
        generalize w.alloc (.cells #[.int .i64 2, .int .i64 0, .string t] 76) = wr at *
        refine region_lat (by kernel_rfl) (by kernel_rfl) ?_
        iterate 12 (go_big_quiet_step ((refine (hT (lat wr _)).mono ?_; rintro e w'' ⟨rfl, hb''⟩; exact ⟨rfl, lat_to hb''⟩)))
        refine wpQuiet_nil ?_
        rintro _ ⟨nq, rfl⟩
        have hbq := hbb.trans ((lat_below wr nq).mono hbb.size)
        clear x0 x1 x2 hT
        generalize lat wr nq = wq at hbq ⊢
        go_wp2_with fail
        go_ret
        exact ⟨by rw [HV.out]; rfl, hbq⟩
      · have d1 : decide ((t.size : Int) ≤ 200) = false := by simp; omega
        have d2 : decide (t.size ≤ 200) = false := by simp; omega
        rw [d1] at hV
        have HV := Lib.hid (hV.trans (by rfl : _ = false)); clear hV hz
        have x0 := lat_cell c0
        have x1 := lat_cell c1
        have x2 := lat_cell c2
        go_enter Tryz.func127, Tryz.ntmps127
        go_wp2_with fail
        generalize w.alloc (.cells #[.int .i64 2, .int .i64 0, .string t] 76) = wr at *
        refine region_lat (by kernel_rfl) (by kernel_rfl) ?_
        iterate 12 (go_big_quiet_step ((refine (hT (lat wr _)).mono ?_; rintro e w'' ⟨rfl, hb''⟩; exact ⟨rfl, lat_to hb''⟩)))
        refine wpQuiet_nil ?_
        rintro _ ⟨nq, rfl⟩
        have hbq := hbb.trans ((lat_below wr nq).mono hbb.size)
        clear x0 x1 x2 hT
        generalize lat wr nq = wq at hbq ⊢
        go_wp2_with fail
        go_ret
        exact ⟨by rw [HV.out]; rfl, hbq⟩
    · rw [decide_eq_false hn] at hV
      have HV := Lib.hid (hV.trans (by rfl : _ = false)); clear hV
      have x0 := lat_cell c0
      have x1 := lat_cell c1
      have x2 := lat_cell c2
      go_enter Tryz.func127, Tryz.ntmps127
      go_wp2_with fail
      generalize w.alloc (.cells #[.int .i64 2, .int .i64 n, .string t] 76) = wr at *
      refine region_lat (by kernel_rfl) (by kernel_rfl) ?_
      iterate 12 (go_big_quiet_step ((refine (hT (lat wr _)).mono ?_; rintro e w'' ⟨rfl, hb''⟩; exact ⟨rfl, lat_to hb''⟩)))
      refine wpQuiet_nil ?_
      rintro _ ⟨nq, rfl⟩
      have hbq := hbb.trans ((lat_below wr nq).mono hbb.size)
      clear x0 x1 x2 hT
      generalize lat wr nq = wq at hbq ⊢
      go_wp2_with fail
      go_ret
      exact ⟨by rw [HV.out]; rfl, hbq⟩
  have q2 : (k == 2) = false := by simpa using h2
  clear hI hT
  by_cases h3 : k = 3
  · subst h3
    rw [if_neg (by decide), if_neg (by decide), if_neg (by decide), if_pos rfl] at hV
    clear q1 q2 h1 h2
    have hn3 : n = 1 ∨ n = 0 ∨ (¬ n = 1 ∧ ¬ n = 0) := by omega
    rcases hn3 with rfl | rfl | ⟨hn1, hn0⟩
    · by_cases ht0 : t.toList = []
      · rw [decide_eq_true ht0] at hV
        have HV := Lib.hid (hV.trans (by rfl : _ = true)); clear hV
        have x0 := lat_cell c0
        have x1 := lat_cell c1
        have x2 := lat_cell c2
        go_enter Tryz.func127, Tryz.ntmps127
        go_wp2_with fail
        generalize w.alloc (.cells #[.int .i64 3, .int .i64 1, .string t] 76) = wr at *
        refine region_lat (by kernel_rfl) (by kernel_rfl) ?_
        iterate 7 (go_big_quiet_step ((refine (hB (lat wr _)).mono ?_; rintro e w'' ⟨rfl, hb''⟩; exact ⟨rfl, lat_to hb''⟩)))
        refine wpQuiet_nil ?_
        rintro _ ⟨nq, rfl⟩
        have hbq := hbb.trans ((lat_below wr nq).mono hbb.size)
        clear x0 x1 x2 hB
        generalize lat wr nq = wq at hbq ⊢
        go_wp2_with fail
        go_ret
        exact ⟨by rw [HV.out]; rfl, hbq⟩
      · rw [decide_eq_false ht0] at hV
        have HV := Lib.hid (hV.trans (by rfl : _ = false)); clear hV
        have x0 := lat_cell c0
        have x1 := lat_cell c1
        have x2 := lat_cell c2
        go_enter Tryz.func127, Tryz.ntmps127
        go_wp2_with fail
        generalize w.alloc (.cells #[.int .i64 3, .int .i64 1, .string t] 76) = wr at *
        refine region_lat (by kernel_rfl) (by kernel_rfl) ?_
        iterate 7 (go_big_quiet_step ((refine (hB (lat wr _)).mono ?_; rintro e w'' ⟨rfl, hb''⟩; exact ⟨rfl, lat_to hb''⟩)))
        refine wpQuiet_nil ?_
        rintro _ ⟨nq, rfl⟩
        have hbq := hbb.trans ((lat_below wr nq).mono hbb.size)
        clear x0 x1 x2 hB
        generalize lat wr nq = wq at hbq ⊢
        go_wp2_with fail
        go_ret
        exact ⟨by rw [HV.out]; rfl, hbq⟩
    · by_cases ht0 : t.toList = []
      · rw [decide_eq_true ht0] at hV
        have HV := Lib.hid (hV.trans (by rfl : _ = true)); clear hV
        have x0 := lat_cell c0
        have x1 := lat_cell c1
        have x2 := lat_cell c2
        go_enter Tryz.func127, Tryz.ntmps127
        go_wp2_with fail
        generalize w.alloc (.cells #[.int .i64 3, .int .i64 0, .string t] 76) = wr at *
        refine region_lat (by kernel_rfl) (by kernel_rfl) ?_
        iterate 7 (go_big_quiet_step ((refine (hB (lat wr _)).mono ?_; rintro e w'' ⟨rfl, hb''⟩; exact ⟨rfl, lat_to hb''⟩)))
        refine wpQuiet_nil ?_
        rintro _ ⟨nq, rfl⟩
        have hbq := hbb.trans ((lat_below wr nq).mono hbb.size)
        clear x0 x1 x2 hB
        generalize lat wr nq = wq at hbq ⊢
        go_wp2_with fail
        go_ret
        exact ⟨by rw [HV.out]; rfl, hbq⟩
      · rw [decide_eq_false ht0] at hV
        have HV := Lib.hid (hV.trans (by rfl : _ = false)); clear hV
        have x0 := lat_cell c0
        have x1 := lat_cell c1
        have x2 := lat_cell c2
        go_enter Tryz.func127, Tryz.ntmps127
        go_wp2_with fail
        generalize w.alloc (.cells #[.int .i64 3, .int .i64 0, .string t] 76) = wr at *
        refine region_lat (by kernel_rfl) (by kernel_rfl) ?_
        iterate 7 (go_big_quiet_step ((refine (hB (lat wr _)).mono ?_; rintro e w'' ⟨rfl, hb''⟩; exact ⟨rfl, lat_to hb''⟩)))
        refine wpQuiet_nil ?_
        rintro _ ⟨nq, rfl⟩
        have hbq := hbb.trans ((lat_below wr nq).mono hbb.size)
        clear x0 x1 x2 hB
        generalize lat wr nq = wq at hbq ⊢
        go_wp2_with fail
        go_ret
        exact ⟨by rw [HV.out]; rfl, hbq⟩
    · have hr : (decide (0 ≤ n) && decide (n ≤ 1)) = false := by
        rw [Bool.and_eq_false_iff]
        simp only [decide_eq_false_iff_not]
        omega
      have hn1b : (n == 1) = false := by simpa using hn1
      rw [hr] at hV
      have HV := Lib.hid (hV.trans (by rfl : _ = false)); clear hV hr
      rw [hn1b] at hB
      have x0 := lat_cell c0
      have x1 := lat_cell c1
      have x2 := lat_cell c2
      go_enter Tryz.func127, Tryz.ntmps127
      go_wp2_with fail
      generalize w.alloc (.cells #[.int .i64 3, .int .i64 n, .string t] 76) = wr at *
      refine region_lat (by kernel_rfl) (by kernel_rfl) ?_
      iterate 7 (go_big_quiet_step ((refine (hB (lat wr _)).mono ?_; rintro e w'' ⟨rfl, hb''⟩; exact ⟨rfl, lat_to hb''⟩)))
      refine wpQuiet_nil ?_
      rintro _ ⟨nq, rfl⟩
      have hbq := hbb.trans ((lat_below wr nq).mono hbb.size)
      clear x0 x1 x2 hB
      generalize lat wr nq = wq at hbq ⊢
      go_wp2_with fail
      go_ret
      exact ⟨by rw [HV.out]; rfl, hbq⟩
  have q3 : (k == 3) = false := by simpa using h3
  rw [if_neg h1, if_neg h2, if_neg h3] at hV
  clear hB
  by_cases h0 : k = 0
  · subst h0
    rw [if_pos rfl] at hV
    clear q1 q2 q3 h1 h2 h3
    by_cases hn : n = 0
    · subst hn
      by_cases ht0 : t.toList = []
      · rw [decide_eq_true ht0] at hV
        have HV := Lib.hid (hV.trans (by rfl : _ = true)); clear hV
        have x0 := lat_cell c0
        have x1 := lat_cell c1
        have x2 := lat_cell c2
        go_enter Tryz.func127, Tryz.ntmps127
        go_wp2_with fail
        go_ret
        exact ⟨by rw [HV.out]; rfl, hbb⟩
      · rw [decide_eq_false ht0] at hV
        have HV := Lib.hid (hV.trans (by rfl : _ = false)); clear hV
        have x0 := lat_cell c0
        have x1 := lat_cell c1
        have x2 := lat_cell c2
        go_enter Tryz.func127, Tryz.ntmps127
        go_wp2_with fail
        go_ret
        exact ⟨by rw [HV.out]; rfl, hbb⟩
    · rw [decide_eq_false hn] at hV
      have HV := Lib.hid (hV.trans (by rfl : _ = false)); clear hV
      have x0 := lat_cell c0
      have x1 := lat_cell c1
      have x2 := lat_cell c2
      go_enter Tryz.func127, Tryz.ntmps127
      go_wp2_with fail
      go_ret
      exact ⟨by rw [HV.out]; rfl, hbb⟩
  · rw [if_neg h0] at hV
    have HV := Lib.hid hV; clear hV
    have x0 := lat_cell c0
    have x1 := lat_cell c1
    have x2 := lat_cell c2
    go_enter Tryz.func127, Tryz.ntmps127
    go_wp2_with fail
    go_ret
    exact ⟨by rw [HV.out]; rfl, hbb⟩
end Go.Proofs.YtcliijfdlcagoaaGreat
