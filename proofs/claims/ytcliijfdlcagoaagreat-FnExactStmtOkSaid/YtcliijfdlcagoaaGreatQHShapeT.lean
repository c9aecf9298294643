/- Joined texts: ShapeT. -/
import Derived.Test.YtcliijfdlcagoaaGreatQHShapeS
namespace Go.Proofs.YtcliijfdlcagoaaGreat
set_option linter.unusedVariables false
set_option linter.unusedSimpArgs false
open Go.RowKit
set_option maxRecDepth 100000 in
set_option maxHeartbeats 8000000 in
theorem shape_5 (c1 : Int) (c2 : Bool) (c3 c4 : Int) (c5 c6 c7 : ByteArray) (a8 : Option Addr) (n8 p8 : Nat) (a9 : Option Addr) (n9 p9 : Nat) (w : World) (b5 : c5.size ≤ 9223372036854775807) (b6 : c6.size ≤ 9223372036854775807) (b7 : c7.size ≤ 9223372036854775807) (m8 : n8 ≤ 1048576) (m9 : n9 ≤ 1048576) :
    Calls Tryz.prog 126 #[.agg #[.int .i64 5, .int .i64 c1, .bool c2, .int .i64 c3, .int .i64 c4, .string c5, .string c6, .string c7, .slice a8 n8 p8, .slice a9 n9 p9]] w (BoolE (shapeF 5 c1 c2 c3 c4 c5 c6 c7 n8 n9) w) := by
  have hbb := (Below.refl w.heap.size w).alloc (Nat.le_refl _) (.cells #[.int .i64 5, .int .i64 c1, .bool c2, .int .i64 c3, .int .i64 c4, .string c5, .string c6, .string c7, .slice a8 n8 p8, .slice a9 n9 p9] 79)
  have HB := Lib.hid hbb
  have R := RowAt.new w 79 #[.int .i64 5, .int .i64 c1, .bool c2, .int .i64 c3, .int .i64 c4, .string c5, .string c6, .string c7, .slice a8 n8 p8, .slice a9 n9 p9]
  have x0 := R.cell (i := 0) (v := .int .i64 5) rfl
  have x1 := R.cell (i := 1) (v := .int .i64 c1) rfl
  have x2 := R.cell (i := 2) (v := .bool c2) rfl
  have x3 := R.cell (i := 3) (v := .int .i64 c3) rfl
  have x4 := R.cell (i := 4) (v := .int .i64 c4) rfl
  have x5 := R.cell (i := 5) (v := .string c5) rfl
  have x6 := R.cell (i := 6) (v := .string c6) rfl
  have x7 := R.cell (i := 7) (v := .string c7) rfl
  have x8 := R.cell (i := 8) (v := .slice a8 n8 p8) rfl
  have x9 := R.cell (i := 9) (v := .slice a9 n9 p9) rfl
  have h6 := nempty_eq c6
  have h7 := nempty_eq c7
  have hz : ∀ w, (Op.equalIn 10000 76 (.agg #[.int .i64 c3, .int .i64 c4, .string c5]) (.agg #[.int .i64 0, .int .i64 0, .string ⟨#[]⟩])).run Tryz.prog w = .ok (zeroV c3 c4 c5) w := fun w => by
    rw [show (10000 : Nat) = 9998 + 2 from rfl, eq_val 9998]
    simp only [empty_dec, zeroV]
  have ho : (c1 != 0) = !(c1 == 0) := rfl
  have hv : shapeF 5 c1 c2 c3 c4 c5 c6 c7 n8 n9 = (((c1 == 0) && zeroV c3 c4 c5) && ((emptyB c6 && emptyB c7) && ((n8 == 1) && (n9 == 0)))) := by unfold shapeF headB namesB takesB; simp
  have HV := Lib.hid hv
  clear hv hbb R
  generalize emptyB c6 = e6 at h6 HV
  generalize emptyB c7 = e7 at h7 HV
  generalize zeroV c3 c4 c5 = z at hz HV
  generalize (c1 == 0) = o at ho HV
  have ht : ((n8 : Int) == (1 : Int)) = (n8 == 1) := by rw [Bool.eq_iff_iff, beq_iff_eq, beq_iff_eq]; omega
  have hu : ((n9 : Int) == (0 : Int)) = (n9 == 0) := by rw [Bool.eq_iff_iff, beq_iff_eq, beq_iff_eq]; omega
  generalize (n8 == 1) = t at ht HV
  generalize (n9 == 0) = t2 at hu HV
  have hI := fun w => in_any 5 5 8 true w (by decide)
  go_enter Tryz.func126, Tryz.ntmps126
  cases e6
  · replace h6 : (c6.toList != []) = true := h6
    have d6 : ¬ c6.toList = [] := by simpa using h6
    go_wp2_with fail
    go_ret
    exact ⟨by rw [HV.out]; simp, HB.out⟩
  · replace h6 : (c6.toList != []) = false := h6
    have d6 : c6.toList = [] := by simpa using h6
    cases e7
    · replace h7 : (c7.toList != []) = true := h7
      have d7 : ¬ c7.toList = [] := by simpa using h7
      go_wp2_with fail
      go_ret
      exact ⟨by rw [HV.out]; simp, HB.out⟩
    · replace h7 : (c7.toList != []) = false := h7
      have d7 : c7.toList = [] := by simpa using h7
      cases z
      · go_wp2_with fail
        go_ret
        exact ⟨by rw [HV.out]; simp, HB.out⟩
      · cases o
        · replace ho : (c1 != 0) = true := ho
          go_wp2_with fail
          go_ret
          exact ⟨by rw [HV.out]; simp, HB.out⟩
        · replace ho : (c1 != 0) = false := ho
          cases c2
          · cases t
            · go_wp2_with fail
              go_ret
              exact ⟨by rw [HV.out]; simp, HB.out⟩
            · go_wp2_with fail
              go_ret
              exact ⟨by rw [HV.out]; simp, HB.out⟩
          · go_wp2_with fail
            refine (hI _).mono ?_
            rintro e w1 ⟨rfl, rfl⟩
            cases t
            · go_wp2_with fail
              go_ret
              exact ⟨by rw [HV.out]; simp, HB.out⟩
            · go_wp2_with fail
              go_ret
              exact ⟨by rw [HV.out]; simp, HB.out⟩
set_option maxRecDepth 100000 in
set_option maxHeartbeats 8000000 in
theorem shape_6 (c1 : Int) (c2 : Bool) (c3 c4 : Int) (c5 c6 c7 : ByteArray) (a8 : Option Addr) (n8 p8 : Nat) (a9 : Option Addr) (n9 p9 : Nat) (w : World) (b5 : c5.size ≤ 9223372036854775807) (b6 : c6.size ≤ 9223372036854775807) (b7 : c7.size ≤ 9223372036854775807) (m8 : n8 ≤ 1048576) (m9 : n9 ≤ 1048576) :
    Calls Tryz.prog 126 #[.agg #[.int .i64 6, .int .i64 c1, .bool c2, .int .i64 c3, .int .i64 c4, .string c5, .string c6, .string c7, .slice a8 n8 p8, .slice a9 n9 p9]] w (BoolE (shapeF 6 c1 c2 c3 c4 c5 c6 c7 n8 n9) w) := by
  have hbb := (Below.refl w.heap.size w).alloc (Nat.le_refl _) (.cells #[.int .i64 6, .int .i64 c1, .bool c2, .int .i64 c3, .int .i64 c4, .string c5, .string c6, .string c7, .slice a8 n8 p8, .slice a9 n9 p9] 79)
  have HB := Lib.hid hbb
  have R := RowAt.new w 79 #[.int .i64 6, .int .i64 c1, .bool c2, .int .i64 c3, .int .i64 c4, .string c5, .string c6, .string c7, .slice a8 n8 p8, .slice a9 n9 p9]
  have x0 := R.cell (i := 0) (v := .int .i64 6) rfl
  have x1 := R.cell (i := 1) (v := .int .i64 c1) rfl
  have x2 := R.cell (i := 2) (v := .bool c2) rfl
  have x3 := R.cell (i := 3) (v := .int .i64 c3) rfl
  have x4 := R.cell (i := 4) (v := .int .i64 c4) rfl
  have x5 := R.cell (i := 5) (v := .string c5) rfl
  have x6 := R.cell (i := 6) (v := .string c6) rfl
  have x7 := R.cell (i := 7) (v := .string c7) rfl
  have x8 := R.cell (i := 8) (v := .slice a8 n8 p8) rfl
  have x9 := R.cell (i := 9) (v := .slice a9 n9 p9) rfl
  have h6 := nempty_eq c6
  have h7 := nempty_eq c7
  have hz : ∀ w, (Op.equalIn 10000 76 (.agg #[.int .i64 c3, .int .i64 c4, .string c5]) (.agg #[.int .i64 0, .int .i64 0, .string ⟨#[]⟩])).run Tryz.prog w = .ok (zeroV c3 c4 c5) w := fun w => by
    rw [show (10000 : Nat) = 9998 + 2 from rfl, eq_val 9998]
    simp only [empty_dec, zeroV]
  have ho : (c1 != 0) = !(c1 == 0) := rfl
  have hv : shapeF 6 c1 c2 c3 c4 c5 c6 c7 n8 n9 = (((c1 == 0) && zeroV c3 c4 c5) && ((emptyB c6 && emptyB c7) && ((n8 == 3) && (n9 == 0)))) := by unfold shapeF headB namesB takesB; simp
  have HV := Lib.hid hv
  clear hv hbb R
  generalize emptyB c6 = e6 at h6 HV
  generalize emptyB c7 = e7 at h7 HV
  generalize zeroV c3 c4 c5 = z at hz HV
  generalize (c1 == 0) = o at ho HV
  have ht : ((n8 : Int) == (3 : Int)) = (n8 == 3) := by rw [Bool.eq_iff_iff, beq_iff_eq, beq_iff_eq]; omega
  have hu : ((n9 : Int) == (0 : Int)) = (n9 == 0) := by rw [Bool.eq_iff_iff, beq_iff_eq, beq_iff_eq]; omega
  generalize (n8 == 3) = t at ht HV
  generalize (n9 == 0) = t2 at hu HV
  have hI := fun w => in_any 6 5 8 true w (by decide)
  go_enter Tryz.func126, Tryz.ntmps126
  cases e6
  · replace h6 : (c6.toList != []) = true := h6
    have d6 : ¬ c6.toList = [] := by simpa using h6
    go_wp2_with fail
    go_ret
    exact ⟨by rw [HV.out]; simp, HB.out⟩
  · replace h6 : (c6.toList != []) = false := h6
    have d6 : c6.toList = [] := by simpa using h6
    cases e7
    · replace h7 : (c7.toList != []) = true := h7
      have d7 : ¬ c7.toList = [] := by simpa using h7
      go_wp2_with fail
      go_ret
      exact ⟨by rw [HV.out]; simp, HB.out⟩
    · replace h7 : (c7.toList != []) = false := h7
      have d7 : c7.toList = [] := by simpa using h7
      cases z
      · go_wp2_with fail
        go_ret
        exact ⟨by rw [HV.out]; simp, HB.out⟩
      · cases o
        · replace ho : (c1 != 0) = true := ho
          go_wp2_with fail
          go_ret
          exact ⟨by rw [HV.out]; simp, HB.out⟩
        · replace ho : (c1 != 0) = false := ho
          cases c2
          · cases t
            · go_wp2_with fail
              go_ret
              exact ⟨by rw [HV.out]; simp, HB.out⟩
            · go_wp2_with fail
              go_ret
              exact ⟨by rw [HV.out]; simp, HB.out⟩
          · go_wp2_with fail
            refine (hI _).mono ?_
            rintro e w1 ⟨rfl, rfl⟩
            cases t
            · go_wp2_with fail
              go_ret
              exact ⟨by rw [HV.out]; simp, HB.out⟩
            · go_wp2_with fail
              go_ret
              exact ⟨by rw [HV.out]; simp, HB.out⟩
set_option maxRecDepth 100000 in
set_option maxHeartbeats 8000000 in
theorem shape_7 (c1 : Int) (c2 : Bool) (c3 c4 : Int) (c5 c6 c7 : ByteArray) (a8 : Option Addr) (n8 p8 : Nat) (a9 : Option Addr) (n9 p9 : Nat) (w : World) (b5 : c5.size ≤ 9223372036854775807) (b6 : c6.size ≤ 9223372036854775807) (b7 : c7.size ≤ 9223372036854775807) (m8 : n8 ≤ 1048576) (m9 : n9 ≤ 1048576) :
    Calls Tryz.prog 126 #[.agg #[.int .i64 7, .int .i64 c1, .bool c2, .int .i64 c3, .int .i64 c4, .string c5, .string c6, .string c7, .slice a8 n8 p8, .slice a9 n9 p9]] w (BoolE (shapeF 7 c1 c2 c3 c4 c5 c6 c7 n8 n9) w) := by
  have hbb := (Below.refl w.heap.size w).alloc (Nat.le_refl _) (.cells #[.int .i64 7, .int .i64 c1, .bool c2, .int .i64 c3, .int .i64 c4, .string c5, .string c6, .string c7, .slice a8 n8 p8, .slice a9 n9 p9] 79)
  have HB := Lib.hid hbb
  have R := RowAt.new w 79 #[.int .i64 7, .int .i64 c1, .bool c2, .int .i64 c3, .int .i64 c4, .string c5, .string c6, .string c7, .slice a8 n8 p8, .slice a9 n9 p9]
  have x0 := R.cell (i := 0) (v := .int .i64 7) rfl
  have x1 := R.cell (i := 1) (v := .int .i64 c1) rfl
  have x2 := R.cell (i := 2) (v := .bool c2) rfl
  have x3 := R.cell (i := 3) (v := .int .i64 c3) rfl
  have x4 := R.cell (i := 4) (v := .int .i64 c4) rfl
  have x5 := R.cell (i := 5) (v := .string c5) rfl
  have x6 := R.cell (i := 6) (v := .string c6) rfl
  have x7 := R.cell (i := 7) (v := .string c7) rfl
  have x8 := R.cell (i := 8) (v := .slice a8 n8 p8) rfl
  have x9 := R.cell (i := 9) (v := .slice a9 n9 p9) rfl
  have h6 := nempty_eq c6
  have h7 := nempty_eq c7
  have hz : ∀ w, (Op.equalIn 10000 76 (.agg #[.int .i64 c3, .int .i64 c4, .string c5]) (.agg #[.int .i64 0, .int .i64 0, .string ⟨#[]⟩])).run Tryz.prog w = .ok (zeroV c3 c4 c5) w := fun w => by
    rw [show (10000 : Nat) = 9998 + 2 from rfl, eq_val 9998]
    simp only [empty_dec, zeroV]
  have ho : (c1 != 0) = !(c1 == 0) := rfl
  have hv : shapeF 7 c1 c2 c3 c4 c5 c6 c7 n8 n9 = (((c1 == 0) && zeroV c3 c4 c5) && ((emptyB c6 && emptyB c7) && ((decide (2 ≤ n8) && decide (n8 ≤ 9)) && (n9 == 0)))) := by unfold shapeF headB namesB takesB; simp
  have HV := Lib.hid hv
  clear hv hbb R
  generalize emptyB c6 = e6 at h6 HV
  generalize emptyB c7 = e7 at h7 HV
  generalize zeroV c3 c4 c5 = z at hz HV
  generalize (c1 == 0) = o at ho HV
  have hI2 := fun w => in_any (n8 : Int) 2 9 (decide (2 ≤ n8) && decide (n8 ≤ 9)) w (by rw [Bool.eq_iff_iff]; simp; omega)
  have ht : ((n9 : Int) == (0 : Int)) = (n9 == 0) := by rw [Bool.eq_iff_iff, beq_iff_eq, beq_iff_eq]; omega
  generalize (decide (2 ≤ n8) && decide (n8 ≤ 9)) = t at hI2 HV
  generalize (n9 == 0) = t2 at ht HV
  have hI := fun w => in_any 7 5 8 true w (by decide)
  go_enter Tryz.func126, Tryz.ntmps126
  cases e6
  · replace h6 : (c6.toList != []) = true := h6
    have d6 : ¬ c6.toList = [] := by simpa using h6
    go_wp2_with fail
    go_ret
    exact ⟨by rw [HV.out]; simp, HB.out⟩
  · replace h6 : (c6.toList != []) = false := h6
    have d6 : c6.toList = [] := by simpa using h6
    cases e7
    · replace h7 : (c7.toList != []) = true := h7
      have d7 : ¬ c7.toList = [] := by simpa using h7
      go_wp2_with fail
      go_ret
      exact ⟨by rw [HV.out]; simp, HB.out⟩
    · replace h7 : (c7.toList != []) = false := h7
      have d7 : c7.toList = [] := by simpa using h7
      cases z
      · go_wp2_with fail
        go_ret
        exact ⟨by rw [HV.out]; simp, HB.out⟩
      · cases o
        · replace ho : (c1 != 0) = true := ho
          go_wp2_with fail
          go_ret
          exact ⟨by rw [HV.out]; simp, HB.out⟩
        · replace ho : (c1 != 0) = false := ho
          cases c2
          · cases t
            · go_wp2_with fail
              refine (hI2 _).mono ?_
              rintro e w1 ⟨rfl, rfl⟩
              go_wp2_with fail
              go_ret
              exact ⟨by rw [HV.out]; simp, HB.out⟩
            · go_wp2_with fail
              refine (hI2 _).mono ?_
              rintro e w1 ⟨rfl, rfl⟩
              go_wp2_with fail
              go_ret
              exact ⟨by rw [HV.out]; simp, HB.out⟩
          · go_wp2_with fail
            refine (hI _).mono ?_
            rintro e w1 ⟨rfl, rfl⟩
            cases t
            · go_wp2_with fail
              refine (hI2 _).mono ?_
              rintro e w1 ⟨rfl, rfl⟩
              go_wp2_with fail
              go_ret
              exact ⟨by rw [HV.out]; simp, HB.out⟩
            · go_wp2_with fail
              refine (hI2 _).mono ?_
              rintro e w1 ⟨rfl, rfl⟩
              go_wp2_with fail
              go_ret
              exact ⟨by rw [HV.out]; simp, HB.out⟩
set_option maxRecDepth 100000 in
set_option maxHeartbeats 8000000 in
theorem shape_8 (c1 : Int) (c2 : Bool) (c3 c4 : Int) (c5 c6 c7 : ByteArray) (a8 : Option Addr) (n8 p8 : Nat) (a9 : Option Addr) (n9 p9 : Nat) (w : World) (b5 : c5.size ≤ 9223372036854775807) (b6 : c6.size ≤ 9223372036854775807) (b7 : c7.size ≤ 9223372036854775807) (m8 : n8 ≤ 1048576) (m9 : n9 ≤ 1048576) :
    Calls Tryz.prog 126 #[.agg #[.int .i64 8, .int .i64 c1, .bool c2, .int .i64 c3, .int .i64 c4, .string c5, .string c6, .string c7, .slice a8 n8 p8, .slice a9 n9 p9]] w (BoolE (shapeF 8 c1 c2 c3 c4 c5 c6 c7 n8 n9) w) := by
  have hbb := (Below.refl w.heap.size w).alloc (Nat.le_refl _) (.cells #[.int .i64 8, .int .i64 c1, .bool c2, .int .i64 c3, .int .i64 c4, .string c5, .string c6, .string c7, .slice a8 n8 p8, .slice a9 n9 p9] 79)
  have HB := Lib.hid hbb
  have R := RowAt.new w 79 #[.int .i64 8, .int .i64 c1, .bool c2, .int .i64 c3, .int .i64 c4, .string c5, .string c6, .string c7, .slice a8 n8 p8, .slice a9 n9 p9]
  have x0 := R.cell (i := 0) (v := .int .i64 8) rfl
  have x1 := R.cell (i := 1) (v := .int .i64 c1) rfl
  have x2 := R.cell (i := 2) (v := .bool c2) rfl
  have x3 := R.cell (i := 3) (v := .int .i64 c3) rfl
  have x4 := R.cell (i := 4) (v := .int .i64 c4) rfl
  have x5 := R.cell (i := 5) (v := .string c5) rfl
  have x6 := R.cell (i := 6) (v := .string c6) rfl
  have x7 := R.cell (i := 7) (v := .string c7) rfl
  have x8 := R.cell (i := 8) (v := .slice a8 n8 p8) rfl
  have x9 := R.cell (i := 9) (v := .slice a9 n9 p9) rfl
  have h6 := nempty_eq c6
  have h7 := nempty_eq c7
  have hz : ∀ w, (Op.equalIn 10000 76 (.agg #[.int .i64 c3, .int .i64 c4, .string c5]) (.agg #[.int .i64 0, .int .i64 0, .string ⟨#[]⟩])).run Tryz.prog w = .ok (zeroV c3 c4 c5) w := fun w => by
    rw [show (10000 : Nat) = 9998 + 2 from rfl, eq_val 9998]
    simp only [empty_dec, zeroV]
  have ho : (c1 != 0) = !(c1 == 0) := rfl
  have hv : shapeF 8 c1 c2 c3 c4 c5 c6 c7 n8 n9 = (((c1 == 0) && zeroV c3 c4 c5) && ((emptyB c6 && emptyB c7) && ((n8 == 1) && (n9 == 1)))) := by unfold shapeF headB namesB takesB; simp
  have HV := Lib.hid hv
  clear hv hbb R
  generalize emptyB c6 = e6 at h6 HV
  generalize emptyB c7 = e7 at h7 HV
  generalize zeroV c3 c4 c5 = z at hz HV
  generalize (c1 == 0) = o at ho HV
  have ht : ((n8 : Int) == (1 : Int)) = (n8 == 1) := by rw [Bool.eq_iff_iff, beq_iff_eq, beq_iff_eq]; omega
  have hu : ((n9 : Int) == (1 : Int)) = (n9 == 1) := by rw [Bool.eq_iff_iff, beq_iff_eq, beq_iff_eq]; omega
  generalize (n8 == 1) = t at ht HV
  generalize (n9 == 1) = t2 at hu HV
  have hI := fun w => in_any 8 5 8 true w (by decide)
  go_enter Tryz.func126, Tryz.ntmps126
  cases e6
  · replace h6 : (c6.toList != []) = true := h6
    have d6 : ¬ c6.toList = [] := by simpa using h6
    go_wp2_with fail
    go_ret
    exact ⟨by rw [HV.out]; simp, HB.out⟩
  · replace h6 : (c6.toList != []) = false := h6
    have d6 : c6.toList = [] := by simpa using h6
    cases e7
    · replace h7 : (c7.toList != []) = true := h7
      have d7 : ¬ c7.toList = [] := by simpa using h7
      go_wp2_with fail
      go_ret
      exact ⟨by rw [HV.out]; simp, HB.out⟩
    · replace h7 : (c7.toList != []) = false := h7
      have d7 : c7.toList = [] := by simpa using h7
      cases z
      · go_wp2_with fail
        go_ret
        exact ⟨by rw [HV.out]; simp, HB.out⟩
      · cases o
        · replace ho : (c1 != 0) = true := ho
          go_wp2_with fail
          go_ret
          exact ⟨by rw [HV.out]; simp, HB.out⟩
        · replace ho : (c1 != 0) = false := ho
          cases c2
          · cases t
            · go_wp2_with fail
              go_ret
              exact ⟨by rw [HV.out]; simp, HB.out⟩
            · go_wp2_with fail
              go_ret
              exact ⟨by rw [HV.out]; simp, HB.out⟩
          · go_wp2_with fail
            refine (hI _).mono ?_
            rintro e w1 ⟨rfl, rfl⟩
            cases t
            · go_wp2_with fail
              go_ret
              exact ⟨by rw [HV.out]; simp, HB.out⟩
            · go_wp2_with fail
              go_ret
              exact ⟨by rw [HV.out]; simp, HB.out⟩
set_option maxRecDepth 100000 in
set_option maxHeartbeats 8000000 in
theorem shape_9 (c1 : Int) (c2 : Bool) (c3 c4 : Int) (c5 c6 c7 : ByteArray) (a8 : Option Addr) (n8 p8 : Nat) (a9 : Option Addr) (n9 p9 : Nat) (w : World) (b5 : c5.size ≤ 9223372036854775807) (b6 : c6.size ≤ 9223372036854775807) (b7 : c7.size ≤ 9223372036854775807) (m8 : n8 ≤ 1048576) (m9 : n9 ≤ 1048576) :
    Calls Tryz.prog 126 #[.agg #[.int .i64 9, .int .i64 c1, .bool c2, .int .i64 c3, .int .i64 c4, .string c5, .string c6, .string c7, .slice a8 n8 p8, .slice a9 n9 p9]] w (BoolE (shapeF 9 c1 c2 c3 c4 c5 c6 c7 n8 n9) w) := by
  have hbb := (Below.refl w.heap.size w).alloc (Nat.le_refl _) (.cells #[.int .i64 9, .int .i64 c1, .bool c2, .int .i64 c3, .int .i64 c4, .string c5, .string c6, .string c7, .slice a8 n8 p8, .slice a9 n9 p9] 79)
  have HB := Lib.hid hbb
  have R := RowAt.new w 79 #[.int .i64 9, .int .i64 c1, .bool c2, .int .i64 c3, .int .i64 c4, .string c5, .string c6, .string c7, .slice a8 n8 p8, .slice a9 n9 p9]
  have x0 := R.cell (i := 0) (v := .int .i64 9) rfl
  have x1 := R.cell (i := 1) (v := .int .i64 c1) rfl
  have x2 := R.cell (i := 2) (v := .bool c2) rfl
  have x3 := R.cell (i := 3) (v := .int .i64 c3) rfl
  have x4 := R.cell (i := 4) (v := .int .i64 c4) rfl
  have x5 := R.cell (i := 5) (v := .string c5) rfl
  have x6 := R.cell (i := 6) (v := .string c6) rfl
  have x7 := R.cell (i := 7) (v := .string c7) rfl
  have x8 := R.cell (i := 8) (v := .slice a8 n8 p8) rfl
  have x9 := R.cell (i := 9) (v := .slice a9 n9 p9) rfl
  have h6 := nempty_eq c6
  have h7 := nempty_eq c7
  have hz : ∀ w, (Op.equalIn 10000 76 (.agg #[.int .i64 c3, .int .i64 c4, .string c5]) (.agg #[.int .i64 0, .int .i64 0, .string ⟨#[]⟩])).run Tryz.prog w = .ok (zeroV c3 c4 c5) w := fun w => by
    rw [show (10000 : Nat) = 9998 + 2 from rfl, eq_val 9998]
    simp only [empty_dec, zeroV]
  have ho : (c1 != 0) = !(c1 == 0) := rfl
  have hv : shapeF 9 c1 c2 c3 c4 c5 c6 c7 n8 n9 = (((c1 == 0) && (!c2 && zeroV c3 c4 c5)) && ((emptyB c6 && emptyB c7) && ((n8 == 0) && (n9 == 1)))) := by unfold shapeF headB namesB takesB; simp
  have HV := Lib.hid hv
  clear hv hbb R
  generalize emptyB c6 = e6 at h6 HV
  generalize emptyB c7 = e7 at h7 HV
  generalize zeroV c3 c4 c5 = z at hz HV
  generalize (c1 == 0) = o at ho HV
  have ht : ((n8 : Int) == (0 : Int)) = (n8 == 0) := by rw [Bool.eq_iff_iff, beq_iff_eq, beq_iff_eq]; omega
  have hu : ((n9 : Int) == (1 : Int)) = (n9 == 1) := by rw [Bool.eq_iff_iff, beq_iff_eq, beq_iff_eq]; omega
  generalize (n8 == 0) = t at ht HV
  generalize (n9 == 1) = t2 at hu HV
  have hI := fun w => in_any 9 5 8 false w (by decide)
  go_enter Tryz.func126, Tryz.ntmps126
  cases e6
  · replace h6 : (c6.toList != []) = true := h6
    have d6 : ¬ c6.toList = [] := by simpa using h6
    go_wp2_with fail
    go_ret
    exact ⟨by rw [HV.out]; simp, HB.out⟩
  · replace h6 : (c6.toList != []) = false := h6
    have d6 : c6.toList = [] := by simpa using h6
    cases e7
    · replace h7 : (c7.toList != []) = true := h7
      have d7 : ¬ c7.toList = [] := by simpa using h7
      go_wp2_with fail
      go_ret
      exact ⟨by rw [HV.out]; simp, HB.out⟩
    · replace h7 : (c7.toList != []) = false := h7
      have d7 : c7.toList = [] := by simpa using h7
      cases z
      · go_wp2_with fail
        go_ret
        exact ⟨by rw [HV.out]; simp, HB.out⟩
      · cases o
        · replace ho : (c1 != 0) = true := ho
          go_wp2_with fail
          go_ret
          exact ⟨by rw [HV.out]; simp, HB.out⟩
        · replace ho : (c1 != 0) = false := ho
          cases c2
          · cases t
            · go_wp2_with fail
              go_ret
              exact ⟨by rw [HV.out]; simp, HB.out⟩
            · go_wp2_with fail
              go_ret
              exact ⟨by rw [HV.out]; simp, HB.out⟩
          · go_wp2_with fail
            refine (hI _).mono ?_
            rintro e w1 ⟨rfl, rfl⟩
            go_wp2_with fail
            go_ret
            exact ⟨by rw [HV.out]; simp, HB.out⟩
set_option maxRecDepth 100000 in
set_option maxHeartbeats 8000000 in
theorem shape_else (k c1 : Int) (c2 : Bool) (c3 c4 : Int) (c5 c6 c7 : ByteArray) (a8 : Option Addr) (n8 p8 : Nat) (a9 : Option Addr) (n9 p9 : Nat) (w : World) (b5 : c5.size ≤ 9223372036854775807) (b6 : c6.size ≤ 9223372036854775807) (b7 : c7.size ≤ 9223372036854775807) (m8 : n8 ≤ 1048576) (m9 : n9 ≤ 1048576) (n1 : ¬ k = 1) (n2 : ¬ k = 2) (n3 : ¬ k = 3) (n4 : ¬ k = 4) (n5 : ¬ k = 5) (n6 : ¬ k = 6) (n7 : ¬ k = 7) (z8 : ¬ k = 8) (z9 : ¬ k = 9) :
    Calls Tryz.prog 126 #[.agg #[.int .i64 k, .int .i64 c1, .bool c2, .int .i64 c3, .int .i64 c4, .string c5, .string c6, .string c7, .slice a8 n8 p8, .slice a9 n9 p9]] w (BoolE (shapeF k c1 c2 c3 c4 c5 c6 c7 n8 n9) w) := by
  have hbb := (Below.refl w.heap.size w).alloc (Nat.le_refl _) (.cells #[.int .i64 k, .int .i64 c1, .bool c2, .int .i64 c3, .int .i64 c4, .string c5, .string c6, .string c7, .slice a8 n8 p8, .slice a9 n9 p9] 79)
  have HB := Lib.hid hbb
  have R := RowAt.new w 79 #[.int .i64 k, .int .i64 c1, .bool c2, .int .i64 c3, .int .i64 c4, .string c5, .string c6, .string c7, .slice a8 n8 p8, .slice a9 n9 p9]
  have x0 := R.cell (i := 0) (v := .int .i64 k) rfl
  have x1 := R.cell (i := 1) (v := .int .i64 c1) rfl
  have x2 := R.cell (i := 2) (v := .bool c2) rfl
  have x3 := R.cell (i := 3) (v := .int .i64 c3) rfl
  have x4 := R.cell (i := 4) (v := .int .i64 c4) rfl
  have x5 := R.cell (i := 5) (v := .string c5) rfl
  have x6 := R.cell (i := 6) (v := .string c6) rfl
  have x7 := R.cell (i := 7) (v := .string c7) rfl
  have x8 := R.cell (i := 8) (v := .slice a8 n8 p8) rfl
  have x9 := R.cell (i := 9) (v := .slice a9 n9 p9) rfl
  have h6 := nempty_eq c6
  have h7 := nempty_eq c7
  have hz : ∀ w, (Op.equalIn 10000 76 (.agg #[.int .i64 c3, .int .i64 c4, .string c5]) (.agg #[.int .i64 0, .int .i64 0, .string ⟨#[]⟩])).run Tryz.prog w = .ok (zeroV c3 c4 c5) w := fun w => by
    rw [show (10000 : Nat) = 9998 + 2 from rfl, eq_val 9998]
    simp only [empty_dec, zeroV]
  have ho : (c1 != 0) = !(c1 == 0) := rfl
  have hv : shapeF k c1 c2 c3 c4 c5 c6 c7 n8 n9 = false := by unfold shapeF headB; simp [n1, n2, n3, n4, n5, n6, n7, z8, z9]
  have HV := Lib.hid hv
  clear hv hbb R
  generalize emptyB c6 = e6 at h6 HV
  generalize emptyB c7 = e7 at h7 HV
  generalize zeroV c3 c4 c5 = z at hz HV
  generalize (c1 == 0) = o at ho HV
  have hI := fun w => in_any k 5 8 false w (by rw [eq_comm, decide_eq_false_iff_not]; omega)
  go_enter Tryz.func126, Tryz.ntmps126
  cases e6
  · replace h6 : (c6.toList != []) = true := h6
    have d6 : ¬ c6.toList = [] := by simpa using h6
    go_wp2_with fail
    go_ret
    exact ⟨by rw [HV.out]; simp, HB.out⟩
  · replace h6 : (c6.toList != []) = false := h6
    have d6 : c6.toList = [] := by simpa using h6
    cases e7
    · replace h7 : (c7.toList != []) = true := h7
      have d7 : ¬ c7.toList = [] := by simpa using h7
      go_wp2_with fail
      go_ret
      exact ⟨by rw [HV.out]; simp, HB.out⟩
    · replace h7 : (c7.toList != []) = false := h7
      have d7 : c7.toList = [] := by simpa using h7
      cases z
      · go_wp2_with fail
        go_ret
        exact ⟨by rw [HV.out]; simp, HB.out⟩
      · cases o
        · replace ho : (c1 != 0) = true := ho
          go_wp2_with fail
          go_ret
          exact ⟨by rw [HV.out]; simp, HB.out⟩
        · replace ho : (c1 != 0) = false := ho
          cases c2
          · go_wp2_with fail
            go_ret
            exact ⟨by rw [HV.out]; simp, HB.out⟩
          · go_wp2_with fail
            refine (hI _).mono ?_
            rintro e w1 ⟨rfl, rfl⟩
            go_wp2_with fail
            go_ret
            exact ⟨by rw [HV.out]; simp, HB.out⟩
theorem shape_spec (k c1 : Int) (c2 : Bool) (c3 c4 : Int) (c5 c6 c7 : ByteArray) (a8 : Option Addr) (n8 p8 : Nat) (a9 : Option Addr) (n9 p9 : Nat) (w : World) (b5 : c5.size ≤ 9223372036854775807) (b6 : c6.size ≤ 9223372036854775807) (b7 : c7.size ≤ 9223372036854775807) (m8 : n8 ≤ 1048576) (m9 : n9 ≤ 1048576) :
    Calls Tryz.prog 126 #[.agg #[.int .i64 k, .int .i64 c1, .bool c2, .int .i64 c3, .int .i64 c4, .string c5, .string c6, .string c7, .slice a8 n8 p8, .slice a9 n9 p9]] w (BoolE (shapeF k c1 c2 c3 c4 c5 c6 c7 n8 n9) w) := by
  by_cases z1 : k = 1
  · subst z1; exact shape_1 c1 c2 c3 c4 c5 c6 c7 a8 n8 p8 a9 n9 p9 w b5 b6 b7 m8 m9
  by_cases z2 : k = 2
  · subst z2; exact shape_2 c1 c2 c3 c4 c5 c6 c7 a8 n8 p8 a9 n9 p9 w b5 b6 b7 m8 m9
  by_cases z3 : k = 3
  · subst z3; exact shape_3 c1 c2 c3 c4 c5 c6 c7 a8 n8 p8 a9 n9 p9 w b5 b6 b7 m8 m9
  by_cases z4 : k = 4
  · subst z4; exact shape_4 c1 c2 c3 c4 c5 c6 c7 a8 n8 p8 a9 n9 p9 w b5 b6 b7 m8 m9
  by_cases z5 : k = 5
  · subst z5; exact shape_5 c1 c2 c3 c4 c5 c6 c7 a8 n8 p8 a9 n9 p9 w b5 b6 b7 m8 m9
  by_cases z6 : k = 6
  · subst z6; exact shape_6 c1 c2 c3 c4 c5 c6 c7 a8 n8 p8 a9 n9 p9 w b5 b6 b7 m8 m9
  by_cases z7 : k = 7
  · subst z7; exact shape_7 c1 c2 c3 c4 c5 c6 c7 a8 n8 p8 a9 n9 p9 w b5 b6 b7 m8 m9
  by_cases z8 : k = 8
  · subst z8; exact shape_8 c1 c2 c3 c4 c5 c6 c7 a8 n8 p8 a9 n9 p9 w b5 b6 b7 m8 m9
  by_cases z9 : k = 9
  · subst z9; exact shape_9 c1 c2 c3 c4 c5 c6 c7 a8 n8 p8 a9 n9 p9 w b5 b6 b7 m8 m9
  exact shape_else k c1 c2 c3 c4 c5 c6 c7 a8 n8 p8 a9 n9 p9 w b5 b6 b7 m8 m9 z1 z2 z3 z4 z5 z6 z7 z8 z9
end Go.Proofs.YtcliijfdlcagoaaGreat
