/- Joined texts: ShapeS. -/
import Derived.Test.YtcliijfdlcagoaaGreatQZAP
import Derived.Test.YtcliijfdlcagoaaGreatQHShapeI
import Derived.Test.YtcliijfdlcagoaaGreatQZAW
namespace Go.Proofs.YtcliijfdlcagoaaGreat
set_option linter.unusedVariables false
set_option linter.unusedSimpArgs false
open Go.RowKit
theorem nempty_eq (s : ByteArray) : (s.toList != []) = !emptyB s := by rw [bne, empty_eq]
set_option maxRecDepth 100000 in
theorem opt_spec (s : ByteArray) (w : World) (hs : s.size ≤ 9223372036854775807) : Calls Tryz.prog 109 #[.string s] w (PureE (.bool (optB s)) w) := by
  have hT := empty_eq s
  unfold optB
  generalize emptyB s = b at hT ⊢
  go_enter Tryz.func109, Tryz.ntmps109
  cases b
  · go_wp2_with fail
    refine (nameOk_spec _ _ hs).mono ?_
    rintro e w1 ⟨rfl, rfl⟩
    go_wp2_with fail
    go_ret
    exact ⟨rfl, rfl⟩
  · go_wp2_with fail
    go_ret
    exact ⟨rfl, rfl⟩
theorem valOk_pos {k n : Int} {t : List UInt8} (h : valOk k n t = true) (hk : k ≠ 1) : 0 ≤ n := by
  unfold valOk at h
  rw [if_neg hk] at h
  split at h
  · simp at h; omega
  · split at h
    · simp at h; omega
    · split at h
      · simp at h; omega
      · cases h
set_option maxRecDepth 100000 in
set_option maxHeartbeats 2000000 in
theorem lit_spec (k n : Int) (t : ByteArray) (w : World) (ht : t.size ≤ 9223372036854775807) :
    Calls Tryz.prog 128 #[.agg #[.int .i64 k, .int .i64 n, .string t]] w (BoolE (litB k n t) w) := by
  have hbb := (Below.refl w.heap.size w).alloc (Nat.le_refl _) (.cells #[.int .i64 k, .int .i64 n, .string t] 76)
  have HB := Lib.hid hbb
  have hV := fun w => valueOk_spec k n t w ht
  have hp : k ≠ 1 → valOk k n t.data.toList = true → decide (0 ≤ n) = true := fun h1 h2 => decide_eq_true (valOk_pos h2 h1)
  have HP := Lib.hid hp
  have hk : (k != 1) = !decide (k = 1) := by by_cases h : k = 1 <;> simp [h]
  unfold litB
  generalize valOk k n t.data.toList = b0 at hV HP ⊢
  generalize hb1 : decide (0 ≤ n) = b1 at HP
  generalize hb2 : decide ((t.size : Int) ≤ 40) = b2
  clear hbb hp
  go_enter Tryz.func128, Tryz.ntmps128
  cases b0
  · go_wp2_with fail
    refine (hV _).mono ?_
    rintro e w1 ⟨rfl, hb⟩
    have hf := HB.out.trans (hb.mono HB.out.size)
    go_wp2_with fail
    go_ret
    exact ⟨rfl, hf⟩
  · go_wp2_with fail
    refine (hV _).mono ?_
    rintro e w1 ⟨rfl, hb⟩
    have hf := HB.out.trans (hb.mono HB.out.size)
    have R := (RowAt.new w 76 #[.int .i64 k, .int .i64 n, .string t]).later hb
    have x0 := R.cell (i := 0) (v := .int .i64 k) rfl
    have x1 := R.cell (i := 1) (v := .int .i64 n) rfl
    have x2 := R.cell (i := 2) (v := .string t) rfl
    clear hb R
    by_cases h1 : k = 1
    · subst h1
      clear hk HP
      cases b1 <;> cases b2
      all_goals
        go_wp2_with fail
        go_ret
        exact ⟨rfl, hf⟩
    · obtain rfl : b1 = true := by have := HP.out h1; simpa using this
      rw [decide_eq_false h1] at hk
      clear HP
      cases b2
      all_goals
        go_wp2_with fail
        go_ret
        exact ⟨rfl, hf⟩
set_option maxRecDepth 100000 in
set_option maxHeartbeats 8000000 in
theorem shape_1 (c1 : Int) (c2 : Bool) (c3 c4 : Int) (c5 c6 c7 : ByteArray) (a8 : Option Addr) (n8 p8 : Nat) (a9 : Option Addr) (n9 p9 : Nat) (w : World) (b5 : c5.size ≤ 9223372036854775807) (b6 : c6.size ≤ 9223372036854775807) (b7 : c7.size ≤ 9223372036854775807) (m8 : n8 ≤ 1048576) (m9 : n9 ≤ 1048576) :
    Calls Tryz.prog 126 #[.agg #[.int .i64 1, .int .i64 c1, .bool c2, .int .i64 c3, .int .i64 c4, .string c5, .string c6, .string c7, .slice a8 n8 p8, .slice a9 n9 p9]] w (BoolE (shapeF 1 c1 c2 c3 c4 c5 c6 c7 n8 n9) w) := by
  have hbb := (Below.refl w.heap.size w).alloc (Nat.le_refl _) (.cells #[.int .i64 1, .int .i64 c1, .bool c2, .int .i64 c3, .int .i64 c4, .string c5, .string c6, .string c7, .slice a8 n8 p8, .slice a9 n9 p9] 79)
  have HB := Lib.hid hbb
  have R := RowAt.new w 79 #[.int .i64 1, .int .i64 c1, .bool c2, .int .i64 c3, .int .i64 c4, .string c5, .string c6, .string c7, .slice a8 n8 p8, .slice a9 n9 p9]
  have x0 := R.cell (i := 0) (v := .int .i64 1) rfl
  have x1 := R.cell (i := 1) (v := .int .i64 c1) rfl
  have x2 := R.cell (i := 2) (v := .bool c2) rfl
  have x3 := R.cell (i := 3) (v := .int .i64 c3) rfl
  have x4 := R.cell (i := 4) (v := .int .i64 c4) rfl
  have x5 := R.cell (i := 5) (v := .string c5) rfl
  have x6 := R.cell (i := 6) (v := .string c6) rfl
  have x7 := R.cell (i := 7) (v := .string c7) rfl
  have x8 := R.cell (i := 8) (v := .slice a8 n8 p8) rfl
  have x9 := R.cell (i := 9) (v := .slice a9 n9 p9) rfl
  have h6 := nempty_eq c6
  have h7 := nempty_eq c7
  have hz : ∀ w, (Op.equalIn 10000 76 (.agg #[.int .i64 c3, .int .i64 c4, .string c5]) (.agg #[.int .i64 0, .int .i64 0, .string ⟨#[]⟩])).run Tryz.prog w = .ok (zeroV c3 c4 c5) w := fun w => by
    rw [show (10000 : Nat) = 9998 + 2 from rfl, eq_val 9998]
    simp only [empty_dec, zeroV]
  have ho : (c1 != 0) = !(c1 == 0) := rfl
  have hv : shapeF 1 c1 c2 c3 c4 c5 c6 c7 n8 n9 = (((c1 == 0) && (!c2 && litB c3 c4 c5)) && ((emptyB c6 && emptyB c7) && ((n8 == 0) && (n9 == 0)))) := by unfold shapeF headB namesB takesB; simp
  have HV := Lib.hid hv
  clear hv hbb R
  generalize emptyB c6 = e6 at h6 HV
  generalize emptyB c7 = e7 at h7 HV
  have hL := fun w => lit_spec c3 c4 c5 w b5
  generalize litB c3 c4 c5 = l at hL HV
  generalize (c1 == 0) = o at ho HV
  have ht : (((n8 : Int) + (n9 : Int)) == (0 : Int)) = ((n8 == 0) && (n9 == 0)) := by rw [Bool.eq_iff_iff, beq_iff_eq, Bool.and_eq_true, beq_iff_eq, beq_iff_eq]; omega
  generalize ((n8 == 0) && (n9 == 0)) = t at ht HV
  have hI := fun w => in_any 1 5 8 false w (by decide)
  go_enter Tryz.func126, Tryz.ntmps126
  cases e6
  · replace h6 : (c6.toList != []) = true := h6
    have d6 : ¬ c6.toList = [] := by simpa using h6
    go_wp2_with fail
    go_ret
    exact ⟨by rw [HV.out]; simp, HB.out⟩
  · replace h6 : (c6.toList != []) = false := h6
    have d6 : c6.toList = [] := by simpa using h6
    cases e7
    · replace h7 : (c7.toList != []) = true := h7
      have d7 : ¬ c7.toList = [] := by simpa using h7
      go_wp2_with fail
      go_ret
      exact ⟨by rw [HV.out]; simp, HB.out⟩
    · replace h7 : (c7.toList != []) = false := h7
      have d7 : c7.toList = [] := by simpa using h7
      cases o
      · replace ho : (c1 != 0) = true := ho
        go_wp2_with fail
        go_ret
        exact ⟨by rw [HV.out]; simp, HB.out⟩
      · replace ho : (c1 != 0) = false := ho
        cases c2
        · cases l
          · go_wp2_with fail
            refine (hL _).mono ?_
            rintro e w1 ⟨rfl, hb⟩
            have hf := HB.out.trans (hb.mono HB.out.size)
            go_wp2_with fail
            go_ret
            exact ⟨by rw [HV.out]; simp, hf⟩
          · go_wp2_with fail
            refine (hL _).mono ?_
            rintro e w1 ⟨rfl, hb⟩
            have hf := HB.out.trans (hb.mono HB.out.size)
            go_wp2_with fail
            go_ret
            exact ⟨by rw [HV.out]; simp, hf⟩
        · go_wp2_with fail
          refine (hI _).mono ?_
          rintro e w1 ⟨rfl, rfl⟩
          go_wp2_with fail
          go_ret
          exact ⟨by rw [HV.out]; simp, HB.out⟩
set_option maxRecDepth 100000 in
set_option maxHeartbeats 8000000 in
theorem shape_2 (c1 : Int) (c2 : Bool) (c3 c4 : Int) (c5 c6 c7 : ByteArray) (a8 : Option Addr) (n8 p8 : Nat) (a9 : Option Addr) (n9 p9 : Nat) (w : World) (b5 : c5.size ≤ 9223372036854775807) (b6 : c6.size ≤ 9223372036854775807) (b7 : c7.size ≤ 9223372036854775807) (m8 : n8 ≤ 1048576) (m9 : n9 ≤ 1048576) :
    Calls Tryz.prog 126 #[.agg #[.int .i64 2, .int .i64 c1, .bool c2, .int .i64 c3, .int .i64 c4, .string c5, .string c6, .string c7, .slice a8 n8 p8, .slice a9 n9 p9]] w (BoolE (shapeF 2 c1 c2 c3 c4 c5 c6 c7 n8 n9) w) := by
  have hbb := (Below.refl w.heap.size w).alloc (Nat.le_refl _) (.cells #[.int .i64 2, .int .i64 c1, .bool c2, .int .i64 c3, .int .i64 c4, .string c5, .string c6, .string c7, .slice a8 n8 p8, .slice a9 n9 p9] 79)
  have HB := Lib.hid hbb
  have R := RowAt.new w 79 #[.int .i64 2, .int .i64 c1, .bool c2, .int .i64 c3, .int .i64 c4, .string c5, .string c6, .string c7, .slice a8 n8 p8, .slice a9 n9 p9]
  have x0 := R.cell (i := 0) (v := .int .i64 2) rfl
  have x1 := R.cell (i := 1) (v := .int .i64 c1) rfl
  have x2 := R.cell (i := 2) (v := .bool c2) rfl
  have x3 := R.cell (i := 3) (v := .int .i64 c3) rfl
  have x4 := R.cell (i := 4) (v := .int .i64 c4) rfl
  have x5 := R.cell (i := 5) (v := .string c5) rfl
  have x6 := R.cell (i := 6) (v := .string c6) rfl
  have x7 := R.cell (i := 7) (v := .string c7) rfl
  have x8 := R.cell (i := 8) (v := .slice a8 n8 p8) rfl
  have x9 := R.cell (i := 9) (v := .slice a9 n9 p9) rfl
  have h6 := nempty_eq c6
  have h7 := nempty_eq c7
  have hz : ∀ w, (Op.equalIn 10000 76 (.agg #[.int .i64 c3, .int .i64 c4, .string c5]) (.agg #[.int .i64 0, .int .i64 0, .string ⟨#[]⟩])).run Tryz.prog w = .ok (zeroV c3 c4 c5) w := fun w => by
    rw [show (10000 : Nat) = 9998 + 2 from rfl, eq_val 9998]
    simp only [empty_dec, zeroV]
  have ho : (c1 != 0) = !(c1 == 0) := rfl
  have hv : shapeF 2 c1 c2 c3 c4 c5 c6 c7 n8 n9 = (((c1 == 0) && (!c2 && zeroV c3 c4 c5)) && ((okLen c7.size && optB c6) && ((n8 == 0) && (n9 == 0)))) := by unfold shapeF headB namesB takesB; simp
  have HV := Lib.hid hv
  clear hv hbb R
  generalize zeroV c3 c4 c5 = z at hz HV
  have hN := fun w => nameOk_spec c7 w b7
  have hO := fun w => opt_spec c6 w b6
  generalize okLen c7.size = e7 at hN HV
  generalize optB c6 = e6 at hO HV
  generalize (c1 == 0) = o at ho HV
  have ht : (((n8 : Int) + (n9 : Int)) == (0 : Int)) = ((n8 == 0) && (n9 == 0)) := by rw [Bool.eq_iff_iff, beq_iff_eq, Bool.and_eq_true, beq_iff_eq, beq_iff_eq]; omega
  generalize ((n8 == 0) && (n9 == 0)) = t at ht HV
  have hI := fun w => in_any 2 5 8 false w (by decide)
  go_enter Tryz.func126, Tryz.ntmps126
  cases z
  · go_wp2_with fail
    go_ret
    exact ⟨by rw [HV.out]; simp, HB.out⟩
  · cases o
    · replace ho : (c1 != 0) = true := ho
      go_wp2_with fail
      go_ret
      exact ⟨by rw [HV.out]; simp, HB.out⟩
    · replace ho : (c1 != 0) = false := ho
      cases c2
      · cases e7
        · go_wp2_with fail
          refine (hN _).mono ?_
          rintro e w1 ⟨rfl, rfl⟩
          go_wp2_with fail
          go_ret
          exact ⟨by rw [HV.out]; simp, HB.out⟩
        · go_wp2_with fail
          refine (hN _).mono ?_
          rintro e w1 ⟨rfl, rfl⟩
          cases e6
          · go_wp2_with fail
            refine (hO _).mono ?_
            rintro e w1 ⟨rfl, rfl⟩
            go_wp2_with fail
            go_ret
            exact ⟨by rw [HV.out]; simp, HB.out⟩
          · go_wp2_with fail
            refine (hO _).mono ?_
            rintro e w1 ⟨rfl, rfl⟩
            go_wp2_with fail
            go_ret
            exact ⟨by rw [HV.out]; simp, HB.out⟩
      · go_wp2_with fail
        refine (hI _).mono ?_
        rintro e w1 ⟨rfl, rfl⟩
        go_wp2_with fail
        go_ret
        exact ⟨by rw [HV.out]; simp, HB.out⟩
set_option maxRecDepth 100000 in
set_option maxHeartbeats 8000000 in
theorem shape_3 (c1 : Int) (c2 : Bool) (c3 c4 : Int) (c5 c6 c7 : ByteArray) (a8 : Option Addr) (n8 p8 : Nat) (a9 : Option Addr) (n9 p9 : Nat) (w : World) (b5 : c5.size ≤ 9223372036854775807) (b6 : c6.size ≤ 9223372036854775807) (b7 : c7.size ≤ 9223372036854775807) (m8 : n8 ≤ 1048576) (m9 : n9 ≤ 1048576) :
    Calls Tryz.prog 126 #[.agg #[.int .i64 3, .int .i64 c1, .bool c2, .int .i64 c3, .int .i64 c4, .string c5, .string c6, .string c7, .slice a8 n8 p8, .slice a9 n9 p9]] w (BoolE (shapeF 3 c1 c2 c3 c4 c5 c6 c7 n8 n9) w) := by
  have hbb := (Below.refl w.heap.size w).alloc (Nat.le_refl _) (.cells #[.int .i64 3, .int .i64 c1, .bool c2, .int .i64 c3, .int .i64 c4, .string c5, .string c6, .string c7, .slice a8 n8 p8, .slice a9 n9 p9] 79)
  have HB := Lib.hid hbb
  have R := RowAt.new w 79 #[.int .i64 3, .int .i64 c1, .bool c2, .int .i64 c3, .int .i64 c4, .string c5, .string c6, .string c7, .slice a8 n8 p8, .slice a9 n9 p9]
  have x0 := R.cell (i := 0) (v := .int .i64 3) rfl
  have x1 := R.cell (i := 1) (v := .int .i64 c1) rfl
  have x2 := R.cell (i := 2) (v := .bool c2) rfl
  have x3 := R.cell (i := 3) (v := .int .i64 c3) rfl
  have x4 := R.cell (i := 4) (v := .int .i64 c4) rfl
  have x5 := R.cell (i := 5) (v := .string c5) rfl
  have x6 := R.cell (i := 6) (v := .string c6) rfl
  have x7 := R.cell (i := 7) (v := .string c7) rfl
  have x8 := R.cell (i := 8) (v := .slice a8 n8 p8) rfl
  have x9 := R.cell (i := 9) (v := .slice a9 n9 p9) rfl
  have h6 := nempty_eq c6
  have h7 := nempty_eq c7
  have hz : ∀ w, (Op.equalIn 10000 76 (.agg #[.int .i64 c3, .int .i64 c4, .string c5]) (.agg #[.int .i64 0, .int .i64 0, .string ⟨#[]⟩])).run Tryz.prog w = .ok (zeroV c3 c4 c5) w := fun w => by
    rw [show (10000 : Nat) = 9998 + 2 from rfl, eq_val 9998]
    simp only [empty_dec, zeroV]
  have ho : (c1 != 0) = !(c1 == 0) := rfl
  have hv : shapeF 3 c1 c2 c3 c4 c5 c6 c7 n8 n9 = ((!c2 && (zeroV c3 c4 c5 && ((c1 == 15) || (c1 == 16)))) && ((emptyB c6 && emptyB c7) && ((n8 == 1) && (n9 == 0)))) := by unfold shapeF headB namesB takesB; simp
  have HV := Lib.hid hv
  clear hv hbb R
  generalize emptyB c6 = e6 at h6 HV
  generalize emptyB c7 = e7 at h7 HV
  generalize zeroV c3 c4 c5 = z at hz HV
  have ht : ((n8 : Int) == (1 : Int)) = (n8 == 1) := by rw [Bool.eq_iff_iff, beq_iff_eq, beq_iff_eq]; omega
  have hu : ((n9 : Int) == (0 : Int)) = (n9 == 0) := by rw [Bool.eq_iff_iff, beq_iff_eq, beq_iff_eq]; omega
  generalize (n8 == 1) = t at ht HV
  generalize (n9 == 0) = t2 at hu HV
  have hI := fun w => in_any 3 5 8 false w (by decide)
  go_enter Tryz.func126, Tryz.ntmps126
  cases e6
  · replace h6 : (c6.toList != []) = true := h6
    have d6 : ¬ c6.toList = [] := by simpa using h6
    go_wp2_with fail
    go_ret
    exact ⟨by rw [HV.out]; simp, HB.out⟩
  · replace h6 : (c6.toList != []) = false := h6
    have d6 : c6.toList = [] := by simpa using h6
    cases e7
    · replace h7 : (c7.toList != []) = true := h7
      have d7 : ¬ c7.toList = [] := by simpa using h7
      go_wp2_with fail
      go_ret
      exact ⟨by rw [HV.out]; simp, HB.out⟩
    · replace h7 : (c7.toList != []) = false := h7
      have d7 : c7.toList = [] := by simpa using h7
      cases z
      · go_wp2_with fail
        go_ret
        exact ⟨by rw [HV.out]; simp, HB.out⟩
      · cases c2
        · by_cases h15 : c1 = 15
          · subst h15
            cases t <;> cases t2
            all_goals
              go_wp2_with fail
              go_ret
              exact ⟨by rw [HV.out]; simp, HB.out⟩
          · by_cases h16 : c1 = 16
            · subst h16
              cases t <;> cases t2
              all_goals
                go_wp2_with fail
                go_ret
                exact ⟨by rw [HV.out]; simp, HB.out⟩
            · have e15 : (c1 == 15) = false := by simpa using h15
              have e16 : (c1 == 16) = false := by simpa using h16
              have HV2 : Hid (shapeF 3 c1 false c3 c4 c5 c6 c7 n8 n9 = false) := by show _ = false; rw [HV.out, e15, e16]; simp
              clear HV h15 h16
              go_wp2_with fail
              go_ret
              exact ⟨by rw [HV2.out]; rfl, HB.out⟩
        · go_wp2_with fail
          refine (hI _).mono ?_
          rintro e w1 ⟨rfl, rfl⟩
          go_wp2_with fail
          go_ret
          exact ⟨by rw [HV.out]; simp, HB.out⟩
set_option maxRecDepth 100000 in
set_option maxHeartbeats 8000000 in
theorem shape_4 (c1 : Int) (c2 : Bool) (c3 c4 : Int) (c5 c6 c7 : ByteArray) (a8 : Option Addr) (n8 p8 : Nat) (a9 : Option Addr) (n9 p9 : Nat) (w : World) (b5 : c5.size ≤ 9223372036854775807) (b6 : c6.size ≤ 9223372036854775807) (b7 : c7.size ≤ 9223372036854775807) (m8 : n8 ≤ 1048576) (m9 : n9 ≤ 1048576) :
    Calls Tryz.prog 126 #[.agg #[.int .i64 4, .int .i64 c1, .bool c2, .int .i64 c3, .int .i64 c4, .string c5, .string c6, .string c7, .slice a8 n8 p8, .slice a9 n9 p9]] w (BoolE (shapeF 4 c1 c2 c3 c4 c5 c6 c7 n8 n9) w) := by
  have hbb := (Below.refl w.heap.size w).alloc (Nat.le_refl _) (.cells #[.int .i64 4, .int .i64 c1, .bool c2, .int .i64 c3, .int .i64 c4, .string c5, .string c6, .string c7, .slice a8 n8 p8, .slice a9 n9 p9] 79)
  have HB := Lib.hid hbb
  have R := RowAt.new w 79 #[.int .i64 4, .int .i64 c1, .bool c2, .int .i64 c3, .int .i64 c4, .string c5, .string c6, .string c7, .slice a8 n8 p8, .slice a9 n9 p9]
  have x0 := R.cell (i := 0) (v := .int .i64 4) rfl
  have x1 := R.cell (i := 1) (v := .int .i64 c1) rfl
  have x2 := R.cell (i := 2) (v := .bool c2) rfl
  have x3 := R.cell (i := 3) (v := .int .i64 c3) rfl
  have x4 := R.cell (i := 4) (v := .int .i64 c4) rfl
  have x5 := R.cell (i := 5) (v := .string c5) rfl
  have x6 := R.cell (i := 6) (v := .string c6) rfl
  have x7 := R.cell (i := 7) (v := .string c7) rfl
  have x8 := R.cell (i := 8) (v := .slice a8 n8 p8) rfl
  have x9 := R.cell (i := 9) (v := .slice a9 n9 p9) rfl
  have h6 := nempty_eq c6
  have h7 := nempty_eq c7
  have hz : ∀ w, (Op.equalIn 10000 76 (.agg #[.int .i64 c3, .int .i64 c4, .string c5]) (.agg #[.int .i64 0, .int .i64 0, .string ⟨#[]⟩])).run Tryz.prog w = .ok (zeroV c3 c4 c5) w := fun w => by
    rw [show (10000 : Nat) = 9998 + 2 from rfl, eq_val 9998]
    simp only [empty_dec, zeroV]
  have ho : (c1 != 0) = !(c1 == 0) := rfl
  have hv : shapeF 4 c1 c2 c3 c4 c5 c6 c7 n8 n9 = ((!c2 && (zeroV c3 c4 c5 && (decide (1 ≤ c1) && decide (c1 ≤ 14)))) && ((emptyB c6 && emptyB c7) && ((n8 == 2) && (n9 == 0)))) := by unfold shapeF headB namesB takesB; simp
  have HV := Lib.hid hv
  clear hv hbb R
  generalize emptyB c6 = e6 at h6 HV
  generalize emptyB c7 = e7 at h7 HV
  generalize zeroV c3 c4 c5 = z at hz HV
  have ht : ((n8 : Int) == (2 : Int)) = (n8 == 2) := by rw [Bool.eq_iff_iff, beq_iff_eq, beq_iff_eq]; omega
  have hu : ((n9 : Int) == (0 : Int)) = (n9 == 0) := by rw [Bool.eq_iff_iff, beq_iff_eq, beq_iff_eq]; omega
  generalize (n8 == 2) = t at ht HV
  generalize (n9 == 0) = t2 at hu HV
  have hI := fun w => in_any 4 5 8 false w (by decide)
  go_enter Tryz.func126, Tryz.ntmps126
  cases e6
  · replace h6 : (c6.toList != []) = true := h6
    have d6 : ¬ c6.toList = [] := by simpa using h6
    go_wp2_with fail
    go_ret
    exact ⟨by rw [HV.out]; simp, HB.out⟩
  · replace h6 : (c6.toList != []) = false := h6
    have d6 : c6.toList = [] := by simpa using h6
    cases e7
    · replace h7 : (c7.toList != []) = true := h7
      have d7 : ¬ c7.toList = [] := by simpa using h7
      go_wp2_with fail
      go_ret
      exact ⟨by rw [HV.out]; simp, HB.out⟩
    · replace h7 : (c7.toList != []) = false := h7
      have d7 : c7.toList = [] := by simpa using h7
      cases z
      · go_wp2_with fail
        go_ret
        exact ⟨by rw [HV.out]; simp, HB.out⟩
      · cases c2
        · have hJ := fun w => in_any c1 1 14 (decide (1 ≤ c1) && decide (c1 ≤ 14)) w (by rw [Bool.decide_and])
          generalize (decide (1 ≤ c1) && decide (c1 ≤ 14)) = j at hJ HV
          cases j
          · go_wp2_with fail
            refine (hJ _).mono ?_
            rintro e w1 ⟨rfl, rfl⟩
            go_wp2_with fail
            go_ret
            exact ⟨by rw [HV.out]; simp, HB.out⟩
          · go_wp2_with fail
            refine (hJ _).mono ?_
            rintro e w1 ⟨rfl, rfl⟩
            cases t
            · go_wp2_with fail
              go_ret
              exact ⟨by rw [HV.out]; simp, HB.out⟩
            · go_wp2_with fail
              go_ret
              exact ⟨by rw [HV.out]; simp, HB.out⟩
        · go_wp2_with fail
          refine (hI _).mono ?_
          rintro e w1 ⟨rfl, rfl⟩
          go_wp2_with fail
          go_ret
          exact ⟨by rw [HV.out]; simp, HB.out⟩
end Go.Proofs.YtcliijfdlcagoaaGreat
