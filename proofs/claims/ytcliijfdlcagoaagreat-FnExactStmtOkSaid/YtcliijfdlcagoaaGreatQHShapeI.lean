/- Joined texts: ShapeI. -/
import Derived.Test.YtcliijfdlcagoaaGreatQZAP
import Derived.Test.YtcliijfdlcagoaaGreatQHAlone
import Derived.Test.YtcliijfdlcagoaaGreatQZAQ
import Derived.Test.YtcliijfdlcagoaaGreatQZAR
namespace Go.Proofs.YtcliijfdlcagoaaGreat
set_option linter.unusedVariables false
set_option linter.unusedSimpArgs false
open Go.RowKit
theorem empty_eq (s : ByteArray) : (s.toList == []) = emptyB s := by
  unfold emptyB
  rw [beq_nil, decide_eq_decide]
  constructor
  · intro h
    show s.data.toList.length = 0
    rw [h]; rfl
  · intro h
    exact List.length_eq_zero_iff.1 (show s.data.toList.length = 0 from h)
theorem empty_dec (s : ByteArray) : decide (s = ⟨#[]⟩) = emptyB s := by
  unfold emptyB
  rw [decide_eq_decide]
  constructor
  · intro h; rw [h]; rfl
  · intro h
    have : s.data.toList = [] := List.length_eq_zero_iff.1 (show s.data.toList.length = 0 from h)
    cases s with
    | mk d => have : d = #[] := by simpa using this
              rw [this]
theorem bnot_f (b : Bool) : (b == false) = !b := by cases b <;> rfl
set_option maxRecDepth 100000 in
theorem opt_impl (s : ByteArray) (w : World) (hs : s.size ≤ 9223372036854775807) : Calls Tryz.prog 121 #[.string s] w (PureE (.bool (optB s)) w) := by
  have hT := empty_eq s
  unfold optB
  generalize emptyB s = b at hT ⊢
  go_enter Tryz.func121, Tryz.ntmps121
  cases b
  · go_wp2_with fail
    refine (nameOk_impl _ _ hs).mono ?_
    rintro e w1 ⟨rfl, rfl⟩
    go_wp2_with fail
    go_ret
    exact ⟨rfl, rfl⟩
  · go_wp2_with fail
    go_ret
    exact ⟨rfl, rfl⟩
set_option maxRecDepth 100000 in
set_option maxHeartbeats 2000000 in
theorem lit_impl (k n : Int) (t : ByteArray) (w : World) (ht : t.size ≤ 9223372036854775807) :
    Calls Tryz.prog 124 #[.agg #[.int .i64 k, .int .i64 n, .string t]] w (BoolE (litB k n t) w) := by
  have hbb := (Below.refl w.heap.size w).alloc (Nat.le_refl _) (.cells #[.int .i64 k, .int .i64 n, .string t] 76)
  have HB := Lib.hid hbb
  have hV := fun w => valueOk_impl k n t w ht
  have e2 : decide (n ≥ 0) = decide (0 ≤ n) := rfl
  unfold litB
  generalize valOk k n t.data.toList = b0 at hV ⊢
  generalize hb1 : decide (0 ≤ n) = b1
  generalize hb2 : decide ((t.size : Int) ≤ 40) = b2
  clear hbb e2
  go_enter Tryz.func124, Tryz.ntmps124
  cases b0
  · go_wp2_with fail
    refine (hV _).mono ?_
    rintro e w1 ⟨rfl, hb⟩
    have hf := HB.out.trans (hb.mono HB.out.size)
    go_wp2_with fail
    go_ret
    exact ⟨rfl, hf⟩
  · go_wp2_with fail
    refine (hV _).mono ?_
    rintro e w1 ⟨rfl, hb⟩
    have hf := HB.out.trans (hb.mono HB.out.size)
    have R := (RowAt.new w 76 #[.int .i64 k, .int .i64 n, .string t]).later hb
    have x1 := R.cell (i := 1) (v := .int .i64 n) rfl
    have x2 := R.cell (i := 2) (v := .string t) rfl
    clear hb R
    cases b1 <;> cases b2
    all_goals
      go_wp2_with fail
      go_ret
      exact ⟨rfl, hf⟩
set_option maxRecDepth 100000 in
set_option maxHeartbeats 2000000 in
theorem fields_lit (op : Int) (nt : Bool) (vk vn : Int) (vt : ByteArray) (w : World) (ht : vt.size ≤ 9223372036854775807) :
    Calls Tryz.prog 97 #[.agg #[.int .i64 1, .int .i64 op, .bool nt, .int .i64 vk, .int .i64 vn, .string vt]] w (BoolE (headB 1 op nt vk vn vt) w) := by
  have hbb := (Below.refl w.heap.size w).alloc (Nat.le_refl _) (.cells #[.int .i64 1, .int .i64 op, .bool nt, .int .i64 vk, .int .i64 vn, .string vt] 142)
  have HB := Lib.hid hbb
  have R := RowAt.new w 142 #[.int .i64 1, .int .i64 op, .bool nt, .int .i64 vk, .int .i64 vn, .string vt]
  have hE : ∀ w, (Op.equalIn 10000 142 (.agg #[.int .i64 1, .int .i64 op, .bool nt, .int .i64 vk, .int .i64 vn, .string vt]) (.agg #[.int .i64 1, .int .i64 0, .bool false, .int .i64 vk, .int .i64 vn, .string vt])).run Tryz.prog w = .ok ((op == 0) && !nt) w := fun w => by
    rw [show (10000 : Nat) = 9997 + 3 from rfl, eq_hdr 9997]
    simp only [empty_dec, bnot_f, zeroV, beq_self_eq_true, Bool.true_and, Bool.and_true, decide_true]
  have hL := fun w => lit_impl vk vn vt w ht
  have hd : headB 1 op nt vk vn vt = (((op == 0) && !nt) && litB vk vn vt) := by unfold headB; rw [if_pos rfl, Bool.and_assoc]
  have x0 := R.cell (i := 0) (v := .int .i64 1) rfl
  have x1 := R.cell (i := 1) (v := .int .i64 op) rfl
  have x2 := R.cell (i := 2) (v := .bool nt) rfl
  have x3 := R.cell (i := 3) (v := .int .i64 vk) rfl
  have x4 := R.cell (i := 4) (v := .int .i64 vn) rfl
  have x5 := R.cell (i := 5) (v := .string vt) rfl
  generalize ((op == 0) && !nt) = b at hE hd
  generalize litB vk vn vt = l at hL hd
  have hd := Lib.hid hd
  have hw : Below w.heap.size w (w.alloc (.cells #[.int .i64 1, .int .i64 op, .bool nt, .int .i64 vk, .int .i64 vn, .string vt] 142)) := HB.out
  have HW := Lib.hid hw
  clear hbb hw
  go_enter Tryz.func97, Tryz.ntmps97
  cases b
  · go_wp2_with fail
    go_ret
    exact ⟨by rw [hd.out]; rfl, HB.out⟩
  · go_wp2_with fail
    refine (hL _).mono ?_
    rintro e w1 ⟨rfl, hb⟩
    have hf := HB.out.trans (hb.mono HB.out.size)
    go_wp2_with fail
    go_ret
    exact ⟨by rw [hd.out]; rfl, hf⟩
set_option maxRecDepth 100000 in
set_option maxHeartbeats 2000000 in
theorem fields_un (op : Int) (nt : Bool) (vk vn : Int) (vt : ByteArray) (w : World) (ht : vt.size ≤ 9223372036854775807) :
    Calls Tryz.prog 97 #[.agg #[.int .i64 3, .int .i64 op, .bool nt, .int .i64 vk, .int .i64 vn, .string vt]] w (BoolE (headB 3 op nt vk vn vt) w) := by
  have hbb := (Below.refl w.heap.size w).alloc (Nat.le_refl _) (.cells #[.int .i64 3, .int .i64 op, .bool nt, .int .i64 vk, .int .i64 vn, .string vt] 142)
  have HB := Lib.hid hbb
  have R := RowAt.new w 142 #[.int .i64 3, .int .i64 op, .bool nt, .int .i64 vk, .int .i64 vn, .string vt]
  have hE : ∀ w, (Op.equalIn 10000 142 (.agg #[.int .i64 3, .int .i64 op, .bool nt, .int .i64 vk, .int .i64 vn, .string vt]) (.agg #[.int .i64 3, .int .i64 op, .bool false, .int .i64 0, .int .i64 0, .string ⟨#[]⟩])).run Tryz.prog w = .ok (!nt && zeroV vk vn vt) w := fun w => by
    rw [show (10000 : Nat) = 9997 + 3 from rfl, eq_hdr 9997]
    simp only [empty_dec, bnot_f, zeroV, beq_self_eq_true, Bool.true_and, Bool.and_true, decide_true]
  have x0 := R.cell (i := 0) (v := .int .i64 3) rfl
  have x1 := R.cell (i := 1) (v := .int .i64 op) rfl
  have x2 := R.cell (i := 2) (v := .bool nt) rfl
  have x3 := R.cell (i := 3) (v := .int .i64 vk) rfl
  have x4 := R.cell (i := 4) (v := .int .i64 vn) rfl
  have x5 := R.cell (i := 5) (v := .string vt) rfl
  have hd : headB 3 op nt vk vn vt = ((!nt && zeroV vk vn vt) && ((op == 15) || (op == 16))) := by unfold headB; rw [if_neg (by decide), if_pos rfl, Bool.and_assoc]
  have HD := Lib.hid hd
  clear hd hbb
  go_enter Tryz.func97, Tryz.ntmps97
  generalize (!nt && zeroV vk vn vt) = b at hE HD
  cases b
  · go_wp2_with fail
    go_ret
    exact ⟨by rw [HD.out]; rfl, HB.out⟩
  · by_cases h1 : op = 15
    · subst h1
      go_wp2_with fail
      go_ret
      exact ⟨by rw [HD.out]; rfl, HB.out⟩
    · by_cases h2 : op = 16
      · subst h2
        go_wp2_with fail
        go_ret
        exact ⟨by rw [HD.out]; rfl, HB.out⟩
      · have e1 : (op == 15) = false := by simpa using h1
        have e2 : (op == 16) = false := by simpa using h2
        have HD2 : Hid (headB 3 op nt vk vn vt = false) := by rw [HD.out, e1, e2]; rfl
        clear HD h1 h2
        go_wp2_with fail
        go_ret
        exact ⟨by rw [HD2.out]; rfl, HB.out⟩
set_option maxRecDepth 100000 in
set_option maxHeartbeats 2000000 in
theorem fields_bin (op : Int) (nt : Bool) (vk vn : Int) (vt : ByteArray) (w : World) (ht : vt.size ≤ 9223372036854775807) :
    Calls Tryz.prog 97 #[.agg #[.int .i64 4, .int .i64 op, .bool nt, .int .i64 vk, .int .i64 vn, .string vt]] w (BoolE (headB 4 op nt vk vn vt) w) := by
  have hbb := (Below.refl w.heap.size w).alloc (Nat.le_refl _) (.cells #[.int .i64 4, .int .i64 op, .bool nt, .int .i64 vk, .int .i64 vn, .string vt] 142)
  have HB := Lib.hid hbb
  have R := RowAt.new w 142 #[.int .i64 4, .int .i64 op, .bool nt, .int .i64 vk, .int .i64 vn, .string vt]
  have hE : ∀ w, (Op.equalIn 10000 142 (.agg #[.int .i64 4, .int .i64 op, .bool nt, .int .i64 vk, .int .i64 vn, .string vt]) (.agg #[.int .i64 4, .int .i64 op, .bool false, .int .i64 0, .int .i64 0, .string ⟨#[]⟩])).run Tryz.prog w = .ok (!nt && zeroV vk vn vt) w := fun w => by
    rw [show (10000 : Nat) = 9997 + 3 from rfl, eq_hdr 9997]
    simp only [empty_dec, bnot_f, zeroV, beq_self_eq_true, Bool.true_and, Bool.and_true, decide_true]
  have x0 := R.cell (i := 0) (v := .int .i64 4) rfl
  have x1 := R.cell (i := 1) (v := .int .i64 op) rfl
  have x2 := R.cell (i := 2) (v := .bool nt) rfl
  have x3 := R.cell (i := 3) (v := .int .i64 vk) rfl
  have x4 := R.cell (i := 4) (v := .int .i64 vn) rfl
  have x5 := R.cell (i := 5) (v := .string vt) rfl
  have hd : headB 4 op nt vk vn vt = ((!nt && zeroV vk vn vt) && (decide (1 ≤ op) && decide (op ≤ 14))) := by unfold headB; rw [if_neg (by decide), if_neg (by decide), if_pos rfl, Bool.and_assoc]
  have HD := Lib.hid hd
  clear hd hbb
  go_enter Tryz.func97, Tryz.ntmps97
  generalize (!nt && zeroV vk vn vt) = b at hE HD
  cases b
  · go_wp2_with fail
    go_ret
    exact ⟨by rw [HD.out]; rfl, HB.out⟩
  · generalize hb1 : decide (1 ≤ op) = b1 at HD
    generalize hb2 : decide (op ≤ 14) = b2 at HD
    cases b1 <;> cases b2
    all_goals
      go_wp2_with fail
      go_ret
      exact ⟨by rw [HD.out]; rfl, HB.out⟩
set_option maxRecDepth 100000 in
set_option maxHeartbeats 2000000 in
theorem fields_not5 (op : Int) (nt : Bool) (vk vn : Int) (vt : ByteArray) (w : World) (ht : vt.size ≤ 9223372036854775807) :
    Calls Tryz.prog 97 #[.agg #[.int .i64 5, .int .i64 op, .bool nt, .int .i64 vk, .int .i64 vn, .string vt]] w (BoolE (headB 5 op nt vk vn vt) w) := by
  have hbb := (Below.refl w.heap.size w).alloc (Nat.le_refl _) (.cells #[.int .i64 5, .int .i64 op, .bool nt, .int .i64 vk, .int .i64 vn, .string vt] 142)
  have HB := Lib.hid hbb
  have R := RowAt.new w 142 #[.int .i64 5, .int .i64 op, .bool nt, .int .i64 vk, .int .i64 vn, .string vt]
  have hE : ∀ w, (Op.equalIn 10000 142 (.agg #[.int .i64 5, .int .i64 op, .bool nt, .int .i64 vk, .int .i64 vn, .string vt]) (.agg #[.int .i64 5, .int .i64 0, .bool nt, .int .i64 0, .int .i64 0, .string ⟨#[]⟩])).run Tryz.prog w = .ok ((op == 0) && zeroV vk vn vt) w := fun w => by
    rw [show (10000 : Nat) = 9997 + 3 from rfl, eq_hdr 9997]
    simp only [empty_dec, bnot_f, zeroV, beq_self_eq_true, Bool.true_and, Bool.and_true, decide_true]
  have x0 := R.cell (i := 0) (v := .int .i64 5) rfl
  have x1 := R.cell (i := 1) (v := .int .i64 op) rfl
  have x2 := R.cell (i := 2) (v := .bool nt) rfl
  have x3 := R.cell (i := 3) (v := .int .i64 vk) rfl
  have x4 := R.cell (i := 4) (v := .int .i64 vn) rfl
  have x5 := R.cell (i := 5) (v := .string vt) rfl
  have hd : headB 5 op nt vk vn vt = ((op == 0) && zeroV vk vn vt) := by unfold headB; simp
  have HD := Lib.hid hd
  clear hd hbb
  go_enter Tryz.func97, Tryz.ntmps97
  generalize ((op == 0) && zeroV vk vn vt) = b at hE HD
  go_wp2_with fail
  go_ret
  exact ⟨by rw [HD.out]; rfl, HB.out⟩
set_option maxRecDepth 100000 in
set_option maxHeartbeats 2000000 in
theorem fields_not6 (op : Int) (nt : Bool) (vk vn : Int) (vt : ByteArray) (w : World) (ht : vt.size ≤ 9223372036854775807) :
    Calls Tryz.prog 97 #[.agg #[.int .i64 6, .int .i64 op, .bool nt, .int .i64 vk, .int .i64 vn, .string vt]] w (BoolE (headB 6 op nt vk vn vt) w) := by
  have hbb := (Below.refl w.heap.size w).alloc (Nat.le_refl _) (.cells #[.int .i64 6, .int .i64 op, .bool nt, .int .i64 vk, .int .i64 vn, .string vt] 142)
  have HB := Lib.hid hbb
  have R := RowAt.new w 142 #[.int .i64 6, .int .i64 op, .bool nt, .int .i64 vk, .int .i64 vn, .string vt]
  have hE : ∀ w, (Op.equalIn 10000 142 (.agg #[.int .i64 6, .int .i64 op, .bool nt, .int .i64 vk, .int .i64 vn, .string vt]) (.agg #[.int .i64 6, .int .i64 0, .bool nt, .int .i64 0, .int .i64 0, .string ⟨#[]⟩])).run Tryz.prog w = .ok ((op == 0) && zeroV vk vn vt) w := fun w => by
    rw [show (10000 : Nat) = 9997 + 3 from rfl, eq_hdr 9997]
    simp only [empty_dec, bnot_f, zeroV, beq_self_eq_true, Bool.true_and, Bool.and_true, decide_true]
  have x0 := R.cell (i := 0) (v := .int .i64 6) rfl
  have x1 := R.cell (i := 1) (v := .int .i64 op) rfl
  have x2 := R.cell (i := 2) (v := .bool nt) rfl
  have x3 := R.cell (i := 3) (v := .int .i64 vk) rfl
  have x4 := R.cell (i := 4) (v := .int .i64 vn) rfl
  have x5 := R.cell (i := 5) (v := .string vt) rfl
  have hd : headB 6 op nt vk vn vt = ((op == 0) && zeroV vk vn vt) := by unfold headB; simp
  have HD := Lib.hid hd
  clear hd hbb
  go_enter Tryz.func97, Tryz.ntmps97
  generalize ((op == 0) && zeroV vk vn vt) = b at hE HD
  go_wp2_with fail
  go_ret
  exact ⟨by rw [HD.out]; rfl, HB.out⟩
set_option maxRecDepth 100000 in
set_option maxHeartbeats 2000000 in
theorem fields_not7 (op : Int) (nt : Bool) (vk vn : Int) (vt : ByteArray) (w : World) (ht : vt.size ≤ 9223372036854775807) :
    Calls Tryz.prog 97 #[.agg #[.int .i64 7, .int .i64 op, .bool nt, .int .i64 vk, .int .i64 vn, .string vt]] w (BoolE (headB 7 op nt vk vn vt) w) := by
  have hbb := (Below.refl w.heap.size w).alloc (Nat.le_refl _) (.cells #[.int .i64 7, .int .i64 op, .bool nt, .int .i64 vk, .int .i64 vn, .string vt] 142)
  have HB := Lib.hid hbb
  have R := RowAt.new w 142 #[.int .i64 7, .int .i64 op, .bool nt, .int .i64 vk, .int .i64 vn, .string vt]
  have hE : ∀ w, (Op.equalIn 10000 142 (.agg #[.int .i64 7, .int .i64 op, .bool nt, .int .i64 vk, .int .i64 vn, .string vt]) (.agg #[.int .i64 7, .int .i64 0, .bool nt, .int .i64 0, .int .i64 0, .string ⟨#[]⟩])).run Tryz.prog w = .ok ((op == 0) && zeroV vk vn vt) w := fun w => by
    rw [show (10000 : Nat) = 9997 + 3 from rfl, eq_hdr 9997]
    simp only [empty_dec, bnot_f, zeroV, beq_self_eq_true, Bool.true_and, Bool.and_true, decide_true]
  have x0 := R.cell (i := 0) (v := .int .i64 7) rfl
  have x1 := R.cell (i := 1) (v := .int .i64 op) rfl
  have x2 := R.cell (i := 2) (v := .bool nt) rfl
  have x3 := R.cell (i := 3) (v := .int .i64 vk) rfl
  have x4 := R.cell (i := 4) (v := .int .i64 vn) rfl
  have x5 := R.cell (i := 5) (v := .string vt) rfl
  have hd : headB 7 op nt vk vn vt = ((op == 0) && zeroV vk vn vt) := by unfold headB; simp
  have HD := Lib.hid hd
  clear hd hbb
  go_enter Tryz.func97, Tryz.ntmps97
  generalize ((op == 0) && zeroV vk vn vt) = b at hE HD
  go_wp2_with fail
  go_ret
  exact ⟨by rw [HD.out]; rfl, HB.out⟩
set_option maxRecDepth 100000 in
set_option maxHeartbeats 2000000 in
theorem fields_not8 (op : Int) (nt : Bool) (vk vn : Int) (vt : ByteArray) (w : World) (ht : vt.size ≤ 9223372036854775807) :
    Calls Tryz.prog 97 #[.agg #[.int .i64 8, .int .i64 op, .bool nt, .int .i64 vk, .int .i64 vn, .string vt]] w (BoolE (headB 8 op nt vk vn vt) w) := by
  have hbb := (Below.refl w.heap.size w).alloc (Nat.le_refl _) (.cells #[.int .i64 8, .int .i64 op, .bool nt, .int .i64 vk, .int .i64 vn, .string vt] 142)
  have HB := Lib.hid hbb
  have R := RowAt.new w 142 #[.int .i64 8, .int .i64 op, .bool nt, .int .i64 vk, .int .i64 vn, .string vt]
  have hE : ∀ w, (Op.equalIn 10000 142 (.agg #[.int .i64 8, .int .i64 op, .bool nt, .int .i64 vk, .int .i64 vn, .string vt]) (.agg #[.int .i64 8, .int .i64 0, .bool nt, .int .i64 0, .int .i64 0, .string ⟨#[]⟩])).run Tryz.prog w = .ok ((op == 0) && zeroV vk vn vt) w := fun w => by
    rw [show (10000 : Nat) = 9997 + 3 from rfl, eq_hdr 9997]
    simp only [empty_dec, bnot_f, zeroV, beq_self_eq_true, Bool.true_and, Bool.and_true, decide_true]
  have x0 := R.cell (i := 0) (v := .int .i64 8) rfl
  have x1 := R.cell (i := 1) (v := .int .i64 op) rfl
  have x2 := R.cell (i := 2) (v := .bool nt) rfl
  have x3 := R.cell (i := 3) (v := .int .i64 vk) rfl
  have x4 := R.cell (i := 4) (v := .int .i64 vn) rfl
  have x5 := R.cell (i := 5) (v := .string vt) rfl
  have hd : headB 8 op nt vk vn vt = ((op == 0) && zeroV vk vn vt) := by unfold headB; simp
  have HD := Lib.hid hd
  clear hd hbb
  go_enter Tryz.func97, Tryz.ntmps97
  generalize ((op == 0) && zeroV vk vn vt) = b at hE HD
  go_wp2_with fail
  go_ret
  exact ⟨by rw [HD.out]; rfl, HB.out⟩
set_option maxRecDepth 100000 in
set_option maxHeartbeats 2000000 in
theorem fields_none2 (op : Int) (nt : Bool) (vk vn : Int) (vt : ByteArray) (w : World) (ht : vt.size ≤ 9223372036854775807) :
    Calls Tryz.prog 97 #[.agg #[.int .i64 2, .int .i64 op, .bool nt, .int .i64 vk, .int .i64 vn, .string vt]] w (BoolE (headB 2 op nt vk vn vt) w) := by
  have hbb := (Below.refl w.heap.size w).alloc (Nat.le_refl _) (.cells #[.int .i64 2, .int .i64 op, .bool nt, .int .i64 vk, .int .i64 vn, .string vt] 142)
  have HB := Lib.hid hbb
  have R := RowAt.new w 142 #[.int .i64 2, .int .i64 op, .bool nt, .int .i64 vk, .int .i64 vn, .string vt]
  have hE : ∀ w, (Op.equalIn 10000 142 (.agg #[.int .i64 2, .int .i64 op, .bool nt, .int .i64 vk, .int .i64 vn, .string vt]) (.agg #[.int .i64 2, .int .i64 0, .bool false, .int .i64 0, .int .i64 0, .string ⟨#[]⟩])).run Tryz.prog w = .ok ((op == 0) && (!nt && zeroV vk vn vt)) w := fun w => by
    rw [show (10000 : Nat) = 9997 + 3 from rfl, eq_hdr 9997]
    simp only [empty_dec, bnot_f, zeroV, beq_self_eq_true, Bool.true_and, Bool.and_true, decide_true]
  have x0 := R.cell (i := 0) (v := .int .i64 2) rfl
  have x1 := R.cell (i := 1) (v := .int .i64 op) rfl
  have x2 := R.cell (i := 2) (v := .bool nt) rfl
  have x3 := R.cell (i := 3) (v := .int .i64 vk) rfl
  have x4 := R.cell (i := 4) (v := .int .i64 vn) rfl
  have x5 := R.cell (i := 5) (v := .string vt) rfl
  have hd : headB 2 op nt vk vn vt = ((op == 0) && (!nt && zeroV vk vn vt)) := by unfold headB; simp
  have HD := Lib.hid hd
  clear hd hbb
  go_enter Tryz.func97, Tryz.ntmps97
  generalize ((op == 0) && (!nt && zeroV vk vn vt)) = b at hE HD
  go_wp2_with fail
  go_ret
  exact ⟨by rw [HD.out]; rfl, HB.out⟩
set_option maxRecDepth 100000 in
set_option maxHeartbeats 2000000 in
theorem fields_none9 (op : Int) (nt : Bool) (vk vn : Int) (vt : ByteArray) (w : World) (ht : vt.size ≤ 9223372036854775807) :
    Calls Tryz.prog 97 #[.agg #[.int .i64 9, .int .i64 op, .bool nt, .int .i64 vk, .int .i64 vn, .string vt]] w (BoolE (headB 9 op nt vk vn vt) w) := by
  have hbb := (Below.refl w.heap.size w).alloc (Nat.le_refl _) (.cells #[.int .i64 9, .int .i64 op, .bool nt, .int .i64 vk, .int .i64 vn, .string vt] 142)
  have HB := Lib.hid hbb
  have R := RowAt.new w 142 #[.int .i64 9, .int .i64 op, .bool nt, .int .i64 vk, .int .i64 vn, .string vt]
  have hE : ∀ w, (Op.equalIn 10000 142 (.agg #[.int .i64 9, .int .i64 op, .bool nt, .int .i64 vk, .int .i64 vn, .string vt]) (.agg #[.int .i64 9, .int .i64 0, .bool false, .int .i64 0, .int .i64 0, .string ⟨#[]⟩])).run Tryz.prog w = .ok ((op == 0) && (!nt && zeroV vk vn vt)) w := fun w => by
    rw [show (10000 : Nat) = 9997 + 3 from rfl, eq_hdr 9997]
    simp only [empty_dec, bnot_f, zeroV, beq_self_eq_true, Bool.true_and, Bool.and_true, decide_true]
  have x0 := R.cell (i := 0) (v := .int .i64 9) rfl
  have x1 := R.cell (i := 1) (v := .int .i64 op) rfl
  have x2 := R.cell (i := 2) (v := .bool nt) rfl
  have x3 := R.cell (i := 3) (v := .int .i64 vk) rfl
  have x4 := R.cell (i := 4) (v := .int .i64 vn) rfl
  have x5 := R.cell (i := 5) (v := .string vt) rfl
  have hd : headB 9 op nt vk vn vt = ((op == 0) && (!nt && zeroV vk vn vt)) := by unfold headB; simp
  have HD := Lib.hid hd
  clear hd hbb
  go_enter Tryz.func97, Tryz.ntmps97
  generalize ((op == 0) && (!nt && zeroV vk vn vt)) = b at hE HD
  go_wp2_with fail
  go_ret
  exact ⟨by rw [HD.out]; rfl, HB.out⟩
set_option maxRecDepth 100000 in
set_option maxHeartbeats 2000000 in
theorem fields_else (k op : Int) (nt : Bool) (vk vn : Int) (vt : ByteArray) (w : World) (ht : vt.size ≤ 9223372036854775807)
    (n1 : ¬ k = 1) (n2 : ¬ k = 2) (n3 : ¬ k = 3) (n4 : ¬ k = 4) (n5 : ¬ k = 5) (n6 : ¬ k = 6) (n7 : ¬ k = 7) (n8 : ¬ k = 8) (n9 : ¬ k = 9) :
    Calls Tryz.prog 97 #[.agg #[.int .i64 k, .int .i64 op, .bool nt, .int .i64 vk, .int .i64 vn, .string vt]] w (BoolE (headB k op nt vk vn vt) w) := by
  have hbb := (Below.refl w.heap.size w).alloc (Nat.le_refl _) (.cells #[.int .i64 k, .int .i64 op, .bool nt, .int .i64 vk, .int .i64 vn, .string vt] 142)
  have HB := Lib.hid hbb
  have R := RowAt.new w 142 #[.int .i64 k, .int .i64 op, .bool nt, .int .i64 vk, .int .i64 vn, .string vt]
  have x0 := R.cell (i := 0) (v := .int .i64 k) rfl
  have x1 := R.cell (i := 1) (v := .int .i64 op) rfl
  have x2 := R.cell (i := 2) (v := .bool nt) rfl
  have x3 := R.cell (i := 3) (v := .int .i64 vk) rfl
  have x4 := R.cell (i := 4) (v := .int .i64 vn) rfl
  have x5 := R.cell (i := 5) (v := .string vt) rfl
  have hd : headB k op nt vk vn vt = false := by unfold headB; simp [n1, n2, n3, n4, n5, n6, n7, n8, n9]
  have HD := Lib.hid hd
  clear hd hbb
  go_enter Tryz.func97, Tryz.ntmps97
  go_wp2_with fail
  go_ret
  exact ⟨by rw [HD.out]; rfl, HB.out⟩
theorem fields_any (k op : Int) (nt : Bool) (vk vn : Int) (vt : ByteArray) (w : World) (ht : vt.size ≤ 9223372036854775807) :
    Calls Tryz.prog 97 #[.agg #[.int .i64 k, .int .i64 op, .bool nt, .int .i64 vk, .int .i64 vn, .string vt]] w (BoolE (headB k op nt vk vn vt) w) := by
  by_cases n1 : k = 1
  · subst n1; exact fields_lit op nt vk vn vt w ht
  by_cases n2 : k = 2
  · subst n2; exact fields_none2 op nt vk vn vt w ht
  by_cases n3 : k = 3
  · subst n3; exact fields_un op nt vk vn vt w ht
  by_cases n4 : k = 4
  · subst n4; exact fields_bin op nt vk vn vt w ht
  by_cases n5 : k = 5
  · subst n5; exact fields_not5 op nt vk vn vt w ht
  by_cases n6 : k = 6
  · subst n6; exact fields_not6 op nt vk vn vt w ht
  by_cases n7 : k = 7
  · subst n7; exact fields_not7 op nt vk vn vt w ht
  by_cases n8 : k = 8
  · subst n8; exact fields_not8 op nt vk vn vt w ht
  by_cases n9 : k = 9
  · subst n9; exact fields_none9 op nt vk vn vt w ht
  exact fields_else k op nt vk vn vt w ht n1 n2 n3 n4 n5 n6 n7 n8 n9
set_option maxRecDepth 100000 in
set_option maxHeartbeats 2000000 in
theorem takes_k1 (op : Int) (nt : Bool) (vk vn : Int) (vt : ByteArray) (a b : Nat) (w : World) :
    Calls Tryz.prog 99 #[.agg #[.int .i64 1, .int .i64 op, .bool nt, .int .i64 vk, .int .i64 vn, .string vt], .int .i64 (a : Int), .int .i64 (b : Int)] w (BoolE (takesB 1 a b) w) := by
  have hbb := (Below.refl w.heap.size w).alloc (Nat.le_refl _) (.cells #[.int .i64 1, .int .i64 op, .bool nt, .int .i64 vk, .int .i64 vn, .string vt] 142)
  have HB := Lib.hid hbb
  have R := RowAt.new w 142 #[.int .i64 1, .int .i64 op, .bool nt, .int .i64 vk, .int .i64 vn, .string vt]
  have x0 := R.cell (i := 0) (v := .int .i64 1) rfl
  have x1 := R.cell (i := 1) (v := .int .i64 op) rfl
  have x2 := R.cell (i := 2) (v := .bool nt) rfl
  have x3 := R.cell (i := 3) (v := .int .i64 vk) rfl
  have x4 := R.cell (i := 4) (v := .int .i64 vn) rfl
  have x5 := R.cell (i := 5) (v := .string vt) rfl
  have HD : Hid (takesB 1 a b = ((a == 0) && (b == 0))) := by show takesB 1 a b = _; unfold takesB; simp
  clear hbb
  go_enter Tryz.func99, Tryz.ntmps99
  have ha : ((a : Int) == (0 : Int)) = (a == 0) := by rw [Bool.eq_iff_iff, beq_iff_eq, beq_iff_eq]; omega
  have hb : ((b : Int) == (0 : Int)) = (b == 0) := by rw [Bool.eq_iff_iff, beq_iff_eq, beq_iff_eq]; omega
  generalize (a == 0) = p at ha HD
  generalize (b == 0) = q at hb HD
  cases p <;> cases q
  all_goals
    go_wp2_with fail
    go_ret
    exact ⟨by rw [HD.out]; rfl, HB.out⟩
set_option maxRecDepth 100000 in
set_option maxHeartbeats 2000000 in
theorem takes_k2 (op : Int) (nt : Bool) (vk vn : Int) (vt : ByteArray) (a b : Nat) (w : World) :
    Calls Tryz.prog 99 #[.agg #[.int .i64 2, .int .i64 op, .bool nt, .int .i64 vk, .int .i64 vn, .string vt], .int .i64 (a : Int), .int .i64 (b : Int)] w (BoolE (takesB 2 a b) w) := by
  have hbb := (Below.refl w.heap.size w).alloc (Nat.le_refl _) (.cells #[.int .i64 2, .int .i64 op, .bool nt, .int .i64 vk, .int .i64 vn, .string vt] 142)
  have HB := Lib.hid hbb
  have R := RowAt.new w 142 #[.int .i64 2, .int .i64 op, .bool nt, .int .i64 vk, .int .i64 vn, .string vt]
  have x0 := R.cell (i := 0) (v := .int .i64 2) rfl
  have x1 := R.cell (i := 1) (v := .int .i64 op) rfl
  have x2 := R.cell (i := 2) (v := .bool nt) rfl
  have x3 := R.cell (i := 3) (v := .int .i64 vk) rfl
  have x4 := R.cell (i := 4) (v := .int .i64 vn) rfl
  have x5 := R.cell (i := 5) (v := .string vt) rfl
  have HD : Hid (takesB 2 a b = ((a == 0) && (b == 0))) := by show takesB 2 a b = _; unfold takesB; simp
  clear hbb
  go_enter Tryz.func99, Tryz.ntmps99
  have ha : ((a : Int) == (0 : Int)) = (a == 0) := by rw [Bool.eq_iff_iff, beq_iff_eq, beq_iff_eq]; omega
  have hb : ((b : Int) == (0 : Int)) = (b == 0) := by rw [Bool.eq_iff_iff, beq_iff_eq, beq_iff_eq]; omega
  generalize (a == 0) = p at ha HD
  generalize (b == 0) = q at hb HD
  cases p <;> cases q
  all_goals
    go_wp2_with fail
    go_ret
    exact ⟨by rw [HD.out]; rfl, HB.out⟩
set_option maxRecDepth 100000 in
set_option maxHeartbeats 2000000 in
theorem takes_k3 (op : Int) (nt : Bool) (vk vn : Int) (vt : ByteArray) (a b : Nat) (w : World) :
    Calls Tryz.prog 99 #[.agg #[.int .i64 3, .int .i64 op, .bool nt, .int .i64 vk, .int .i64 vn, .string vt], .int .i64 (a : Int), .int .i64 (b : Int)] w (BoolE (takesB 3 a b) w) := by
  have hbb := (Below.refl w.heap.size w).alloc (Nat.le_refl _) (.cells #[.int .i64 3, .int .i64 op, .bool nt, .int .i64 vk, .int .i64 vn, .string vt] 142)
  have HB := Lib.hid hbb
  have R := RowAt.new w 142 #[.int .i64 3, .int .i64 op, .bool nt, .int .i64 vk, .int .i64 vn, .string vt]
  have x0 := R.cell (i := 0) (v := .int .i64 3) rfl
  have x1 := R.cell (i := 1) (v := .int .i64 op) rfl
  have x2 := R.cell (i := 2) (v := .bool nt) rfl
  have x3 := R.cell (i := 3) (v := .int .i64 vk) rfl
  have x4 := R.cell (i := 4) (v := .int .i64 vn) rfl
  have x5 := R.cell (i := 5) (v := .string vt) rfl
  have HD : Hid (takesB 3 a b = ((a == 1) && (b == 0))) := by show takesB 3 a b = _; unfold takesB; simp
  clear hbb
  go_enter Tryz.func99, Tryz.ntmps99
  have ha : ((a : Int) == (1 : Int)) = (a == 1) := by rw [Bool.eq_iff_iff, beq_iff_eq, beq_iff_eq]; omega
  have hb : ((b : Int) == (0 : Int)) = (b == 0) := by rw [Bool.eq_iff_iff, beq_iff_eq, beq_iff_eq]; omega
  generalize (a == 1) = p at ha HD
  generalize (b == 0) = q at hb HD
  cases p <;> cases q
  all_goals
    go_wp2_with fail
    go_ret
    exact ⟨by rw [HD.out]; rfl, HB.out⟩
set_option maxRecDepth 100000 in
set_option maxHeartbeats 2000000 in
theorem takes_k4 (op : Int) (nt : Bool) (vk vn : Int) (vt : ByteArray) (a b : Nat) (w : World) :
    Calls Tryz.prog 99 #[.agg #[.int .i64 4, .int .i64 op, .bool nt, .int .i64 vk, .int .i64 vn, .string vt], .int .i64 (a : Int), .int .i64 (b : Int)] w (BoolE (takesB 4 a b) w) := by
  have hbb := (Below.refl w.heap.size w).alloc (Nat.le_refl _) (.cells #[.int .i64 4, .int .i64 op, .bool nt, .int .i64 vk, .int .i64 vn, .string vt] 142)
  have HB := Lib.hid hbb
  have R := RowAt.new w 142 #[.int .i64 4, .int .i64 op, .bool nt, .int .i64 vk, .int .i64 vn, .string vt]
  have x0 := R.cell (i := 0) (v := .int .i64 4) rfl
  have x1 := R.cell (i := 1) (v := .int .i64 op) rfl
  have x2 := R.cell (i := 2) (v := .bool nt) rfl
  have x3 := R.cell (i := 3) (v := .int .i64 vk) rfl
  have x4 := R.cell (i := 4) (v := .int .i64 vn) rfl
  have x5 := R.cell (i := 5) (v := .string vt) rfl
  have HD : Hid (takesB 4 a b = ((a == 2) && (b == 0))) := by show takesB 4 a b = _; unfold takesB; simp
  clear hbb
  go_enter Tryz.func99, Tryz.ntmps99
  have ha : ((a : Int) == (2 : Int)) = (a == 2) := by rw [Bool.eq_iff_iff, beq_iff_eq, beq_iff_eq]; omega
  have hb : ((b : Int) == (0 : Int)) = (b == 0) := by rw [Bool.eq_iff_iff, beq_iff_eq, beq_iff_eq]; omega
  generalize (a == 2) = p at ha HD
  generalize (b == 0) = q at hb HD
  cases p <;> cases q
  all_goals
    go_wp2_with fail
    go_ret
    exact ⟨by rw [HD.out]; rfl, HB.out⟩
set_option maxRecDepth 100000 in
set_option maxHeartbeats 2000000 in
theorem takes_k5 (op : Int) (nt : Bool) (vk vn : Int) (vt : ByteArray) (a b : Nat) (w : World) :
    Calls Tryz.prog 99 #[.agg #[.int .i64 5, .int .i64 op, .bool nt, .int .i64 vk, .int .i64 vn, .string vt], .int .i64 (a : Int), .int .i64 (b : Int)] w (BoolE (takesB 5 a b) w) := by
  have hbb := (Below.refl w.heap.size w).alloc (Nat.le_refl _) (.cells #[.int .i64 5, .int .i64 op, .bool nt, .int .i64 vk, .int .i64 vn, .string vt] 142)
  have HB := Lib.hid hbb
  have R := RowAt.new w 142 #[.int .i64 5, .int .i64 op, .bool nt, .int .i64 vk, .int .i64 vn, .string vt]
  have x0 := R.cell (i := 0) (v := .int .i64 5) rfl
  have x1 := R.cell (i := 1) (v := .int .i64 op) rfl
  have x2 := R.cell (i := 2) (v := .bool nt) rfl
  have x3 := R.cell (i := 3) (v := .int .i64 vk) rfl
  have x4 := R.cell (i := 4) (v := .int .i64 vn) rfl
  have x5 := R.cell (i := 5) (v := .string vt) rfl
  have HD : Hid (takesB 5 a b = ((a == 1) && (b == 0))) := by show takesB 5 a b = _; unfold takesB; simp
  clear hbb
  go_enter Tryz.func99, Tryz.ntmps99
  have ha : ((a : Int) == (1 : Int)) = (a == 1) := by rw [Bool.eq_iff_iff, beq_iff_eq, beq_iff_eq]; omega
  have hb : ((b : Int) == (0 : Int)) = (b == 0) := by rw [Bool.eq_iff_iff, beq_iff_eq, beq_iff_eq]; omega
  generalize (a == 1) = p at ha HD
  generalize (b == 0) = q at hb HD
  cases p <;> cases q
  all_goals
    go_wp2_with fail
    go_ret
    exact ⟨by rw [HD.out]; rfl, HB.out⟩
set_option maxRecDepth 100000 in
set_option maxHeartbeats 2000000 in
theorem takes_k6 (op : Int) (nt : Bool) (vk vn : Int) (vt : ByteArray) (a b : Nat) (w : World) :
    Calls Tryz.prog 99 #[.agg #[.int .i64 6, .int .i64 op, .bool nt, .int .i64 vk, .int .i64 vn, .string vt], .int .i64 (a : Int), .int .i64 (b : Int)] w (BoolE (takesB 6 a b) w) := by
  have hbb := (Below.refl w.heap.size w).alloc (Nat.le_refl _) (.cells #[.int .i64 6, .int .i64 op, .bool nt, .int .i64 vk, .int .i64 vn, .string vt] 142)
  have HB := Lib.hid hbb
  have R := RowAt.new w 142 #[.int .i64 6, .int .i64 op, .bool nt, .int .i64 vk, .int .i64 vn, .string vt]
  have x0 := R.cell (i := 0) (v := .int .i64 6) rfl
  have x1 := R.cell (i := 1) (v := .int .i64 op) rfl
  have x2 := R.cell (i := 2) (v := .bool nt) rfl
  have x3 := R.cell (i := 3) (v := .int .i64 vk) rfl
  have x4 := R.cell (i := 4) (v := .int .i64 vn) rfl
  have x5 := R.cell (i := 5) (v := .string vt) rfl
  have HD : Hid (takesB 6 a b = ((a == 3) && (b == 0))) := by show takesB 6 a b = _; unfold takesB; simp
  clear hbb
  go_enter Tryz.func99, Tryz.ntmps99
  have ha : ((a : Int) == (3 : Int)) = (a == 3) := by rw [Bool.eq_iff_iff, beq_iff_eq, beq_iff_eq]; omega
  have hb : ((b : Int) == (0 : Int)) = (b == 0) := by rw [Bool.eq_iff_iff, beq_iff_eq, beq_iff_eq]; omega
  generalize (a == 3) = p at ha HD
  generalize (b == 0) = q at hb HD
  cases p <;> cases q
  all_goals
    go_wp2_with fail
    go_ret
    exact ⟨by rw [HD.out]; rfl, HB.out⟩
set_option maxRecDepth 100000 in
set_option maxHeartbeats 2000000 in
theorem takes_k8 (op : Int) (nt : Bool) (vk vn : Int) (vt : ByteArray) (a b : Nat) (w : World) :
    Calls Tryz.prog 99 #[.agg #[.int .i64 8, .int .i64 op, .bool nt, .int .i64 vk, .int .i64 vn, .string vt], .int .i64 (a : Int), .int .i64 (b : Int)] w (BoolE (takesB 8 a b) w) := by
  have hbb := (Below.refl w.heap.size w).alloc (Nat.le_refl _) (.cells #[.int .i64 8, .int .i64 op, .bool nt, .int .i64 vk, .int .i64 vn, .string vt] 142)
  have HB := Lib.hid hbb
  have R := RowAt.new w 142 #[.int .i64 8, .int .i64 op, .bool nt, .int .i64 vk, .int .i64 vn, .string vt]
  have x0 := R.cell (i := 0) (v := .int .i64 8) rfl
  have x1 := R.cell (i := 1) (v := .int .i64 op) rfl
  have x2 := R.cell (i := 2) (v := .bool nt) rfl
  have x3 := R.cell (i := 3) (v := .int .i64 vk) rfl
  have x4 := R.cell (i := 4) (v := .int .i64 vn) rfl
  have x5 := R.cell (i := 5) (v := .string vt) rfl
  have HD : Hid (takesB 8 a b = ((a == 1) && (b == 1))) := by show takesB 8 a b = _; unfold takesB; simp
  clear hbb
  go_enter Tryz.func99, Tryz.ntmps99
  have ha : ((a : Int) == (1 : Int)) = (a == 1) := by rw [Bool.eq_iff_iff, beq_iff_eq, beq_iff_eq]; omega
  have hb : ((b : Int) == (1 : Int)) = (b == 1) := by rw [Bool.eq_iff_iff, beq_iff_eq, beq_iff_eq]; omega
  generalize (a == 1) = p at ha HD
  generalize (b == 1) = q at hb HD
  cases p <;> cases q
  all_goals
    go_wp2_with fail
    go_ret
    exact ⟨by rw [HD.out]; rfl, HB.out⟩
set_option maxRecDepth 100000 in
set_option maxHeartbeats 2000000 in
theorem takes_k9 (op : Int) (nt : Bool) (vk vn : Int) (vt : ByteArray) (a b : Nat) (w : World) :
    Calls Tryz.prog 99 #[.agg #[.int .i64 9, .int .i64 op, .bool nt, .int .i64 vk, .int .i64 vn, .string vt], .int .i64 (a : Int), .int .i64 (b : Int)] w (BoolE (takesB 9 a b) w) := by
  have hbb := (Below.refl w.heap.size w).alloc (Nat.le_refl _) (.cells #[.int .i64 9, .int .i64 op, .bool nt, .int .i64 vk, .int .i64 vn, .string vt] 142)
  have HB := Lib.hid hbb
  have R := RowAt.new w 142 #[.int .i64 9, .int .i64 op, .bool nt, .int .i64 vk, .int .i64 vn, .string vt]
  have x0 := R.cell (i := 0) (v := .int .i64 9) rfl
  have x1 := R.cell (i := 1) (v := .int .i64 op) rfl
  have x2 := R.cell (i := 2) (v := .bool nt) rfl
  have x3 := R.cell (i := 3) (v := .int .i64 vk) rfl
  have x4 := R.cell (i := 4) (v := .int .i64 vn) rfl
  have x5 := R.cell (i := 5) (v := .string vt) rfl
  have HD : Hid (takesB 9 a b = ((a == 0) && (b == 1))) := by show takesB 9 a b = _; unfold takesB; simp
  clear hbb
  go_enter Tryz.func99, Tryz.ntmps99
  have ha : ((a : Int) == (0 : Int)) = (a == 0) := by rw [Bool.eq_iff_iff, beq_iff_eq, beq_iff_eq]; omega
  have hb : ((b : Int) == (1 : Int)) = (b == 1) := by rw [Bool.eq_iff_iff, beq_iff_eq, beq_iff_eq]; omega
  generalize (a == 0) = p at ha HD
  generalize (b == 1) = q at hb HD
  cases p <;> cases q
  all_goals
    go_wp2_with fail
    go_ret
    exact ⟨by rw [HD.out]; rfl, HB.out⟩
set_option maxRecDepth 100000 in
set_option maxHeartbeats 2000000 in
theorem takes_k7 (op : Int) (nt : Bool) (vk vn : Int) (vt : ByteArray) (a b : Nat) (w : World) :
    Calls Tryz.prog 99 #[.agg #[.int .i64 7, .int .i64 op, .bool nt, .int .i64 vk, .int .i64 vn, .string vt], .int .i64 (a : Int), .int .i64 (b : Int)] w (BoolE (takesB 7 a b) w) := by
  have hbb := (Below.refl w.heap.size w).alloc (Nat.le_refl _) (.cells #[.int .i64 7, .int .i64 op, .bool nt, .int .i64 vk, .int .i64 vn, .string vt] 142)
  have HB := Lib.hid hbb
  have R := RowAt.new w 142 #[.int .i64 7, .int .i64 op, .bool nt, .int .i64 vk, .int .i64 vn, .string vt]
  have x0 := R.cell (i := 0) (v := .int .i64 7) rfl
  have x1 := R.cell (i := 1) (v := .int .i64 op) rfl
  have x2 := R.cell (i := 2) (v := .bool nt) rfl
  have x3 := R.cell (i := 3) (v := .int .i64 vk) rfl
  have x4 := R.cell (i := 4) (v := .int .i64 vn) rfl
  have x5 := R.cell (i := 5) (v := .string vt) rfl
  have HD : Hid (takesB 7 a b = ((decide (2 ≤ a) && decide (a ≤ 9)) && (b == 0))) := by show takesB 7 a b = _; unfold takesB; simp
  clear hbb
  go_enter Tryz.func99, Tryz.ntmps99
  have ha : decide ((2 : Int) ≤ (a : Int)) = decide (2 ≤ a) := by rw [decide_eq_decide]; omega
  have hc : decide ((a : Int) ≤ (9 : Int)) = decide (a ≤ 9) := by rw [decide_eq_decide]; omega
  have hb : ((b : Int) == (0 : Int)) = (b == 0) := by rw [Bool.eq_iff_iff, beq_iff_eq, beq_iff_eq]; omega
  generalize decide (2 ≤ a) = p at ha HD
  generalize decide (a ≤ 9) = r at hc HD
  generalize (b == 0) = q at hb HD
  cases p <;> cases r <;> cases q
  all_goals
    go_wp2_with fail
    go_ret
    exact ⟨by rw [HD.out]; rfl, HB.out⟩
set_option maxRecDepth 100000 in
set_option maxHeartbeats 2000000 in
theorem takes_else (k op : Int) (nt : Bool) (vk vn : Int) (vt : ByteArray) (a b : Nat) (w : World)
    (n1 : ¬ k = 1) (n2 : ¬ k = 2) (n3 : ¬ k = 3) (n4 : ¬ k = 4) (n5 : ¬ k = 5) (n6 : ¬ k = 6) (n7 : ¬ k = 7) (n8 : ¬ k = 8) (n9 : ¬ k = 9) :
    Calls Tryz.prog 99 #[.agg #[.int .i64 k, .int .i64 op, .bool nt, .int .i64 vk, .int .i64 vn, .string vt], .int .i64 (a : Int), .int .i64 (b : Int)] w (BoolE (takesB k a b) w) := by
  have hbb := (Below.refl w.heap.size w).alloc (Nat.le_refl _) (.cells #[.int .i64 k, .int .i64 op, .bool nt, .int .i64 vk, .int .i64 vn, .string vt] 142)
  have HB := Lib.hid hbb
  have R := RowAt.new w 142 #[.int .i64 k, .int .i64 op, .bool nt, .int .i64 vk, .int .i64 vn, .string vt]
  have x0 := R.cell (i := 0) (v := .int .i64 k) rfl
  have x1 := R.cell (i := 1) (v := .int .i64 op) rfl
  have x2 := R.cell (i := 2) (v := .bool nt) rfl
  have x3 := R.cell (i := 3) (v := .int .i64 vk) rfl
  have x4 := R.cell (i := 4) (v := .int .i64 vn) rfl
  have x5 := R.cell (i := 5) (v := .string vt) rfl
  have HD : Hid (takesB k a b = false) := by show takesB k a b = _; unfold takesB; simp [n1, n2, n3, n4, n5, n6, n7, n8, n9]
  clear hbb
  go_enter Tryz.func99, Tryz.ntmps99
  go_wp2_with fail
  go_ret
  exact ⟨by rw [HD.out]; rfl, HB.out⟩
theorem takes_any (k op : Int) (nt : Bool) (vk vn : Int) (vt : ByteArray) (a b : Nat) (w : World) :
    Calls Tryz.prog 99 #[.agg #[.int .i64 k, .int .i64 op, .bool nt, .int .i64 vk, .int .i64 vn, .string vt], .int .i64 (a : Int), .int .i64 (b : Int)] w (BoolE (takesB k a b) w) := by
  by_cases n1 : k = 1
  · subst n1; exact takes_k1 op nt vk vn vt a b w
  by_cases n2 : k = 2
  · subst n2; exact takes_k2 op nt vk vn vt a b w
  by_cases n3 : k = 3
  · subst n3; exact takes_k3 op nt vk vn vt a b w
  by_cases n4 : k = 4
  · subst n4; exact takes_k4 op nt vk vn vt a b w
  by_cases n5 : k = 5
  · subst n5; exact takes_k5 op nt vk vn vt a b w
  by_cases n6 : k = 6
  · subst n6; exact takes_k6 op nt vk vn vt a b w
  by_cases n7 : k = 7
  · subst n7; exact takes_k7 op nt vk vn vt a b w
  by_cases n8 : k = 8
  · subst n8; exact takes_k8 op nt vk vn vt a b w
  by_cases n9 : k = 9
  · subst n9; exact takes_k9 op nt vk vn vt a b w
  exact takes_else k op nt vk vn vt a b w n1 n2 n3 n4 n5 n6 n7 n8 n9
set_option maxRecDepth 100000 in
set_option maxHeartbeats 2000000 in
theorem names_any (k op : Int) (nt : Bool) (vk vn : Int) (vt q n : ByteArray) (w : World) (hq : q.size ≤ 9223372036854775807) (hn : n.size ≤ 9223372036854775807) :
    Calls Tryz.prog 98 #[.agg #[.int .i64 k, .int .i64 op, .bool nt, .int .i64 vk, .int .i64 vn, .string vt, .string q, .string n]] w (BoolE (namesB k q n) w) := by
  have hbb := (Below.refl w.heap.size w).alloc (Nat.le_refl _) (.cells #[.int .i64 k, .int .i64 op, .bool nt, .int .i64 vk, .int .i64 vn, .string vt, .string q, .string n] 144)
  have HB := Lib.hid hbb
  have R := RowAt.new w 144 #[.int .i64 k, .int .i64 op, .bool nt, .int .i64 vk, .int .i64 vn, .string vt, .string q, .string n]
  have x0 := R.cell (i := 0) (v := .int .i64 k) rfl
  have x1 := R.cell (i := 1) (v := .int .i64 op) rfl
  have x2 := R.cell (i := 2) (v := .bool nt) rfl
  have x3 := R.cell (i := 3) (v := .int .i64 vk) rfl
  have x4 := R.cell (i := 4) (v := .int .i64 vn) rfl
  have x5 := R.cell (i := 5) (v := .string vt) rfl
  have x6 := R.cell (i := 6) (v := .string q) rfl
  have x7 := R.cell (i := 7) (v := .string n) rfl
  have hN := fun w => nameOk_impl n w hn
  have hO := fun w => opt_impl q w hq
  have h1 := empty_eq q
  have h2 := empty_eq n
  unfold namesB
  clear hbb
  by_cases h : k = 2
  · subst h
    rw [if_pos rfl]
    generalize okLen n.size = b1 at hN ⊢
    generalize optB q = b2 at hO ⊢
    clear h1 h2
    go_enter Tryz.func98, Tryz.ntmps98
    cases b1
    · go_wp2_with fail
      refine (hN _).mono ?_
      rintro e w1 ⟨rfl, rfl⟩
      go_wp2_with fail
      go_ret
      exact ⟨rfl, HB.out⟩
    · go_wp2_with fail
      refine (hN _).mono ?_
      rintro e w1 ⟨rfl, rfl⟩
      go_wp2_with fail
      refine (hO _).mono ?_
      rintro e w1 ⟨rfl, rfl⟩
      go_wp2_with fail
      go_ret
      exact ⟨rfl, HB.out⟩
  · rw [if_neg h]
    generalize emptyB q = b1 at h1 ⊢
    generalize emptyB n = b2 at h2 ⊢
    clear hN hO
    go_enter Tryz.func98, Tryz.ntmps98
    cases b1 <;> cases b2
    all_goals
      go_wp2_with fail
      go_ret
      exact ⟨rfl, HB.out⟩
end Go.Proofs.YtcliijfdlcagoaaGreat
