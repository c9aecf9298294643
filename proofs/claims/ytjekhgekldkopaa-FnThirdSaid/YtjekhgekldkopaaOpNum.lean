
/- Contracts of the functions that add, subtract and multiply, of the program and of the model. -/
import Derived.Test.YtjekhgekldkopaaOpMath
import Derived.Test.YtjekhgekldkopaaLexMath2
namespace Go.Proofs.Ytjekhgekldkopaa
open Go.RowKit
set_option maxRecDepth 100000 in
set_option maxHeartbeats 1000000 in
theorem addNum_impl (a b : Int) (w : World) (ha0 : -9223372036854775808 ≤ a) (ha1 : a ≤ 9223372036854775807) (hb0 : -9223372036854775808 ≤ b) (hb1 : b ≤ 9223372036854775807) :
    Calls Try.prog 26 #[.int .i64 a, .int .i64 b] w (NumR (a + b) w) := by
  by_cases hf : -9223372036854775808 ≤ a + b ∧ a + b ≤ 9223372036854775807
  · have h0 := hf.1
    have h1 := hf.2
    have H := Lib.hid hf
    clear hf
    by_cases hb : b < 0
    · have d1 : decide (b < 0) = true := by simpa using hb
      have d2 : decide (a + b < a) = true := by simp; omega
      clear hb
      go_enter Try.func26, Try.ntmps26
      go_wp2_with fail
      go_ret2
      exact NumR.yes H.out rfl rfl
    · have d1 : decide (b < 0) = false := by simpa using hb
      have d2 : decide (a + b < a) = false := by simp; omega
      clear hb
      go_enter Try.func26, Try.ntmps26
      go_wp2_with fail
      go_ret2
      exact NumR.yes H.out rfl rfl
  · by_cases hb : b < 0
    · have hw : wrap64 (a + b) = a + b + 18446744073709551616 := by unfold wrap64; omega
      have d1 : decide (b < 0) = true := by simpa using hb
      have d2 : decide (a + b + 18446744073709551616 < a) = false := by simp; omega
      have H := Lib.hid hf
      clear hb hf
      go_enter Try.func26, Try.ntmps26
      go_wp2_with fail
      go_ret2
      exact NumR.no H.out rfl rfl
    · have hw : wrap64 (a + b) = a + b - 18446744073709551616 := by unfold wrap64; omega
      have d1 : decide (b < 0) = false := by simpa using hb
      have d2 : decide (a + b - 18446744073709551616 < a) = true := by simp; omega
      have H := Lib.hid hf
      clear hb hf
      go_enter Try.func26, Try.ntmps26
      go_wp2_with fail
      go_ret2
      exact NumR.no H.out rfl rfl
set_option maxRecDepth 100000 in
set_option maxHeartbeats 1000000 in
theorem subNum_impl (a b : Int) (w : World) (ha0 : -9223372036854775808 ≤ a) (ha1 : a ≤ 9223372036854775807) (hb0 : -9223372036854775808 ≤ b) (hb1 : b ≤ 9223372036854775807) :
    Calls Try.prog 28 #[.int .i64 a, .int .i64 b] w (NumR (a - b) w) := by
  by_cases hf : -9223372036854775808 ≤ a - b ∧ a - b ≤ 9223372036854775807
  · have h0 := hf.1
    have h1 := hf.2
    have H := Lib.hid hf
    clear hf
    by_cases hb : b < 0
    · have d1 : decide (b < 0) = true := by simpa using hb
      have d2 : decide (a < a - b) = true := by simp; omega
      clear hb
      go_enter Try.func28, Try.ntmps28
      go_wp2_with fail
      go_ret2
      exact NumR.yes H.out rfl rfl
    · have d1 : decide (b < 0) = false := by simpa using hb
      have d2 : decide (a < a - b) = false := by simp; omega
      clear hb
      go_enter Try.func28, Try.ntmps28
      go_wp2_with fail
      go_ret2
      exact NumR.yes H.out rfl rfl
  · by_cases hb : b < 0
    · have hw : wrap64 (a - b) = a - b - 18446744073709551616 := by unfold wrap64; omega
      have d1 : decide (b < 0) = true := by simpa using hb
      have d2 : decide (a < a - b - 18446744073709551616) = false := by simp; omega
      have H := Lib.hid hf
      clear hb hf
      go_enter Try.func28, Try.ntmps28
      go_wp2_with fail
      go_ret2
      exact NumR.no H.out rfl rfl
    · have hw : wrap64 (a - b) = a - b + 18446744073709551616 := by unfold wrap64; omega
      have d1 : decide (b < 0) = false := by simpa using hb
      have d2 : decide (a < a - b + 18446744073709551616) = true := by simp; omega
      have H := Lib.hid hf
      clear hb hf
      go_enter Try.func28, Try.ntmps28
      go_wp2_with fail
      go_ret2
      exact NumR.no H.out rfl rfl
set_option maxRecDepth 100000 in
set_option maxHeartbeats 1000000 in
theorem addNum_spec (a b : Int) (w : World) (ha0 : -9223372036854775808 ≤ a) (ha1 : a ≤ 9223372036854775807) (hb0 : -9223372036854775808 ≤ b) (hb1 : b ≤ 9223372036854775807) :
    Calls Try.prog 27 #[.int .i64 a, .int .i64 b] w (NumR (a + b) w) := by
  rcases (show b < 0 ∨ b = 0 ∨ 0 < b by omega) with hb | hb | hb
  · have d1 : decide (0 < b) = false := by simp; omega
    have d2 : decide (b < 0) = true := by simp; omega
    by_cases hf : -9223372036854775808 ≤ a + b ∧ a + b ≤ 9223372036854775807
    · have h0 := hf.1
      have h1 := hf.2
      have H := Lib.hid hf
      have d3 : decide (a < -9223372036854775808 - b) = false := by simp; omega
      clear hf
      go_enter Try.func27, Try.ntmps27
      go_wp2_with fail
      go_ret2
      exact NumR.yes H.out rfl rfl
    · have d3 : decide (a < -9223372036854775808 - b) = true := by simp; omega
      have H := Lib.hid hf
      clear hf
      go_enter Try.func27, Try.ntmps27
      go_wp2_with fail
      go_ret2
      exact NumR.no H.out rfl rfl
  · subst hb
    have H := Lib.hid (show -9223372036854775808 ≤ a + 0 ∧ a + 0 ≤ 9223372036854775807 by omega)
    go_enter Try.func27, Try.ntmps27
    go_wp2_with fail
    go_ret2
    exact NumR.yes H.out (by simp) rfl
  · have d1 : decide (0 < b) = true := by simp; omega
    have d2 : decide (b < 0) = false := by simp; omega
    by_cases hf : -9223372036854775808 ≤ a + b ∧ a + b ≤ 9223372036854775807
    · have h0 := hf.1
      have h1 := hf.2
      have H := Lib.hid hf
      have d3 : decide (9223372036854775807 - b < a) = false := by simp; omega
      clear hf
      go_enter Try.func27, Try.ntmps27
      go_wp2_with fail
      go_ret2
      exact NumR.yes H.out rfl rfl
    · have d3 : decide (9223372036854775807 - b < a) = true := by simp; omega
      have H := Lib.hid hf
      clear hf
      go_enter Try.func27, Try.ntmps27
      go_wp2_with fail
      go_ret2
      exact NumR.no H.out rfl rfl
set_option maxRecDepth 100000 in
set_option maxHeartbeats 1000000 in
theorem subNum_spec (a b : Int) (w : World) (ha0 : -9223372036854775808 ≤ a) (ha1 : a ≤ 9223372036854775807) (hb0 : -9223372036854775808 ≤ b) (hb1 : b ≤ 9223372036854775807) :
    Calls Try.prog 29 #[.int .i64 a, .int .i64 b] w (NumR (a - b) w) := by
  rcases (show b < 0 ∨ b = 0 ∨ 0 < b by omega) with hb | hb | hb
  · have d1 : decide (0 < b) = false := by simp; omega
    have d2 : decide (b < 0) = true := by simp; omega
    by_cases hf : -9223372036854775808 ≤ a - b ∧ a - b ≤ 9223372036854775807
    · have h0 := hf.1
      have h1 := hf.2
      have H := Lib.hid hf
      have d3 : decide (9223372036854775807 + b < a) = false := by simp; omega
      clear hf
      go_enter Try.func29, Try.ntmps29
      go_wp2_with fail
      go_ret2
      exact NumR.yes H.out rfl rfl
    · have d3 : decide (9223372036854775807 + b < a) = true := by simp; omega
      have H := Lib.hid hf
      clear hf
      go_enter Try.func29, Try.ntmps29
      go_wp2_with fail
      go_ret2
      exact NumR.no H.out rfl rfl
  · subst hb
    have H := Lib.hid (show -9223372036854775808 ≤ a - 0 ∧ a - 0 ≤ 9223372036854775807 by omega)
    go_enter Try.func29, Try.ntmps29
    go_wp2_with fail
    go_ret2
    exact NumR.yes H.out (by simp) rfl
  · have d1 : decide (0 < b) = true := by simp; omega
    have d2 : decide (b < 0) = false := by simp; omega
    by_cases hf : -9223372036854775808 ≤ a - b ∧ a - b ≤ 9223372036854775807
    · have h0 := hf.1
      have h1 := hf.2
      have H := Lib.hid hf
      have d3 : decide (a < -9223372036854775808 + b) = false := by simp; omega
      clear hf
      go_enter Try.func29, Try.ntmps29
      go_wp2_with fail
      go_ret2
      exact NumR.yes H.out rfl rfl
    · have d3 : decide (a < -9223372036854775808 + b) = true := by simp; omega
      have H := Lib.hid hf
      clear hf
      go_enter Try.func29, Try.ntmps29
      go_wp2_with fail
      go_ret2
      exact NumR.no H.out rfl rfl
set_option maxRecDepth 100000 in
set_option maxHeartbeats 1000000 in
theorem mulNum_impl (a b : Int) (w : World) (ha0 : -9223372036854775808 ≤ a) (ha1 : a ≤ 9223372036854775807) (hb0 : -9223372036854775808 ≤ b) (hb1 : b ≤ 9223372036854775807) :
    Calls Try.prog 31 #[.int .i64 a, .int .i64 b] w (NumR (a * b) w) := by
  by_cases h0 : b = 0
  · subst h0
    have H := Lib.hid (show -9223372036854775808 ≤ a * 0 ∧ a * 0 ≤ 9223372036854775807 by omega)
    go_enter Try.func31, Try.ntmps31
    go_wp2_with fail
    go_ret2
    exact NumR.yes H.out (by simp) rfl
  by_cases h1 : b = -1
  · subst h1
    have hS := fun w => subNum_impl 0 a w (by omega) (by omega) ha0 ha1
    have he : (0 : Int) - a = a * -1 := by omega
    rw [he] at hS
    unfold NumR at hS ⊢
    generalize outI (a * -1) = x at hS ⊢
    generalize fits (a * -1) = c at hS ⊢
    clear he
    go_enter Try.func31, Try.ntmps31
    go_wp2_with fail
    refine (hS _).mono ?_
    rintro e w1 ⟨rfl, rfl⟩
    go_wp2_with fail
    go_ret2
    exact ⟨rfl, rfl⟩
  have q0 : (b == 0) = false := by simpa using h0
  have q1 : (b == -1) = false := by simpa using h1
  have hm := mul_back (a := a) h0 hb0 hb1
  by_cases hf : -9223372036854775808 ≤ a * b ∧ a * b ≤ 9223372036854775807
  · have hw := IntWalk.wrap64_in _ hf
    have hd := hm.2 hf
    rw [hw] at hd
    have f0 := hf.1
    have f1 := hf.2
    have H := Lib.hid hf
    clear hf hm hw
    go_enter Try.func31, Try.ntmps31
    go_wp2_with fail
    go_ret2
    exact NumR.yes H.out (by first | rfl | (rw [← hw]; rfl) | simp) rfl
  · have hd : (wrap64 (a * b)).tdiv b ≠ a := fun h => hf (hm.1 h)
    have hq := IntWalk.wrap64_in _ (quo_fits (wrap64_range (a * b)) h0 h1)
    have hx : (wrap64 ((wrap64 (a * b)).tdiv b) != a) = true := by rw [hq]; simpa using hd
    have H := Lib.hid hf
    clear hf hm hd hq
    go_enter Try.func31, Try.ntmps31
    go_wp2_with fail
    go_ret2
    exact NumR.no H.out rfl rfl
set_option maxRecDepth 100000 in
set_option maxHeartbeats 1000000 in
theorem mulNum_spec (a b : Int) (w : World) (ha0 : -9223372036854775808 ≤ a) (ha1 : a ≤ 9223372036854775807) (hb0 : -9223372036854775808 ≤ b) (hb1 : b ≤ 9223372036854775807) :
    Calls Try.prog 32 #[.int .i64 a, .int .i64 b] w (NumR (a * b) w) := by
  by_cases h0 : a = 0
  · subst h0
    have H := Lib.hid (show -9223372036854775808 ≤ 0 * b ∧ 0 * b ≤ 9223372036854775807 by omega)
    go_enter Try.func32, Try.ntmps32
    go_wp2_with fail
    go_ret2
    exact NumR.yes H.out (by simp) rfl
  by_cases h1 : b = 0
  · subst h1
    have q0 : (a == 0) = false := by simpa using h0
    have H := Lib.hid (show -9223372036854775808 ≤ a * 0 ∧ a * 0 ≤ 9223372036854775807 by omega)
    go_enter Try.func32, Try.ntmps32
    go_wp2_with fail
    go_ret2
    exact NumR.yes H.out (by simp) rfl
  have q0 : (a == 0) = false := by simpa using h0
  have q1 : (b == 0) = false := by simpa using h1
  by_cases h3 : a = -1
  · subst h3
    by_cases h4 : b = -9223372036854775808
    · subst h4
      have H := Lib.hid (show ¬ (-9223372036854775808 ≤ (-1 : Int) * -9223372036854775808 ∧ (-1 : Int) * -9223372036854775808 ≤ 9223372036854775807) by omega)
      go_enter Try.func32, Try.ntmps32
      go_wp2_with fail
      go_ret2
      exact NumR.no H.out rfl rfl
    · have q4 : (b == -9223372036854775808) = false := by simpa using h4
      have hd : (-b).tdiv b = -1 := by rw [Int.neg_tdiv, Int.tdiv_self h1]
      have f0 : -9223372036854775808 ≤ -b := by omega
      have f1 : -b ≤ 9223372036854775807 := by omega
      have H := Lib.hid (show -9223372036854775808 ≤ -1 * b ∧ -1 * b ≤ 9223372036854775807 by omega)
      by_cases h5 : b = -1
      · subst h5
        clear hd
        go_enter Try.func32, Try.ntmps32
        go_wp2_with fail
        go_ret2
        exact NumR.yes H.out (by first | rfl | simp) rfl
      · have q5 : (b == -1) = false := by simpa using h5
        clear h4 h5 h0
        go_enter Try.func32, Try.ntmps32
        go_wp2_with fail
        go_ret2
        exact NumR.yes H.out (by first | rfl | simp) rfl
  have q3 : (a == -1) = false := by simpa using h3
  by_cases h2 : b = -1
  · subst h2
    by_cases h4 : a = -9223372036854775808
    · subst h4
      have H := Lib.hid (show ¬ (-9223372036854775808 ≤ (-9223372036854775808 : Int) * -1 ∧ (-9223372036854775808 : Int) * -1 ≤ 9223372036854775807) by omega)
      go_enter Try.func32, Try.ntmps32
      go_wp2_with fail
      go_ret2
      exact NumR.no H.out rfl rfl
    · have q4 : (a == -9223372036854775808) = false := by simpa using h4
      have f0 : -9223372036854775808 ≤ -a := by omega
      have f1 : -a ≤ 9223372036854775807 := by omega
      have H := Lib.hid (show -9223372036854775808 ≤ a * -1 ∧ a * -1 ≤ 9223372036854775807 by omega)
      clear h0 h1 h3 h4
      go_enter Try.func32, Try.ntmps32
      go_wp2_with fail
      go_ret2
      exact NumR.yes H.out (by first | rfl | simp) rfl
  have q2 : (b == -1) = false := by simpa using h2
  have hm := mul_back (a := a) h1 hb0 hb1
  by_cases hf : -9223372036854775808 ≤ a * b ∧ a * b ≤ 9223372036854775807
  · have hw := IntWalk.wrap64_in _ hf
    have hd := hm.2 hf
    rw [hw] at hd
    have f0 := hf.1
    have f1 := hf.2
    have H := Lib.hid hf
    clear hf hm hw h0 h2 h3
    go_enter Try.func32, Try.ntmps32
    go_wp2_with fail
    go_ret2
    exact NumR.yes H.out (by first | rfl | simp) rfl
  · have hd : (wrap64 (a * b)).tdiv b ≠ a := fun h => hf (hm.1 h)
    have hq := IntWalk.wrap64_in _ (quo_fits (wrap64_range (a * b)) h1 h2)
    have hx : (wrap64 ((wrap64 (a * b)).tdiv b) != a) = true := by rw [hq]; simpa using hd
    have H := Lib.hid hf
    clear hf hm hd hq
    go_enter Try.func32, Try.ntmps32
    go_wp2_with fail
    go_ret2
    exact NumR.no H.out rfl rfl
end Go.Proofs.Ytjekhgekldkopaa
