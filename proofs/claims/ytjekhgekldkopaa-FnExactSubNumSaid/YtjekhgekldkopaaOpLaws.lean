
/- The walks of the exact laws on sums, differences and products. -/
import Derived.Test.YtjekhgekldkopaaOpNum
namespace Go.Proofs.Ytjekhgekldkopaa
open Go.RowKit

set_option maxRecDepth 100000 in
set_option maxHeartbeats 1000000 in
theorem ex_addNum (a b : Int) (w : World) (ha0 : -9223372036854775808 ≤ a) (ha1 : a ≤ 9223372036854775807) (hb0 : -9223372036854775808 ≤ b) (hb1 : b ≤ 9223372036854775807) : Calls Try.prog 8 #[.int .i64 a, .int .i64 b] w (BoolE true w) := by
  have hS := fun w => addNum_spec a b w ha0 ha1 hb0 hb1
  have hI := fun w => addNum_impl a b w ha0 ha1 hb0 hb1
  unfold NumR at hS hI
  generalize outI (a + b) = x at hS hI
  generalize fits (a + b) = c at hS hI
  go_enter Try.func8, Try.ntmps8
  go_wp2_with fail
  refine (hS _).mono ?_
  rintro e w1 ⟨rfl, rfl⟩
  go_wp2_with fail
  refine (hI _).mono ?_
  rintro e w1 ⟨rfl, rfl⟩
  have hc : (c != c) = false := by cases c <;> rfl
  go_wp2_with fail
  go_ret
  exact ⟨rfl, Below.refl _ _⟩
set_option maxRecDepth 100000 in
set_option maxHeartbeats 1000000 in
theorem ex_subNum (a b : Int) (w : World) (ha0 : -9223372036854775808 ≤ a) (ha1 : a ≤ 9223372036854775807) (hb0 : -9223372036854775808 ≤ b) (hb1 : b ≤ 9223372036854775807) : Calls Try.prog 9 #[.int .i64 a, .int .i64 b] w (BoolE true w) := by
  have hS := fun w => subNum_spec a b w ha0 ha1 hb0 hb1
  have hI := fun w => subNum_impl a b w ha0 ha1 hb0 hb1
  unfold NumR at hS hI
  generalize outI (a - b) = x at hS hI
  generalize fits (a - b) = c at hS hI
  go_enter Try.func9, Try.ntmps9
  go_wp2_with fail
  refine (hS _).mono ?_
  rintro e w1 ⟨rfl, rfl⟩
  go_wp2_with fail
  refine (hI _).mono ?_
  rintro e w1 ⟨rfl, rfl⟩
  have hc : (c != c) = false := by cases c <;> rfl
  go_wp2_with fail
  go_ret
  exact ⟨rfl, Below.refl _ _⟩
set_option maxRecDepth 100000 in
set_option maxHeartbeats 1000000 in
theorem ex_mulNum (a b : Int) (w : World) (ha0 : -9223372036854775808 ≤ a) (ha1 : a ≤ 9223372036854775807) (hb0 : -9223372036854775808 ≤ b) (hb1 : b ≤ 9223372036854775807) : Calls Try.prog 10 #[.int .i64 a, .int .i64 b] w (BoolE true w) := by
  have hS := fun w => mulNum_spec a b w ha0 ha1 hb0 hb1
  have hI := fun w => mulNum_impl a b w ha0 ha1 hb0 hb1
  unfold NumR at hS hI
  generalize outI (a * b) = x at hS hI
  generalize fits (a * b) = c at hS hI
  go_enter Try.func10, Try.ntmps10
  go_wp2_with fail
  refine (hS _).mono ?_
  rintro e w1 ⟨rfl, rfl⟩
  go_wp2_with fail
  refine (hI _).mono ?_
  rintro e w1 ⟨rfl, rfl⟩
  have hc : (c != c) = false := by cases c <;> rfl
  go_wp2_with fail
  go_ret
  exact ⟨rfl, Below.refl _ _⟩
end Go.Proofs.Ytjekhgekldkopaa
