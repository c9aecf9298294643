/- Contracts of the number functions Zig and Unzig: what they return at every argument. -/
import Derived.Test.YtojafonpfcpmjaaProg
import Derived.WalkKit
import Derived.ProofKit
import Derived.Lib.Hide
namespace Go.Proofs.Ytojafonpfcpmjaa
open Go.RowKit

/-- the code number of an integer -/
def zigV (n : Int) : Int := if 0 ≤ n then 2 * n else 2 * -(n + 1) + 1

/-- the integer of a code number -/
def unzigV (u : Int) : Int := if u % 2 = 0 then u / 2 else -(u / 2) - 1

theorem ret_u64 {a b : Int} (h : a = b) : Ending.returned (.int .u64 a) = .returned (.int .u64 b) := by rw [h]
theorem ret_i64 {a b : Int} (h : a = b) : Ending.returned (.int .i64 a) = .returned (.int .i64 b) := by rw [h]

theorem i64_bds {n : Int} (h : (Lit.int .i64 n).wf = true) : -9223372036854775808 ≤ n ∧ n ≤ 9223372036854775807 := by
  simp [Lit.wf, IntKind.min, IntKind.max, IntKind.signed, IntKind.bits] at h; omega
theorem u64_bds {n : Int} (h : (Lit.int .u64 n).wf = true) : 0 ≤ n ∧ n ≤ 18446744073709551615 := by
  simp [Lit.wf, IntKind.min, IntKind.max, IntKind.signed, IntKind.bits] at h; omega
theorem u8_bds {n : Int} (h : (Lit.int .u8 n).wf = true) : 0 ≤ n ∧ n ≤ 255 := by
  simp [Lit.wf, IntKind.min, IntKind.max, IntKind.signed, IntKind.bits] at h; omega

theorem zig_impl (n : Int) (w : World) (h0 : -9223372036854775808 ≤ n) (h1 : n ≤ 9223372036854775807) :
    Calls Try.prog 14 #[.int .i64 n] w fun e w' => e = .returned (.int .u64 (zigV n)) ∧ w = w' := by
  by_cases hn : 0 ≤ n
  · go_enter Try.func14, Try.ntmps14
    go_wp2
    go_ret
    exact ⟨ret_u64 (by rw [zigV, if_pos hn]), rfl⟩
  · go_enter Try.func14, Try.ntmps14
    go_wp2
    go_ret
    exact ⟨ret_u64 (by rw [zigV, if_neg (by omega)]), rfl⟩

theorem zig_spec (n : Int) (w : World) (h0 : -9223372036854775808 ≤ n) (h1 : n ≤ 9223372036854775807) :
    Calls Try.prog 16 #[.int .i64 n] w fun e w' => e = .returned (.int .u64 (zigV n)) ∧ w = w' := by
  by_cases hn : 0 ≤ n
  · go_enter Try.func16, Try.ntmps16
    go_wp2
    go_ret
    exact ⟨ret_u64 (by rw [zigV, if_pos hn]), rfl⟩
  · go_enter Try.func16, Try.ntmps16
    go_wp2
    go_ret
    exact ⟨ret_u64 (by rw [zigV, if_neg (by omega)]), rfl⟩

theorem unzig_impl (u : Int) (w : World) (h0 : 0 ≤ u) (h1 : u ≤ 18446744073709551615) :
    Calls Try.prog 15 #[.int .u64 u] w fun e w' => e = .returned (.int .i64 (unzigV u)) ∧ w = w' := by
  by_cases hn : u % 2 = 0
  · have hb : (u % 2 == 0) = true := by simpa using hn
    have HN := Lib.hid hn; clear hn
    go_enter Try.func15, Try.ntmps15
    go_wp2
    go_ret
    exact ⟨ret_i64 (by rw [unzigV, if_pos HN.out]), rfl⟩
  · have hb : (u % 2 == 0) = false := by simpa using hn
    have HN := Lib.hid hn; clear hn
    go_enter Try.func15, Try.ntmps15
    go_wp2
    go_ret
    exact ⟨ret_i64 (by rw [unzigV, if_neg HN.out]), rfl⟩

theorem unzig_spec (u : Int) (w : World) (h0 : 0 ≤ u) (h1 : u ≤ 18446744073709551615) :
    Calls Try.prog 26 #[.int .u64 u] w fun e w' => e = .returned (.int .i64 (unzigV u)) ∧ w = w' := by
  by_cases hn : u % 2 = 0
  · have hb : (u % 2 == 1) = false := by simp; omega
    have HN := Lib.hid hn; clear hn
    go_enter Try.func26, Try.ntmps26
    go_wp2
    go_ret
    exact ⟨ret_i64 (by rw [unzigV, if_pos HN.out]), rfl⟩
  · have hb : (u % 2 == 1) = true := by simp; omega
    have HN := Lib.hid hn; clear hn
    go_enter Try.func26, Try.ntmps26
    go_wp2
    go_ret
    exact ⟨ret_i64 (by rw [unzigV, if_neg HN.out]), rfl⟩
end Go.Proofs.Ytojafonpfcpmjaa
