
/- The contract of at0: some number from 0 to 255. -/
import Derived.Test.YtjekhgekldkopaaRowB
namespace Go.Proofs.Ytjekhgekldkopaa
open Go.RowKit

theorem at0_any (i : Nat) (B : Nat) (a : Option Addr) (len cap : Nat) (W : World) (H : RowB B a len W) (hi : i ≤ 1000000000) (hlen : len ≤ 1048576) :
    Calls Try.prog 22 #[.slice a len cap, .int .i64 (i : Int)] W fun e W' => ∃ x : Nat, x ≤ 255 ∧ e = .returned (.int .i64 (x : Int)) ∧ W = W' := by
  by_cases hlt : i < len
  · obtain ⟨b, off, n, rfl, e2, e3, e4, e5⟩ := H.2 i hlt
    go_enter Try.func22, Try.ntmps22
    go_wp2_with fail
    go_ret
    exact ⟨n.toNat, by omega, ret_i64 (by omega), rfl⟩
  · go_enter Try.func22, Try.ntmps22
    go_wp2_with fail
    go_ret
    exact ⟨(i * 7 + len) % 256, by omega, ret_i64 (by omega), rfl⟩
end Go.Proofs.Ytjekhgekldkopaa
