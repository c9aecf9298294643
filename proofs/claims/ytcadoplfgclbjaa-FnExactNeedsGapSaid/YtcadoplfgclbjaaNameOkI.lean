
/- The contract of NameOk in the program. -/
import Derived.Test.YtcadoplfgclbjaaNameDef
namespace Go.Proofs.Ytcadoplfgclbjaa
open Go.RowKit

set_option maxHeartbeats 400000 in
theorem nameOk_impl (s : ByteArray) (w : World) (_hs : s.size ≤ 9223372036854775807) : Calls Try.prog 28 #[.string s] w (PureE (.bool (okLen s.size)) w) := by
  have hE : okLen s.size = (decide (1 ≤ (s.size : Int)) && decide ((s.size : Int) ≤ 20)) := rfl
  by_cases h0 : 1 ≤ (s.size : Int)
  · have d0 : decide (1 ≤ (s.size : Int)) = true := by simpa using h0
    by_cases h1 : (s.size : Int) ≤ 20
    · have d1 : decide ((s.size : Int) ≤ 20) = true := by simpa using h1
      rw [d0, d1] at hE
      have HE := Lib.hid hE; clear hE
      go_enter Try.func28, Try.ntmps28
      go_wp2
      go_ret
      exact pure_bool (by rw [HE.out]; rfl)
    · have d1 : decide ((s.size : Int) ≤ 20) = false := by simpa using h1
      rw [d0, d1] at hE
      have HE := Lib.hid hE; clear hE
      go_enter Try.func28, Try.ntmps28
      go_wp2
      go_ret
      exact pure_bool (by rw [HE.out]; rfl)
  · have d0 : decide (1 ≤ (s.size : Int)) = false := by simpa using h0
    rw [d0] at hE
    have HE := Lib.hid hE; clear hE
    go_enter Try.func28, Try.ntmps28
    go_wp2
    go_ret
    exact pure_bool (by rw [HE.out]; rfl)
end Go.Proofs.Ytcadoplfgclbjaa
