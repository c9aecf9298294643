/- Joined texts: KeyOf NameS. -/
import Derived.Test.YtcliijfdlcagoaaGreatQZAV
import Derived.Test.YtcliijfdlcagoaaGreatQZAB
namespace Go.Proofs.YtcliijfdlcagoaaGreat
set_option linter.unusedVariables false
set_option linter.unusedSimpArgs false
open Go.RowKit Go.Maps
open Go.RowKit
theorem nameOk_spec (s : ByteArray) (w : World) (_hs : s.size ≤ 9223372036854775807) : Calls Tryz.prog 34 #[.string s] w (PureE (.bool (okLen s.size)) w) := by
  have hin := fun w => in_any (s.size : Int) 1 20 (okLen s.size) w (by unfold okLen; rw [Bool.decide_and])
  go_enter Tryz.func34, Tryz.ntmps34
  go_wp2_with fail
  refine (hin _).mono ?_
  rintro e w1 ⟨rfl, rfl⟩
  go_wp2_with fail
  go_ret
  exact pure_bool rfl
end Go.Proofs.YtcliijfdlcagoaaGreat
