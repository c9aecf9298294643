/- Joined texts: NameS. -/
import Derived.Test.YtkacelpndeoogaaQPC
import Derived.Test.YtkacelpndeoogaaQPL
/- Contracts of the tests on names in the model. -/
namespace Go.Proofs.Ytkacelpndeoogaa
open Go.RowKit

theorem nameOk_spec (s : ByteArray) (w : World) (_hs : s.size ≤ 9223372036854775807) : Calls Try.prog 166 #[.string s] w (PureE (.bool (okLen s.size)) w) := by
  have hin := fun w => in_any (s.size : Int) 1 20 (okLen s.size) w (by unfold okLen; rw [Bool.decide_and])
  go_enter Try.func166, Try.ntmps166
  go_wp2_with fail
  refine (hin _).mono ?_
  rintro e w1 ⟨rfl, rfl⟩
  go_wp2_with fail
  go_ret
  exact pure_bool rfl

end Go.Proofs.Ytkacelpndeoogaa
