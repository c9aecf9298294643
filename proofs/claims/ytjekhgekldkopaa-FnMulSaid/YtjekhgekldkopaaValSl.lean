
/- The laws' comparison of slices of values. -/
import Derived.Test.YtjekhgekldkopaaValSlDef
import Derived.Deep.RegionWith
namespace Go.Proofs.Ytjekhgekldkopaa
open Go.RowKit

set_option maxRecDepth 100000 in
set_option maxHeartbeats 400000 in
theorem eqValue_yes (k a : Int) (t : ByteArray) (w : World) :
    Calls Try.prog 35 #[.agg #[.int .i64 k, .int .i64 a, .string t], .agg #[.int .i64 k, .int .i64 a, .string t]] w (BoolE true w) := by
  go_enter Try.func35, Try.ntmps35
  go_wp2_with fail
  go_ret
  exact ⟨rfl, ((Below.refl _ _).alloc (Nat.le_refl _) _).alloc (by simp) _⟩

end Go.Proofs.Ytjekhgekldkopaa
