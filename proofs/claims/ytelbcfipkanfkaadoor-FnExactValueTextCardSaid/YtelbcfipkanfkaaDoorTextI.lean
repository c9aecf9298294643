
/- Contracts of NameText and QuoteText in the program. -/
import Derived.Test.YtelbcfipkanfkaaDoorTextDef
import Derived.Test.YtelbcfipkanfkaaDoorEnclosed
import Derived.Test.YtelbcfipkanfkaaDoorNameI
namespace Go.Proofs.YtelbcfipkanfkaaDoor
open Go.RowKit

theorem quoteText_impl (s : ByteArray) (w : World) (hs : s.size ≤ 1048576) (hm : MaxI w) :
    Calls Tryd.prog 13 #[.string s] w (StrE (quoted 39 s.data.toList) w) := by
  go_enter Tryd.func13, Tryd.ntmps13
  go_wp2_with fail
  refine (enclosed_impl 39 s _ hs hm).mono ?_
  rintro e w1 ⟨rfl, hb⟩
  go_wp2_with fail
  go_ret
  exact ⟨rfl, hb⟩
end Go.Proofs.YtelbcfipkanfkaaDoor
