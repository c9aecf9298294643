
/- Contracts of NameText and QuoteText in the model. -/
import Derived.Test.YtelbcfipkanfkaaDoorTextDef
import Derived.Test.YtelbcfipkanfkaaDoorQuote
import Derived.Test.YtelbcfipkanfkaaDoorNameS
namespace Go.Proofs.YtelbcfipkanfkaaDoor
open Go.RowKit

theorem quoteText_spec (s : ByteArray) (w : World) (hs : s.size ≤ 1048576) :
    Calls Tryd.prog 10 #[.string s] w (StrE (quoted 39 s.data.toList) w) := by
  go_enter Tryd.func10, Tryd.ntmps10
  go_wp2_with fail
  refine (quote_spec 39 s _ hs).mono ?_
  rintro e w1 ⟨rfl, hb⟩
  go_wp2_with fail
  go_ret
  exact ⟨rfl, hb⟩
end Go.Proofs.YtelbcfipkanfkaaDoor
