/- What the exact laws of NameText and QuoteText come to. -/
import Derived.Test.YtpehplmkhmpgmaaDoorTexts
namespace Go.Proofs.YtpehplmkhmpgmaaDoor
open Go.RowKit

set_option maxRecDepth 100000 in
set_option maxHeartbeats 400000 in
theorem ex_nameText (s : ByteArray) (w : World) (hs : s.size ≤ maxLen) (hm : MaxI w) : Calls Tryd.prog 3 #[.string s] w (BoolE true w) := by
  have hs2 : s.size ≤ 9223372036854775807 := hs
  by_cases hbig : 1048576 < s.size
  · have hd : decide (1048576 < (s.size : Int)) = true := by simp; omega
    go_enter Tryd.func3, Tryd.ntmps3
    go_wp2
    go_ret
    exact ⟨rfl, Below.refl _ _⟩
  · have hd : decide (1048576 < (s.size : Int)) = false := by simp; omega
    have hA := fun w => nameText_spec s w hs2
    have hB := fun w (hm : MaxI w) => nameText_impl s w hs2 hm
    unfold StrE at hA hB
    generalize (⟨(nameL s.data.toList).toArray⟩ : ByteArray) = S at hA hB
    go_enter Tryd.func3, Tryd.ntmps3
    go_wp2_with fail
    refine (hA _).mono ?_
    rintro e w1 ⟨rfl, hb1⟩
    have hm1 := hm.later hb1 hm.two
    go_wp2_with fail
    refine (hB _ hm1).mono ?_
    rintro e w2 ⟨rfl, hb2⟩
    go_wp2_with fail
    go_ret
    exact ⟨rfl, hb1.trans (hb2.mono hb1.size)⟩

set_option maxRecDepth 100000 in
set_option maxHeartbeats 400000 in
theorem ex_quoteText (s : ByteArray) (w : World) (hs : s.size ≤ maxLen) (hm : MaxI w) : Calls Tryd.prog 4 #[.string s] w (BoolE true w) := by
  have hs2 : s.size ≤ 9223372036854775807 := hs
  by_cases hbig : 1048576 < s.size
  · have hd : decide (1048576 < (s.size : Int)) = true := by simp; omega
    go_enter Tryd.func4, Tryd.ntmps4
    go_wp2
    go_ret
    exact ⟨rfl, Below.refl _ _⟩
  · have hd : decide (1048576 < (s.size : Int)) = false := by simp; omega
    have hA := fun w => quoteText_spec s w (by omega)
    have hB := fun w (hm : MaxI w) => quoteText_impl s w (by omega) hm
    unfold StrE at hA hB
    generalize (⟨(quoted 39 s.data.toList).toArray⟩ : ByteArray) = S at hA hB
    go_enter Tryd.func4, Tryd.ntmps4
    go_wp2_with fail
    refine (hA _).mono ?_
    rintro e w1 ⟨rfl, hb1⟩
    have hm1 := hm.later hb1 hm.two
    go_wp2_with fail
    refine (hB _ hm1).mono ?_
    rintro e w2 ⟨rfl, hb2⟩
    go_wp2_with fail
    go_ret
    exact ⟨rfl, hb1.trans (hb2.mono hb1.size)⟩
end Go.Proofs.YtpehplmkhmpgmaaDoor
