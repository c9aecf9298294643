
/- Contracts of NameText and QuoteText in the program. -/
import Derived.Test.YtodgigdcdgdfdaaDoorTextDef
import Derived.Test.YtodgigdcdgdfdaaDoorEnclosed
import Derived.Test.YtodgigdcdgdfdaaDoorNameI
namespace Go.Proofs.YtodgigdcdgdfdaaDoor
open Go.RowKit

set_option maxRecDepth 100000 in
set_option maxHeartbeats 800000 in
theorem nameText_impl (s : ByteArray) (w : World) (hs : s.size ≤ 9223372036854775807) (hm : MaxI w) :
    Calls Tryd.prog 11 #[.string s] w (StrE (nameL s.data.toList) w) := by
  have hN := fun w => nameOk_impl s w hs
  have hP := fun w => plain_impl s w hs
  have hL : nameL s.data.toList = (if okLen s.size then (if plainB s.data.toList then s.data.toList else quoted 34 s.data.toList) else []) := rfl
  cases h1 : okLen s.size
  · rw [h1] at hN hL
    have HL := Lib.hid (show nameL s.data.toList = [] from hL); clear hL hP h1
    go_enter Tryd.func11, Tryd.ntmps11
    go_wp2_with fail
    refine (hN _).mono ?_
    rintro e w1 ⟨rfl, rfl⟩
    go_wp2_with fail
    go_ret
    exact ⟨ret_str HL.out.symm, Below.refl _ _⟩
  · have hs3 : s.size ≤ 1048576 := by unfold okLen at h1; simp at h1; omega
    rw [h1] at hN hL
    clear h1
    cases h2 : plainB s.data.toList
    · rw [h2] at hP hL
      have HL := Lib.hid (show nameL s.data.toList = quoted 34 s.data.toList from hL); clear hL h2
      go_enter Tryd.func11, Tryd.ntmps11
      go_wp2_with fail
      refine (hN _).mono ?_
      rintro e w1 ⟨rfl, rfl⟩
      go_wp2_with fail
      refine (hP _).mono ?_
      rintro e w2 ⟨rfl, hb⟩
      have hm1 := hm.later hb hm.two
      clear hN hP
      go_wp2_with fail
      refine (enclosed_impl 34 s _ hs3 hm1).mono ?_
      rintro e w3 ⟨rfl, hb2⟩
      go_wp2_with fail
      go_ret
      exact ⟨ret_str HL.out.symm, hb.trans (hb2.mono hb.size)⟩
    · rw [h2] at hP hL
      have HL := Lib.hid (show nameL s.data.toList = s.data.toList from hL); clear hL h2
      go_enter Tryd.func11, Tryd.ntmps11
      go_wp2_with fail
      refine (hN _).mono ?_
      rintro e w1 ⟨rfl, rfl⟩
      go_wp2_with fail
      refine (hP _).mono ?_
      rintro e w2 ⟨rfl, hb⟩
      clear hN hP
      go_wp2_with fail
      go_ret
      exact ⟨ret_ba' HL.out, hb⟩

theorem quoteText_impl (s : ByteArray) (w : World) (hs : s.size ≤ 1048576) (hm : MaxI w) :
    Calls Tryd.prog 17 #[.string s] w (StrE (quoted 39 s.data.toList) w) := by
  go_enter Tryd.func17, Tryd.ntmps17
  go_wp2_with fail
  refine (enclosed_impl 39 s _ hs hm).mono ?_
  rintro e w1 ⟨rfl, hb⟩
  go_wp2_with fail
  go_ret
  exact ⟨rfl, hb⟩
end Go.Proofs.YtodgigdcdgdfdaaDoor
