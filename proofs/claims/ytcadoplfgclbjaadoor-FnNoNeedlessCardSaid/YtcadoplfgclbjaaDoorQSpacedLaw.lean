/- Joined texts: SpacedLaw. -/
import Derived.Test.YtcadoplfgclbjaaDoorQV
import Derived.Test.YtcadoplfgclbjaaDoorQT
import Derived.Test.YtcadoplfgclbjaaDoorQF
import Derived.Test.YtcadoplfgclbjaaDoorQG
/- The walks of the laws on Spaced and Loose, from the contracts of the program's functions. -/
namespace Go.Proofs.YtcadoplfgclbjaaDoor
open Go.RowKit

/-- what the program's function f is known to do: it writes the tokens with blanks -/
def JoinI (all : Bool) (F : Nat) : Prop := ∀ (B : Nat) (a : Option Addr) (n ca : Nat) (f : Nat → Int × ByteArray × Int) (w : World), TokSl w B a n f → n ≤ 1048576 → Hid (∀ j, j < n → (f j).2.1.size ≤ 9223372036854775807) → MaxI w →
    Calls Tryd.prog F #[.slice a n ca] w (StrE (joinL all n f) w)

set_option maxRecDepth 100000 in
set_option maxHeartbeats 4000000 in
theorem ex_spaced (hI : JoinI false 18) (a : Option Addr) (n ca : Nat) (f : Nat → Int × ByteArray × Int) (w : World) (ha : ArgSl w a n f) (hn : n ≤ 9223372036854775807) (hm : MaxI w) :
    Calls Tryd.prog 4 #[.slice a n ca] w (BoolE true w) := by
  have hlate : ∀ W, Below w.heap.size w W → MaxI W := fun W hb => hm.later hb hm.two
  have hf : Hid (∀ j, j < n → (f j).2.1.size ≤ 9223372036854775807) := fun j hj => by obtain ⟨_, _, _, _, _, _, _, hz⟩ := ha j hj; exact hz
  clear hm
  go_enter Tryd.func4, Tryd.ntmps4
  go_wp2_with fail
  refine (szTokenS_any a n ca f 1048576 _ ha (by omega) (by omega) hn).mono ?_
  rintro e w1 ⟨r1, rfl, hr1, hb1⟩
  rcases hr1 with hr1 | ⟨hr1, hr1', hn1⟩
  · have d : decide (r1 < 0) = true := by simpa using hr1
    go_wp2_with fail
    go_ret
    exact ⟨rfl, hb1⟩
  · have d : decide (r1 < 0) = false := by simpa using hr1
    have hS := fun B x cx w h => spaced_spec B x n cx f w h (by omega) hf
    have hI := fun B x cx w h => hI B x n cx f w h hn1 hf
    unfold StrE at hS hI
    generalize (⟨(joinL false n f).toArray⟩ : ByteArray) = U at hS hI
    have hU : (U.toList != U.toList) = false := by simp
    go_wp2_with fail
    refine (toTokenS_any a n ca f _ (ha.below hb1) hn1).mono ?_
    rintro e w3 ⟨g3, rfl, s3, hb3'⟩
    have hb3 := hb1.trans (hb3'.mono hb1.size)
    clear hb3'
    go_wp2_with fail
    refine (hS _ _ _ _ s3).mono ?_
    rintro e w5 ⟨rfl, hb5'⟩
    have hb5 := hb3.trans (hb5'.mono hb3.size)
    clear hb5' s3
    go_wp2_with fail
    refine (toTokenS_any a n ca f _ (ha.below hb5) hn1).mono ?_
    rintro e w6 ⟨g6, rfl, s6, hb6'⟩
    have hb6 := hb5.trans (hb6'.mono hb5.size)
    clear hb6'
    go_wp2_with fail
    refine (hI _ _ _ _ s6 (hlate _ hb6)).mono ?_
    rintro e w8 ⟨rfl, hb8'⟩
    have hb8 := hb6.trans (hb8'.mono hb6.size)
    replace s6 := s6.below hb8'
    clear hb8'
    go_wp2_with fail
    refine (toTokenS_any a n ca f _ (ha.below hb8) hn1).mono ?_
    rintro e w9 ⟨g9, rfl, s9, hb9'⟩
    have hb9 := hb8.trans (hb9'.mono hb8.size)
    replace s6 := s6.below hb9'
    clear hb9'
    go_wp2_with fail
    refine (eqToks_any _ _ _ _ n _ _ f _ s6 s9 (by omega)).mono ?_
    rintro e w10 ⟨rfl, hb10'⟩
    have hb10 := hb9.trans (hb10'.mono hb9.size)
    clear hb10' s6 s9
    go_wp2_with fail
    go_ret
    exact ⟨rfl, hb10⟩
set_option maxRecDepth 100000 in
set_option maxHeartbeats 4000000 in
theorem ex_loose (hI : JoinI true 21) (a : Option Addr) (n ca : Nat) (f : Nat → Int × ByteArray × Int) (w : World) (ha : ArgSl w a n f) (hn : n ≤ 9223372036854775807) (hm : MaxI w) :
    Calls Tryd.prog 5 #[.slice a n ca] w (BoolE true w) := by
  have hlate : ∀ W, Below w.heap.size w W → MaxI W := fun W hb => hm.later hb hm.two
  have hf : Hid (∀ j, j < n → (f j).2.1.size ≤ 9223372036854775807) := fun j hj => by obtain ⟨_, _, _, _, _, _, _, hz⟩ := ha j hj; exact hz
  clear hm
  go_enter Tryd.func5, Tryd.ntmps5
  go_wp2_with fail
  refine (szTokenS_any a n ca f 1048576 _ ha (by omega) (by omega) hn).mono ?_
  rintro e w1 ⟨r1, rfl, hr1, hb1⟩
  rcases hr1 with hr1 | ⟨hr1, hr1', hn1⟩
  · have d : decide (r1 < 0) = true := by simpa using hr1
    go_wp2_with fail
    go_ret
    exact ⟨rfl, hb1⟩
  · have d : decide (r1 < 0) = false := by simpa using hr1
    have hS := fun B x cx w h => loose_spec B x n cx f w h (by omega) hf
    have hI := fun B x cx w h => hI B x n cx f w h hn1 hf
    unfold StrE at hS hI
    generalize (⟨(joinL true n f).toArray⟩ : ByteArray) = U at hS hI
    have hU : (U.toList != U.toList) = false := by simp
    go_wp2_with fail
    refine (toTokenS_any a n ca f _ (ha.below hb1) hn1).mono ?_
    rintro e w3 ⟨g3, rfl, s3, hb3'⟩
    have hb3 := hb1.trans (hb3'.mono hb1.size)
    clear hb3'
    go_wp2_with fail
    refine (hS _ _ _ _ s3).mono ?_
    rintro e w5 ⟨rfl, hb5'⟩
    have hb5 := hb3.trans (hb5'.mono hb3.size)
    clear hb5' s3
    go_wp2_with fail
    refine (toTokenS_any a n ca f _ (ha.below hb5) hn1).mono ?_
    rintro e w6 ⟨g6, rfl, s6, hb6'⟩
    have hb6 := hb5.trans (hb6'.mono hb5.size)
    clear hb6'
    go_wp2_with fail
    refine (hI _ _ _ _ s6 (hlate _ hb6)).mono ?_
    rintro e w8 ⟨rfl, hb8'⟩
    have hb8 := hb6.trans (hb8'.mono hb6.size)
    replace s6 := s6.below hb8'
    clear hb8'
    go_wp2_with fail
    refine (toTokenS_any a n ca f _ (ha.below hb8) hn1).mono ?_
    rintro e w9 ⟨g9, rfl, s9, hb9'⟩
    have hb9 := hb8.trans (hb9'.mono hb8.size)
    replace s6 := s6.below hb9'
    clear hb9'
    go_wp2_with fail
    refine (eqToks_any _ _ _ _ n _ _ f _ s6 s9 (by omega)).mono ?_
    rintro e w10 ⟨rfl, hb10'⟩
    have hb10 := hb9.trans (hb10'.mono hb9.size)
    clear hb10' s6 s9
    go_wp2_with fail
    go_ret
    exact ⟨rfl, hb10⟩
end Go.Proofs.YtcadoplfgclbjaaDoor
