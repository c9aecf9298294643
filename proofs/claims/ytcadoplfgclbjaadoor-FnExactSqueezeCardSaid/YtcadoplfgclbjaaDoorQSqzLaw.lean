/- Joined texts: SqzLaw. -/
import Derived.Test.YtcadoplfgclbjaaDoorQT
import Derived.Test.YtcadoplfgclbjaaDoorQG
/- The walk of the law on Squeeze, from the contract of the program's function. -/
namespace Go.Proofs.YtcadoplfgclbjaaDoor
open Go.RowKit

/-- what the program's Squeeze is known to do -/
def SqzI : Prop := ∀ (s : ByteArray) (w : World), s.size ≤ 9223372036854775807 → MaxI w → Calls Tryd.prog 23 #[.string s] w (SqzE (sqR (lexR s.data.toList)) w)

set_option maxRecDepth 100000 in
set_option maxHeartbeats 1600000 in
theorem ex_squeeze (hI : SqzI) (s : ByteArray) (w : World) (hs : s.size ≤ maxLen) (hm : MaxI w) :
    Calls Tryd.prog 6 #[.string s] w (BoolE true w) := by
  have hs2 : s.size ≤ 9223372036854775807 := hs
  by_cases hbig : 1048576 < s.size
  · have d : decide ((1048576 : Int) < (s.size : Int)) = true := by simp; omega
    go_enter Tryd.func6, Tryd.ntmps6
    go_wp2_with fail
    go_ret
    exact ⟨rfl, Below.refl _ _⟩
  · have d : decide ((1048576 : Int) < (s.size : Int)) = false := by simp; omega
    have hS := fun w => squeeze_spec s w hs2
    have hI := fun w => hI s w hs2
    have hlate : ∀ W, Below w.heap.size w W → MaxI W := fun W hb => hm.later hb hm.two
    clear hm
    generalize sqR (lexR s.data.toList) = r at hS hI
    obtain ⟨l, x⟩ := r
    unfold SqzE at hS hI
    simp only [] at hS hI
    generalize (⟨l.toArray⟩ : ByteArray) = U at hS hI
    have hU : (U.toList != U.toList) = false := by simp
    have hX : (x != x) = false := by simp
    go_enter Tryd.func6, Tryd.ntmps6
    go_wp2_with fail
    refine (hS _).mono ?_
    rintro e w1 ⟨rfl, hb1⟩
    go_wp2_with fail
    refine (hI _ (hlate _ hb1)).mono ?_
    rintro e w2 ⟨rfl, hb2⟩
    have hb := hb1.trans (hb2.mono hb1.size)
    go_wp2_with fail
    go_ret
    exact ⟨rfl, hb⟩
end Go.Proofs.YtcadoplfgclbjaaDoor
