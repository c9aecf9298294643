/- Joined texts: SqueezeL. -/
import Derived.Test.YtcadoplfgclbjaaGreatDoorQL
import Derived.Test.YtcadoplfgclbjaaGreatDoorQSqzLaw
import Derived.Test.YtcadoplfgclbjaaGreatDoorQM
/- The walk of the law FnSqueeze, from the contract of the program's function. -/
namespace Go.Proofs.YtcadoplfgclbjaaGreatDoor
open Go.RowKit

set_option maxRecDepth 100000 in
set_option maxHeartbeats 400000 in
theorem drawSqueeze_any (B : Nat) (a : Option Addr) (len cap : Nat) (W : World) (H : RowB B a len W) (hB : B ≤ W.heap.size) :
    Calls Tryz.prog 13 #[.slice a len cap] W (StringE 4000 B W) := by
  go_enter Tryz.func13, Tryz.ntmps13
  go_wp2_with fail
  refine (new_any B a len cap _ H hB).mono ?_
  rintro e W1 ⟨rfl, hc, hb⟩
  have hz := hb.size
  go_wp2_with fail
  refine (source_any B W.heap.size a len cap _ hc).mono ?_
  rintro e W2 ⟨S, hS, rfl, hc2, hg2⟩
  have hbb := below_of_grown hb hg2 (by omega) (by omega)
  go_wp2_with fail
  go_ret
  exact ⟨S, hS, rfl, hbb⟩

set_option maxRecDepth 100000 in
set_option maxHeartbeats 4000000 in
theorem squeeze_law (hI : SqzI) (a : Option Addr) (len cap : Nat) (w : World) (hrow : RowB w.heap.size a len w) (hm : MaxI w) :
    Calls Tryz.prog 4 #[.slice a len cap] w (BoolE true w) := by
  have hlen := hrow.1
  by_cases hbig : 1048576 < len
  · go_enter Tryz.func4, Tryz.ntmps4
    go_wp2_with fail
    refine (big_yes a len cap _ hlen hbig).mono ?_
    rintro e w' ⟨rfl, rfl⟩
    go_wp2_with fail
    go_ret
    exact ⟨rfl, Below.refl _ _⟩
  · have hlate : ∀ W, Below w.heap.size w W → MaxI W := fun W hb => hm.later hb hm.two
    clear hm
    go_enter Tryz.func4, Tryz.ntmps4
    go_wp2_with fail
    refine (big_no a len cap _ hbig).mono ?_
    rintro e w' ⟨rfl, rfl⟩
    go_wp2_with fail
    refine (drawSqueeze_any w.heap.size a len cap _ hrow (Nat.le_refl _)).mono ?_
    rintro e w1 ⟨S, hS, rfl, hb1⟩
    have hI1 := fun w => hI S w (by omega)
    have hS1 := fun w => squeeze_spec S w (by omega)
    have hlaw := @sqz_law S.data.toList
    rcases hr : lexR S.data.toList with p | L
    · have hE : sqR (lexR S.data.toList) = ([], (p : Int)) := by rw [hr]; rfl
      rw [hE] at hI1 hS1
      unfold SqzE at hI1 hS1
      simp only [] at hI1 hS1
      have d0 : decide ((0 : Int) ≤ (p : Int)) = true := by simp
      have d1 : (((⟨#[]⟩ : ByteArray)).toList == []) = true := by rw [beq_lit]; rfl
      clear hlaw hr hE hI
      go_wp2_with fail
      refine (hI1 _ (hlate _ hb1)).mono ?_
      rintro e w2 ⟨rfl, hb2'⟩
      have hb2 := hb1.trans (hb2'.mono hb1.size)
      clear hI1
      go_wp2_with fail
      refine (hS1 _).mono ?_
      rintro e w3 ⟨rfl, hb3'⟩
      have hb3 := hb2.trans (hb3'.mono hb2.size)
      clear hS1
      go_wp2_with fail
      go_ret
      exact ⟨rfl, hb3⟩
    · obtain ⟨t, L', h1, h2, h3, h4⟩ := hlaw hr
      rw [h1] at hI1 hS1
      obtain ⟨T, hT⟩ : ∃ T : ByteArray, T = ⟨t.toArray⟩ := ⟨_, rfl⟩
      have hTl : T.data.toList = t := by rw [hT]
      have hTz : T.size ≤ S.size := by show T.data.toList.length ≤ S.data.toList.length; rw [hTl]; exact h4
      have hI2 := fun w => hI T w (by omega)
      rw [hTl, h3] at hI2
      unfold SqzE at hI1 hS1 hI2
      simp only [] at hI1 hS1 hI2
      rw [← hT] at hI1 hS1 hI2
      have hTT : (T.toList == T.toList) = true := by simp
      have dz : decide ((T.size : Int) ≤ (S.size : Int) + 20) = true := by simp; omega
      have dz2 : decide (T.size ≤ S.size + 20) = true := by simp; omega
      clear hI h1 h2 h3 h4 hTl hT hr
      go_wp2_with fail
      refine (hI1 _ (hlate _ hb1)).mono ?_
      rintro e w2 ⟨rfl, hb2'⟩
      have hb2 := hb1.trans (hb2'.mono hb1.size)
      clear hI1
      go_wp2_with fail
      refine (hS1 _).mono ?_
      rintro e w3 ⟨rfl, hb3'⟩
      have hb3 := hb2.trans (hb3'.mono hb2.size)
      clear hS1
      go_wp2_with fail
      refine (hI2 _ (hlate _ hb3)).mono ?_
      rintro e w4 ⟨rfl, hb4'⟩
      have hb4 := hb3.trans (hb4'.mono hb3.size)
      clear hI2
      go_wp2_with fail
      go_ret
      exact ⟨rfl, hb4⟩
end Go.Proofs.YtcadoplfgclbjaaGreatDoor
