
/- Contracts of the tests on plain names in the program. -/
import Derived.Test.YtcadoplfgclbjaaNameOkI
import Derived.Test.YtcadoplfgclbjaaKeyOf
namespace Go.Proofs.Ytcadoplfgclbjaa
open Go.RowKit

set_option maxHeartbeats 400000 in
theorem isWordByte_any (n : Int) (w : World) : Calls Try.prog 36 #[.int .u8 n] w (PureE (.bool (wd n)) w) := by
  have hL := isLetter_any n w
  have hD := isDigit_any n w
  have hE : wd n = (ltr n || dg n || n == 95) := rfl
  go_enter Try.func36, Try.ntmps36
  go_wp2_with fail
  refine hL.mono ?_
  rintro e w1 ⟨rfl, rfl⟩
  clear hL
  cases h1 : ltr n
  · rw [h1] at hE
    go_wp2_with fail
    refine hD.mono ?_
    rintro e w2 ⟨rfl, rfl⟩
    clear hD
    cases h2 : dg n
    · rw [h2] at hE
      by_cases h3 : n = 95
      · have d3 : (n == 95) = true := by simpa using h3
        rw [d3] at hE
        have HE := Lib.hid hE; clear hE h3
        go_wp2_with fail
        go_ret
        exact pure_bool (by rw [HE.out]; rfl)
      · have d3 : (n == 95) = false := by simpa using h3
        rw [d3] at hE
        have HE := Lib.hid hE; clear hE h3
        go_wp2_with fail
        go_ret
        exact pure_bool (by rw [HE.out]; rfl)
    · rw [h2] at hE
      have HE := Lib.hid hE; clear hE
      go_wp2_with fail
      go_ret
      exact pure_bool (by rw [HE.out]; rfl)
  · rw [h1] at hE
    have HE := Lib.hid hE; clear hE
    go_wp2_with fail
    go_ret
    exact pure_bool (by rw [HE.out]; rfl)

set_option maxRecDepth 100000 in
set_option maxHeartbeats 400000 in
theorem allWord_impl (s : ByteArray) (w : World) (hs : s.size ≤ 9223372036854775807) :
    Calls Try.prog 32 #[.string s] w (PureE (.bool (allWd s.data.toList)) w) := by
  go_enter Try.func32, Try.ntmps32
  go_wp2
  go_loopw [6] (fun i wr => ∃ k : Nat, k ≤ s.size ∧ i = .int .i64 (k : Int) ∧ Hid (∀ j, j < k → wd ((s.data.toList.getD j 0).toNat : Int) = true) ∧ wr = w) (fun i _ => s.size - (intOf i).toNat)
  case atStart => exact ⟨0, by omega, rfl, fun j hj => by omega, rfl⟩
  case round =>
    obtain ⟨k, hk, rfl, HW, rfl⟩ := hrel
    by_cases hlt : k < s.size
    · have hlt2 : (k : Int) < (s.size : Int) := by omega
      cases h1 : wd ((s.data.toList.getD k 0).toNat : Int)
      · have hf := allWd_false (l := s.data.toList) (k := k) hlt h1
        go_wp2_with fail
        refine (isWordByte_any _ _).mono ?_
        rintro e w1 ⟨rfl, rfl⟩
        rw [str_at hlt, h1]
        have HF := Lib.hid hf; clear hf h1
        go_wp2_with fail
        go_ret
        exact pure_bool HF.out.symm
      · go_wp2_with fail
        refine (isWordByte_any _ _).mono ?_
        rintro e w1 ⟨rfl, rfl⟩
        rw [str_at hlt, h1]
        have HW2 : Hid (∀ j, j < k + 1 → wd ((s.data.toList.getD j 0).toNat : Int) = true) := fun j hj => by
          by_cases e : j = k
          · subst e; exact h1
          · exact HW.out j (by omega)
        clear h1
        go_wp2_with fail
        go_roundw
        case rel => exact ⟨k + 1, by omega, by go_num, HW2, trivial⟩
        case measure => simp [intOf]; omega
    · have e : k = s.size := by omega
      subst e
      go_wp2_with fail
      go_ret
      exact pure_bool (allWd_true HW.out).symm

set_option maxRecDepth 100000 in
set_option maxHeartbeats 400000 in
theorem plain_impl (s : ByteArray) (w : World) (hs : s.size ≤ 9223372036854775807) : Calls Try.prog 20 #[.string s] w (BoolE (plainB s.data.toList) w) := by
  have hE : plainB s.data.toList = (okLen s.size && !dg ((s.data.toList.getD 0 0).toNat : Int) && allWd s.data.toList && decide (numOf (upL s.data.toList) = 0)) := rfl
  have hN := fun w => nameOk_impl s w hs
  go_enter Try.func20, Try.ntmps20
  go_wp2_with fail
  refine (hN _).mono ?_
  rintro e w1 ⟨rfl, rfl⟩
  clear hN
  cases h1 : okLen s.size
  · rw [h1] at hE
    have HE := Lib.hid hE; clear hE h1
    go_wp2_with fail
    go_ret
    exact ⟨by rw [HE.out]; rfl, Below.refl _ _⟩
  · have h0 : 0 < s.size := by unfold okLen at h1; simp at h1; omega
    have h0i : (0 : Int) < (s.size : Int) := by omega
    cases h2 : dg ((s.data.toList.getD 0 0).toNat : Int)
    · rw [h1, h2] at hE
      clear h1
      go_wp2_with fail
      refine (isDigit_any _ _).mono ?_
      rintro e w1 ⟨rfl, rfl⟩
      rw [str_at h0, h2]
      clear h2
      go_wp2_with fail
      refine (allWord_impl s _ hs).mono ?_
      rintro e w1 ⟨rfl, rfl⟩
      cases h3 : allWd s.data.toList
      · rw [h3] at hE
        have HE := Lib.hid hE; clear hE h3
        go_wp2_with fail
        go_ret
        exact ⟨by rw [HE.out]; rfl, Below.refl _ _⟩
      · rw [h3] at hE
        clear h3
        have hk := fun w => keyOf_impl s w hs
        cases h4 : decide (numOf (upL s.data.toList) = 0)
        · rw [h4] at hE
          have h5 : ((numOf (upL s.data.toList) : Int) == 0) = false := by simp at h4 ⊢; omega
          generalize (numOf (upL s.data.toList) : Int) = N at hk h5
          have HE := Lib.hid hE; clear hE h4
          go_wp2_with fail
          refine (hk _).mono ?_
          rintro e w2 ⟨rfl, hb⟩
          go_wp2_with fail
          go_ret
          exact ⟨by rw [HE.out]; rfl, hb⟩
        · rw [h4] at hE
          have h5 : ((numOf (upL s.data.toList) : Int) == 0) = true := by simp at h4 ⊢; omega
          generalize (numOf (upL s.data.toList) : Int) = N at hk h5
          have HE := Lib.hid hE; clear hE h4
          go_wp2_with fail
          refine (hk _).mono ?_
          rintro e w2 ⟨rfl, hb⟩
          go_wp2_with fail
          go_ret
          exact ⟨by rw [HE.out]; rfl, hb⟩
    · rw [h1, h2] at hE
      clear h1
      have HE := Lib.hid hE; clear hE
      go_wp2_with fail
      refine (isDigit_any _ _).mono ?_
      rintro e w1 ⟨rfl, rfl⟩
      rw [str_at h0, h2]
      clear h2
      go_wp2_with fail
      go_ret
      exact ⟨by rw [HE.out]; rfl, Below.refl _ _⟩
end Go.Proofs.Ytcadoplfgclbjaa
