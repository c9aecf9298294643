
/- Contracts of the tests on names in the model. -/
import Derived.Test.YtcadoplfgclbjaaNameDef
import Derived.Test.YtcadoplfgclbjaaKeyOf
namespace Go.Proofs.Ytcadoplfgclbjaa
open Go.RowKit

theorem nameOk_spec (s : ByteArray) (w : World) (_hs : s.size ≤ 9223372036854775807) : Calls Try.prog 15 #[.string s] w (PureE (.bool (okLen s.size)) w) := by
  have hin := fun w => in_any (s.size : Int) 1 20 (okLen s.size) w (by unfold okLen; rw [Bool.decide_and])
  go_enter Try.func15, Try.ntmps15
  go_wp2_with fail
  refine (hin _).mono ?_
  rintro e w1 ⟨rfl, rfl⟩
  go_wp2_with fail
  go_ret
  exact pure_bool rfl

set_option maxRecDepth 100000 in
set_option maxHeartbeats 400000 in
theorem plain_spec (s : ByteArray) (w : World) (hs : s.size ≤ 9223372036854775807) : Calls Try.prog 18 #[.string s] w (BoolE (plainB s.data.toList) w) := by
  have hE : plainB s.data.toList = (okLen s.size && !dg ((s.data.toList.getD 0 0).toNat : Int) && allWd s.data.toList && decide (numOf (upL s.data.toList) = 0)) := rfl
  have hN := fun w => nameOk_spec s w hs
  go_enter Try.func18, Try.ntmps18
  go_wp2_with fail
  refine (hN _).mono ?_
  rintro e w1 ⟨rfl, rfl⟩
  clear hN
  cases h1 : okLen s.size
  · rw [h1] at hE
    have HE := Lib.hid hE; clear hE h1
    go_wp2_with fail
    go_ret
    exact ⟨by rw [HE.out]; rfl, Below.refl _ _⟩
  · have h0 : 0 < s.size := by unfold okLen at h1; simp at h1; omega
    have h0i : (0 : Int) < (s.size : Int) := by omega
    cases h2 : dg ((s.data.toList.getD 0 0).toNat : Int)
    · rw [h1, h2] at hE
      clear h1
      go_wp2_with fail
      refine (l2Figure_any _ _).mono ?_
      rintro e w1 ⟨rfl, rfl⟩
      rw [str_at h0, h2]
      clear h2
      have hk := fun w => keyOf_spec s w hs
      cases h4 : decide (numOf (upL s.data.toList) = 0)
      · rw [h4] at hE
        have h5 : decide (0 < (numOf (upL s.data.toList) : Int)) = true := by simp at h4 ⊢; omega
        generalize (numOf (upL s.data.toList) : Int) = N at hk h5
        have hE2 : plainB s.data.toList = false := by rw [hE]; simp
        have HE := Lib.hid hE2; clear hE hE2 h4
        go_wp2_with fail
        refine (hk _).mono ?_
        rintro e w2 ⟨rfl, hb⟩
        go_wp2_with fail
        go_ret
        exact ⟨by rw [HE.out]; rfl, hb⟩
      · rw [h4] at hE
        have h5 : decide (0 < (numOf (upL s.data.toList) : Int)) = false := by simp at h4 ⊢; omega
        generalize (numOf (upL s.data.toList) : Int) = N at hk h5
        have hE2 : plainB s.data.toList = allWd s.data.toList := by rw [hE]; simp
        have HE := Lib.hid hE2; clear hE hE2 h4
        go_wp2_with fail
        refine (hk _).mono ?_
        rintro e w2 ⟨rfl, hb⟩
        clear hk
        go_wp2_with fail
        go_loopw [3] (fun i wr => ∃ k : Nat, k ≤ s.size ∧ i = .int .i64 (k : Int) ∧ Hid (∀ j, j < k → wd ((s.data.toList.getD j 0).toNat : Int) = true) ∧ wr = w2) (fun i _ => s.size - (intOf i).toNat)
        case atStart => exact ⟨0, by omega, rfl, fun j hj => by omega, rfl⟩
        case round =>
          obtain ⟨k, hk, rfl, HW, rfl⟩ := hrel
          by_cases hlt : k < s.size
          · have hlt2 : (k : Int) < (s.size : Int) := by omega
            go_wp2_with fail
            refine (l2Letter_any _ _).mono ?_
            rintro e w1 ⟨rfl, rfl⟩
            rw [str_at hlt]
            cases h1 : (ltr ((s.data.toList.getD k 0).toNat : Int) || ((s.data.toList.getD k 0).toNat : Int) == 95)
            · go_wp2_with fail
              refine (l2Figure_any _ _).mono ?_
              rintro e w1 ⟨rfl, rfl⟩
              rw [str_at hlt]
              cases h2 : dg ((s.data.toList.getD k 0).toNat : Int)
              · have hf := allWd_false (l := s.data.toList) (k := k) hlt (by rw [wd_eq, h1, h2]; rfl)
                have HF := Lib.hid hf; clear hf h1 h2
                go_wp2_with fail
                go_ret
                exact ⟨by rw [HE.out, HF.out]; rfl, hb⟩
              · have HW2 := wd_more HW (by rw [wd_eq, h1, h2]; rfl)
                clear h1 h2
                go_wp2_with fail
                go_roundw
                case rel => exact ⟨k + 1, by omega, by go_num, HW2, trivial⟩
                case measure => simp [intOf]; omega
            · have HW2 := wd_more HW (by rw [wd_eq, h1]; simp)
              clear h1
              go_wp2_with fail
              go_roundw
              case rel => exact ⟨k + 1, by omega, by go_num, HW2, trivial⟩
              case measure => simp [intOf]; omega
          · have e : k = s.size := by omega
            subst e
            go_wp2_with fail
            go_ret
            exact ⟨by rw [HE.out, allWd_true HW.out]; rfl, hb⟩
    · rw [h1, h2] at hE
      clear h1
      have HE := Lib.hid hE; clear hE
      go_wp2_with fail
      refine (l2Figure_any _ _).mono ?_
      rintro e w1 ⟨rfl, rfl⟩
      rw [str_at h0, h2]
      clear h2
      go_wp2_with fail
      go_ret
      exact ⟨by rw [HE.out]; rfl, Below.refl _ _⟩
end Go.Proofs.Ytcadoplfgclbjaa
