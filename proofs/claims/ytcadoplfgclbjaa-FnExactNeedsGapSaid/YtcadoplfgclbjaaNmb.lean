
/- The contract of the model Number. -/
import Derived.Test.YtcadoplfgclbjaaNmbDef
namespace Go.Proofs.Ytcadoplfgclbjaa
open Go.RowKit
open Go.Lib (decDigits itoa)
set_option maxRecDepth 100000 in
set_option maxHeartbeats 800000 in
theorem number_spec (s : ByteArray) (w : World) (hs : s.size ≤ maxLen) :
    Calls Try.prog 16 #[.string s] w (NumE s.data.toList w) := by
  unfold maxLen at hs
  by_cases h1 : s.size < 1
  · have hd : decide ((s.size : Int) < 1) = true := by simp; omega
    go_enter Try.func16, Try.ntmps16
    go_wp2
    go_ret2
    exact NumE.no (fun n h => h.ne (List.eq_nil_of_length_eq_zero (by have : s.data.toList.length = s.size := rfl; omega))) rfl (Below.refl _ _)
  · by_cases h19 : 19 < s.size
    · have hd : decide ((s.size : Int) < 1) = false := by simp; omega
      have hd2 : decide (19 < (s.size : Int)) = true := by simp; omega
      go_enter Try.func16, Try.ntmps16
      go_wp2
      go_ret2
      exact NumE.no (fun n h => by have := h.len; simp at this; omega) rfl (Below.refl _ _)
    · have hd : decide ((s.size : Int) < 1) = false := by simp; omega
      have hd2 : decide (19 < (s.size : Int)) = false := by simp; omega
      go_enter Try.func16, Try.ntmps16
      go_wp2
      clear hd hd2
      go_loop [4, 5, 6] (fun x i _ => ∃ k : Nat, k ≤ s.size ∧ i = .int .i64 (k : Int) ∧ x = .int .i64 (digVal (s.data.toList.take k) : Nat) ∧ digVal (s.data.toList.take k) ≤ 9223372036854775807 ∧ allDig (s.data.toList.take k)) (fun _ i _ => s.size - (intOf i).toNat)
      case atStart => exact ⟨0, by omega, rfl, rfl, by simp [digVal], by simp [allDig]⟩
      case round =>
        obtain ⟨k, hk, rfl, rfl, hv, ha⟩ := hrel
        have HA := Lib.hid ha; clear ha
        by_cases hlt : k < s.size
        · have hb := (s[k]).toNat_lt
          have HT := Lib.hid (show digVal (s.data.toList.take (k + 1)) = 10 * digVal (s.data.toList.take k) + ((s[k]).toNat - 48) by rw [take_snoc s k hlt, digVal_snoc])
          have HT2 := Lib.hid (take_snoc s k hlt)
          by_cases hlo : (s[k]).toNat < 48
          · have hd : decide (((s[k]).toNat : Int) < 48) = true := by simp; omega
            go_wp2_with fail
            go_ret2
            exact NumE.no (num_bad_dig hlt (fun h => by have := h.1; omega)) rfl (Below.refl _ _)
          · have hd : decide (((s[k]).toNat : Int) < 48) = false := by simp; omega
            by_cases hhi : 57 < (s[k]).toNat
            · have hd2 : decide (57 < ((s[k]).toNat : Int)) = true := by simp; omega
              go_wp2_with fail
              go_ret2
              exact NumE.no (num_bad_dig hlt (fun h => by have := h.2; omega)) rfl (Below.refl _ _)
            · have hd2 : decide (57 < ((s[k]).toNat : Int)) = false := by simp; omega
              generalize hV : digVal (s.data.toList.take k) = V at hv ⊢
              have HV := Lib.hid hV; clear hV
              by_cases hov : 10 * V + ((s[k]).toNat - 48) ≤ 9223372036854775807
              · have hq : ¬ (9223372036854775807 - (((s[k]).toNat : Int) - 48)) / 10 < (V : Int) := by omega
                go_wp2_with fail
                go_round
                case rel => exact ⟨k + 1, by omega, by go_num, by rw [HT.out, HV.out]; go_num, by rw [HT.out, HV.out]; exact hov, by rw [HT2.out]; exact allDig_snoc HA.out ⟨by omega, by omega⟩⟩
                case measure => simp [intOf]; omega
              · have hq : (9223372036854775807 - (((s[k]).toNat : Int) - 48)) / 10 < (V : Int) := by omega
                go_wp2_with fail
                go_ret2
                exact NumE.no (num_bad_over hlt (by rw [HV.out]; exact hov)) rfl (Below.refl _ _)
        · have e : k = s.size := by omega
          subst e
          have ht : s.data.toList.take s.size = s.data.toList := List.take_of_length_le (by simp)
          rw [ht] at hv HA ⊢; clear ht
          generalize hV : digVal s.data.toList = V at hv ⊢
          have HV := Lib.hid hV; clear hV
          go_wp2_with fail
          refine (digits_spec (V : Int) _ (by omega) (by omega)).mono ?_
          rw [itoa_nat]
          rintro e w1 ⟨rfl, hb1⟩
          go_wp2_with fail
          · have hq : (!decDigits V == s.toList) = true := by assumption
            go_ret2
            exact NumE.no (fun n h => by
              rw [Lib.toList_data, ← h.2, h.val, HV.out] at hq
              simp at hq) rfl hb1
          · have hq : (!decDigits V == s.toList) = false := by assumption
            go_ret2
            exact ⟨.inl ⟨V, ⟨hv, by rw [Lib.toList_data] at hq; simpa using hq⟩, rfl⟩, hb1⟩
end Go.Proofs.Ytcadoplfgclbjaa
