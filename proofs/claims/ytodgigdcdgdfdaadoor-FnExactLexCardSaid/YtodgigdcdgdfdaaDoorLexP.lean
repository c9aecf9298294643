/- The contract of the model's passing over of white space and comments. -/
import Derived.Test.YtodgigdcdgdfdaaDoorLexS
import Derived.Test.YtodgigdcdgdfdaaDoorLexQ
namespace Go.Proofs.YtodgigdcdgdfdaaDoor
open Go.RowKit

set_option maxRecDepth 100000 in
set_option maxHeartbeats 2000000 in
theorem pass_spec (s : ByteArray) (a : Nat) (w : World) (ha : a ≤ s.size) (hs : s.size ≤ 4000000) :
    Calls Tryd.prog 45 #[.string s, .int .i64 (a : Int)] w (PureE (.int .i64 (pass s.data.toList a)) w) := by
  have hlen : s.data.toList.length = s.size := rfl
  go_enter Tryd.func45, Tryd.ntmps45
  go_wp2_with fail
  go_loopw [1] (fun i wr => ∃ k : Nat, k ≤ s.size ∧ i = .int .i64 (k : Int) ∧ Hid (pass s.data.toList a = pass s.data.toList k) ∧ wr = w) (fun i _ => s.size - (intOf i).toNat)
  case atStart => exact ⟨a, ha, rfl, rfl, rfl⟩
  case round =>
    obtain ⟨k, hk, rfl, HK, rfl⟩ := hrel
    by_cases hlt : k < s.size
    · have hlt2 : (k : Int) < (s.size : Int) := by omega
      have HB := Lib.hid (lstr_at hlt)
      have hmin : min s.size (k + 2) ≤ s.size ∧ k ≤ min s.size (k + 2) := by omega
      have hm := fun w => min_spec s.size (k + 2) w
      have h45 := two_is (s := s) (a := k) (x := 45) (y := 45) hlt
      have h47 := two_is (s := s) (a := k) (x := 47) (y := 42) hlt
      obtain ⟨mn, hmn⟩ : ∃ mn, mn = min s.size (k + 2) := ⟨_, rfl⟩
      rw [← hmn] at hm hmin h45 h47
      obtain ⟨hm1, hm2⟩ := hmin
      have hm1i : (mn : Int) ≤ (s.size : Int) := by omega
      have hm2i : (k : Int) ≤ (mn : Int) := by omega
      obtain ⟨tw, htw⟩ : ∃ tw, s.extract k mn = tw := ⟨_, rfl⟩
      rw [htw] at h45 h47
      clear hmn
      go_wp2_with fail
      rw [show ((k : Int) + 2) = ((k + 2 : Nat) : Int) from by omega]
      refine (hm _).mono ?_
      rintro e w1 ⟨rfl, rfl⟩
      clear hm
      rcases sp_cases (s[k]) with ⟨hsp, q1, q2, q3, q4⟩ | ⟨hsp, hb⟩
      · rw [HB.out] at hsp
        cases t45 : is2 s.data.toList k 45 45
        · rw [t45] at h45
          cases t47 : is2 s.data.toList k 47 42
          · rw [t47] at h47
            have HF := Lib.hid (pass_stop (l := s.data.toList) (k := k) hlt hsp t45 t47)
            clear hsp t45 t47
            go_wp2_with fail
            go_ret
            exact ⟨by rw [HK.out, HF.out]; rfl, rfl⟩
          · rw [t47] at h47
            have HF := Lib.hid (pass_long (l := s.data.toList) (k := k) hlt hsp t45 t47)
            have HK2 := is2_lt t47
            clear hsp t45 t47
            go_wp2_with fail
            go_loopw [6] (fun i wr => ∃ j : Nat, k + 2 ≤ j ∧ j ≤ s.size ∧ i = .int .i64 (j : Int) ∧ Hid (closeAt s.data.toList (k + 2) = closeAt s.data.toList j) ∧ wr = w1) (fun i _ => s.size - (intOf i).toNat)
            case atStart => exact ⟨k + 2, by omega, by omega, by go_num, rfl, rfl⟩
            case round =>
              obtain ⟨j, hj1, hj2, rfl, HJ, rfl⟩ := hrel
              by_cases hjl : j < s.size
              · have hjl2 : (j : Int) < (s.size : Int) := by omega
                have d2 : decide ((s.size : Int) ≤ (j : Int)) = false := by simp; omega
                have hmin2 : min s.size (j + 2) ≤ s.size ∧ j ≤ min s.size (j + 2) := by omega
                have hn := fun w => min_spec s.size (j + 2) w
                have h42 := two_is (s := s) (a := j) (x := 42) (y := 47) hjl
                obtain ⟨nn, hnn⟩ : ∃ nn, nn = min s.size (j + 2) := ⟨_, rfl⟩
                rw [← hnn] at hn hmin2 h42
                obtain ⟨hn1, hn2⟩ := hmin2
                have hn1i : (nn : Int) ≤ (s.size : Int) := by omega
                have hn2i : (j : Int) ≤ (nn : Int) := by omega
                obtain ⟨tv, htv⟩ : ∃ tv, s.extract j nn = tv := ⟨_, rfl⟩
                rw [htv] at h42
                clear hnn
                go_wp2_with fail
                rw [show ((j : Int) + 2) = ((j + 2 : Nat) : Int) from by omega]
                refine (hn _).mono ?_
                rintro e w2 ⟨rfl, rfl⟩
                clear hn
                cases t42 : is2 s.data.toList j 42 47
                · rw [t42] at h42
                  have HE := Lib.hid (close_on (l := s.data.toList) (k := j) hjl t42)
                  clear t42
                  go_wp2_with fail
                  go_roundw
                  case rel => exact ⟨j + 1, by omega, by omega, by go_num, by rw [HJ.out, HE.out]; rfl, trivial⟩
                  case measure => simp [intOf]; omega
                · rw [t42] at h42
                  have hj3 := is2_lt t42
                  have HE := Lib.hid (close_stop (l := s.data.toList) (k := j) hjl t42)
                  clear t42
                  go_wp2_with fail
                  go_roundw
                  case rel => exact ⟨j + 2, by omega, by go_num, by unfold Hid; rw [HK.out, HF.out, HJ.out, HE.out, if_pos (show j < s.data.toList.length from hjl)], trivial⟩
                  case measure => simp [intOf]; omega
              · have d2 : decide ((s.size : Int) ≤ (j : Int)) = true := by simp; omega
                have HE := Lib.hid (close_out (l := s.data.toList) (k := j) hjl)
                go_wp2_with fail
                go_ret
                exact ⟨by rw [HK.out, HF.out, HJ.out, HE.out, if_neg (show ¬ j < s.data.toList.length from hjl)]; rfl, rfl⟩
        · rw [t45] at h45
          have HF := Lib.hid (pass_line (l := s.data.toList) (k := k) hlt hsp t45)
          have HL2 := line_two t45
          clear hsp t45
          go_wp2_with fail
          go_loopw [1] (fun i wr => ∃ j : Nat, k ≤ j ∧ j ≤ s.size ∧ i = .int .i64 (j : Int) ∧ Hid (lineEnd s.data.toList k = lineEnd s.data.toList j) ∧ wr = w1) (fun i _ => s.size - (intOf i).toNat)
          case atStart => exact ⟨k, by omega, by omega, rfl, rfl, rfl⟩
          case round =>
            obtain ⟨j, hj1, hj2, rfl, HJ, rfl⟩ := hrel
            by_cases hjl : j < s.size
            · have hjl2 : (j : Int) < (s.size : Int) := by omega
              by_cases h10 : s[j] = 10
              · have q : (((s[j]).toNat : Int) == 10) = true := u8_eq h10
                have HE := Lib.hid (line_stop (l := s.data.toList) (k := j) hjl (by rw [← lstr_at hjl]; exact h10))
                have hjk : k + 2 ≤ j := by rw [HJ.out, HE.out] at HL2; exact HL2
                clear h10
                go_wp2_with fail
                go_roundw
                case rel => exact ⟨j, by omega, rfl, by unfold Hid; rw [HK.out, HF.out, HJ.out, HE.out], trivial⟩
                case measure => simp [intOf]; omega
              · have q : (((s[j]).toNat : Int) == 10) = false := u8_ne h10
                have HE := Lib.hid (line_on (l := s.data.toList) (k := j) hjl (by rw [← lstr_at hjl]; exact h10))
                clear h10
                go_wp2_with fail
                go_roundw
                case rel => exact ⟨j + 1, by omega, by omega, by go_num, by rw [HJ.out, HE.out]; rfl, trivial⟩
                case measure => simp [intOf]; omega
            · have HE := Lib.hid (line_out (l := s.data.toList) (k := j) hjl)
              have hjk : k + 2 ≤ j := by rw [HJ.out, HE.out] at HL2; exact HL2
              go_wp2_with fail
              go_roundw
              case rel => exact ⟨j, by omega, rfl, by unfold Hid; rw [HK.out, HF.out, HJ.out, HE.out], trivial⟩
              case measure => simp [intOf]; omega
      · rw [HB.out] at hsp
        have HF := Lib.hid (pass_sp (l := s.data.toList) (k := k) hlt hsp)
        clear hsp
        have hq : ∀ c : UInt8, s[k] = c → ∀ d : UInt8, ¬ c = d → (((s[k]).toNat : Int) == (d.toNat : Int)) = false := fun c hc d hd => u8_ne (by rw [hc]; exact hd)
        have hqq : ((((s[k]).toNat : Int) == 32) = true) ∨ ((((s[k]).toNat : Int) == 32) = false ∧ (((s[k]).toNat : Int) == 9) = true) ∨
            ((((s[k]).toNat : Int) == 32) = false ∧ (((s[k]).toNat : Int) == 9) = false ∧ (((s[k]).toNat : Int) == 10) = true) ∨
            ((((s[k]).toNat : Int) == 32) = false ∧ (((s[k]).toNat : Int) == 9) = false ∧ (((s[k]).toNat : Int) == 10) = false ∧ (((s[k]).toNat : Int) == 13) = true) := by
          rcases hb with h | h | h | h
          · exact .inl (u8_eq h)
          · exact .inr (.inl ⟨hq 9 h 32 (by decide), u8_eq h⟩)
          · exact .inr (.inr (.inl ⟨hq 10 h 32 (by decide), hq 10 h 9 (by decide), u8_eq h⟩))
          · exact .inr (.inr (.inr ⟨hq 13 h 32 (by decide), hq 13 h 9 (by decide), hq 13 h 10 (by decide), u8_eq h⟩))
        clear hq hb h45 h47
        rcases hqq with q1 | ⟨q1, q2⟩ | ⟨q1, q2, q3⟩ | ⟨q1, q2, q3, q4⟩
        all_goals
          go_wp2_with fail
          go_roundw
          case rel => exact ⟨k + 1, by omega, by go_num, by rw [HK.out, HF.out]; rfl, trivial⟩
          case measure => simp [intOf]; omega
    · have hf := Lib.hid (pass_out (l := s.data.toList) (k := k) hlt)
      go_wp2_with fail
      go_ret
      exact ⟨by rw [HK.out, hf.out]; rfl, rfl⟩
end Go.Proofs.YtodgigdcdgdfdaaDoor
