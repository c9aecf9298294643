/- Contracts of the tests on names, program and model. -/
import Derived.Test.YtpehplmkhmpgmaaKeyOf
namespace Go.Proofs.Ytpehplmkhmpgmaa
open Go.RowKit

set_option maxHeartbeats 400000 in
theorem isWordByte_any (n : Int) (w : World) : Calls Try.prog 37 #[.int .u8 n] w (PureE (.bool (wd n)) w) := by
  have hL := isLetter_any n w
  have hD := isDigit_any n w
  have hE : wd n = (ltr n || dg n || n == 95) := rfl
  go_enter Try.func37, Try.ntmps37
  go_wp2_with fail
  refine hL.mono ?_
  rintro e w1 ⟨rfl, rfl⟩
  clear hL
  cases h1 : ltr n
  · rw [h1] at hE
    go_wp2_with fail
    refine hD.mono ?_
    rintro e w2 ⟨rfl, rfl⟩
    clear hD
    cases h2 : dg n
    · rw [h2] at hE
      by_cases h3 : n = 95
      · have d3 : (n == 95) = true := by simpa using h3
        rw [d3] at hE
        have HE := Lib.hid hE; clear hE h3
        go_wp2_with fail
        go_ret
        exact pure_bool (by rw [HE.out]; rfl)
      · have d3 : (n == 95) = false := by simpa using h3
        rw [d3] at hE
        have HE := Lib.hid hE; clear hE h3
        go_wp2_with fail
        go_ret
        exact pure_bool (by rw [HE.out]; rfl)
    · rw [h2] at hE
      have HE := Lib.hid hE; clear hE
      go_wp2_with fail
      go_ret
      exact pure_bool (by rw [HE.out]; rfl)
  · rw [h1] at hE
    have HE := Lib.hid hE; clear hE
    go_wp2_with fail
    go_ret
    exact pure_bool (by rw [HE.out]; rfl)

/-- all of l are letters, digits, underscores -/
def allWd (l : List UInt8) : Bool := l.all fun b => wd (b.toNat : Int)
theorem str_at {s : ByteArray} {k : Nat} (h : k < s.size) : s[k] = s.data.toList.getD k 0 := by
  have h' : k < s.data.size := h
  have e : s[k] = s.data[k] := rfl
  rw [e]
  simp [List.getD_eq_getElem?_getD, Array.getElem?_eq_getElem h']
theorem allWd_false {l : List UInt8} {k : Nat} (h : k < l.length) (hw : wd ((l.getD k 0).toNat : Int) = false) : allWd l = false := by
  unfold allWd
  rw [List.all_eq_false]
  refine ⟨l.getD k 0, ?_, by rw [hw]; simp⟩
  rw [List.getD_eq_getElem?_getD, List.getElem?_eq_getElem h]
  exact List.getElem_mem h
theorem allWd_true {l : List UInt8} (hw : ∀ k, k < l.length → wd ((l.getD k 0).toNat : Int) = true) : allWd l = true := by
  unfold allWd
  rw [List.all_eq_true]
  intro b hb
  obtain ⟨k, hk, rfl⟩ := List.getElem_of_mem hb
  have := hw k hk
  rwa [List.getD_eq_getElem?_getD, List.getElem?_eq_getElem hk] at this

theorem wd_more {l : List UInt8} {k : Nat} (H : Hid (∀ j, j < k → wd ((l.getD j 0).toNat : Int) = true)) (h : wd ((l.getD k 0).toNat : Int) = true) : Hid (∀ j, j < k + 1 → wd ((l.getD j 0).toNat : Int) = true) := fun j hj => by
  by_cases e : j = k
  · subst e; exact h
  · exact H.out j (by omega)
theorem wd_eq (n : Int) : wd n = (ltr n || n == 95 || dg n) := by unfold wd; rw [Bool.or_assoc, Bool.or_assoc, Bool.or_comm (dg n)]

set_option maxRecDepth 100000 in
set_option maxHeartbeats 400000 in
theorem allWord_impl (s : ByteArray) (w : World) (hs : s.size ≤ 9223372036854775807) :
    Calls Try.prog 28 #[.string s] w (PureE (.bool (allWd s.data.toList)) w) := by
  go_enter Try.func28, Try.ntmps28
  go_wp2
  go_loopw [6] (fun i wr => ∃ k : Nat, k ≤ s.size ∧ i = .int .i64 (k : Int) ∧ Hid (∀ j, j < k → wd ((s.data.toList.getD j 0).toNat : Int) = true) ∧ wr = w) (fun i _ => s.size - (intOf i).toNat)
  case atStart => exact ⟨0, by omega, rfl, fun j hj => by omega, rfl⟩
  case round =>
    obtain ⟨k, hk, rfl, HW, rfl⟩ := hrel
    by_cases hlt : k < s.size
    · have hlt2 : (k : Int) < (s.size : Int) := by omega
      cases h1 : wd ((s.data.toList.getD k 0).toNat : Int)
      · have hf := allWd_false (l := s.data.toList) (k := k) hlt h1
        go_wp2_with fail
        refine (isWordByte_any _ _).mono ?_
        rintro e w1 ⟨rfl, rfl⟩
        rw [str_at hlt, h1]
        have HF := Lib.hid hf; clear hf h1
        go_wp2_with fail
        go_ret
        exact pure_bool HF.out.symm
      · go_wp2_with fail
        refine (isWordByte_any _ _).mono ?_
        rintro e w1 ⟨rfl, rfl⟩
        rw [str_at hlt, h1]
        have HW2 : Hid (∀ j, j < k + 1 → wd ((s.data.toList.getD j 0).toNat : Int) = true) := fun j hj => by
          by_cases e : j = k
          · subst e; exact h1
          · exact HW.out j (by omega)
        clear h1
        go_wp2_with fail
        go_roundw
        case rel => exact ⟨k + 1, by omega, by go_num, HW2, trivial⟩
        case measure => simp [intOf]; omega
    · have e : k = s.size := by omega
      subst e
      go_wp2_with fail
      go_ret
      exact pure_bool (allWd_true HW.out).symm

/-- 1 to 20 bytes -/
def okLen (n : Nat) : Bool := decide (1 ≤ (n : Int)) && decide ((n : Int) ≤ 20)
set_option maxHeartbeats 400000 in
theorem nameOk_impl (s : ByteArray) (w : World) (_hs : s.size ≤ 9223372036854775807) : Calls Try.prog 22 #[.string s] w (PureE (.bool (okLen s.size)) w) := by
  have hE : okLen s.size = (decide (1 ≤ (s.size : Int)) && decide ((s.size : Int) ≤ 20)) := rfl
  by_cases h0 : 1 ≤ (s.size : Int)
  · have d0 : decide (1 ≤ (s.size : Int)) = true := by simpa using h0
    by_cases h1 : (s.size : Int) ≤ 20
    · have d1 : decide ((s.size : Int) ≤ 20) = true := by simpa using h1
      rw [d0, d1] at hE
      have HE := Lib.hid hE; clear hE
      go_enter Try.func22, Try.ntmps22
      go_wp2
      go_ret
      exact pure_bool (by rw [HE.out]; rfl)
    · have d1 : decide ((s.size : Int) ≤ 20) = false := by simpa using h1
      rw [d0, d1] at hE
      have HE := Lib.hid hE; clear hE
      go_enter Try.func22, Try.ntmps22
      go_wp2
      go_ret
      exact pure_bool (by rw [HE.out]; rfl)
  · have d0 : decide (1 ≤ (s.size : Int)) = false := by simpa using h0
    rw [d0] at hE
    have HE := Lib.hid hE; clear hE
    go_enter Try.func22, Try.ntmps22
    go_wp2
    go_ret
    exact pure_bool (by rw [HE.out]; rfl)
theorem nameOk_spec (s : ByteArray) (w : World) (_hs : s.size ≤ 9223372036854775807) : Calls Try.prog 21 #[.string s] w (PureE (.bool (okLen s.size)) w) := by
  have hin := fun w => in_any (s.size : Int) 1 20 (okLen s.size) w (by unfold okLen; rw [Bool.decide_and])
  go_enter Try.func21, Try.ntmps21
  go_wp2_with fail
  refine (hin _).mono ?_
  rintro e w1 ⟨rfl, rfl⟩
  go_wp2_with fail
  go_ret
  exact pure_bool rfl

/-- a plain name -/
def plainB (l : List UInt8) : Bool := okLen l.length && !dg ((l.getD 0 0).toNat : Int) && allWd l && decide (numOf (upL l) = 0)

set_option maxRecDepth 100000 in
set_option maxHeartbeats 400000 in
theorem plain_impl (s : ByteArray) (w : World) (hs : s.size ≤ 9223372036854775807) : Calls Try.prog 13 #[.string s] w (BoolE (plainB s.data.toList) w) := by
  have hE : plainB s.data.toList = (okLen s.size && !dg ((s.data.toList.getD 0 0).toNat : Int) && allWd s.data.toList && decide (numOf (upL s.data.toList) = 0)) := rfl
  have hN := fun w => nameOk_impl s w hs
  go_enter Try.func13, Try.ntmps13
  go_wp2_with fail
  refine (hN _).mono ?_
  rintro e w1 ⟨rfl, rfl⟩
  clear hN
  cases h1 : okLen s.size
  · rw [h1] at hE
    have HE := Lib.hid hE; clear hE h1
    go_wp2_with fail
    go_ret
    exact ⟨by rw [HE.out]; rfl, Below.refl _ _⟩
  · have h0 : 0 < s.size := by unfold okLen at h1; simp at h1; omega
    have h0i : (0 : Int) < (s.size : Int) := by omega
    cases h2 : dg ((s.data.toList.getD 0 0).toNat : Int)
    · rw [h1, h2] at hE
      clear h1
      go_wp2_with fail
      refine (isDigit_any _ _).mono ?_
      rintro e w1 ⟨rfl, rfl⟩
      rw [str_at h0, h2]
      clear h2
      go_wp2_with fail
      refine (allWord_impl s _ hs).mono ?_
      rintro e w1 ⟨rfl, rfl⟩
      cases h3 : allWd s.data.toList
      · rw [h3] at hE
        have HE := Lib.hid hE; clear hE h3
        go_wp2_with fail
        go_ret
        exact ⟨by rw [HE.out]; rfl, Below.refl _ _⟩
      · rw [h3] at hE
        clear h3
        have hk := fun w => keyOf_impl s w hs
        cases h4 : decide (numOf (upL s.data.toList) = 0)
        · rw [h4] at hE
          have h5 : ((numOf (upL s.data.toList) : Int) == 0) = false := by simp at h4 ⊢; omega
          generalize (numOf (upL s.data.toList) : Int) = N at hk h5
          have HE := Lib.hid hE; clear hE h4
          go_wp2_with fail
          refine (hk _).mono ?_
          rintro e w2 ⟨rfl, hb⟩
          go_wp2_with fail
          go_ret
          exact ⟨by rw [HE.out]; rfl, hb⟩
        · rw [h4] at hE
          have h5 : ((numOf (upL s.data.toList) : Int) == 0) = true := by simp at h4 ⊢; omega
          generalize (numOf (upL s.data.toList) : Int) = N at hk h5
          have HE := Lib.hid hE; clear hE h4
          go_wp2_with fail
          refine (hk _).mono ?_
          rintro e w2 ⟨rfl, hb⟩
          go_wp2_with fail
          go_ret
          exact ⟨by rw [HE.out]; rfl, hb⟩
    · rw [h1, h2] at hE
      clear h1
      have HE := Lib.hid hE; clear hE
      go_wp2_with fail
      refine (isDigit_any _ _).mono ?_
      rintro e w1 ⟨rfl, rfl⟩
      rw [str_at h0, h2]
      clear h2
      go_wp2_with fail
      go_ret
      exact ⟨by rw [HE.out]; rfl, Below.refl _ _⟩
set_option maxRecDepth 100000 in
set_option maxHeartbeats 400000 in
theorem plain_spec (s : ByteArray) (w : World) (hs : s.size ≤ 9223372036854775807) : Calls Try.prog 14 #[.string s] w (BoolE (plainB s.data.toList) w) := by
  have hE : plainB s.data.toList = (okLen s.size && !dg ((s.data.toList.getD 0 0).toNat : Int) && allWd s.data.toList && decide (numOf (upL s.data.toList) = 0)) := rfl
  have hN := fun w => nameOk_spec s w hs
  go_enter Try.func14, Try.ntmps14
  go_wp2_with fail
  refine (hN _).mono ?_
  rintro e w1 ⟨rfl, rfl⟩
  clear hN
  cases h1 : okLen s.size
  · rw [h1] at hE
    have HE := Lib.hid hE; clear hE h1
    go_wp2_with fail
    go_ret
    exact ⟨by rw [HE.out]; rfl, Below.refl _ _⟩
  · have h0 : 0 < s.size := by unfold okLen at h1; simp at h1; omega
    have h0i : (0 : Int) < (s.size : Int) := by omega
    cases h2 : dg ((s.data.toList.getD 0 0).toNat : Int)
    · rw [h1, h2] at hE
      clear h1
      go_wp2_with fail
      refine (l2Figure_any _ _).mono ?_
      rintro e w1 ⟨rfl, rfl⟩
      rw [str_at h0, h2]
      clear h2
      have hk := fun w => keyOf_spec s w hs
      cases h4 : decide (numOf (upL s.data.toList) = 0)
      · rw [h4] at hE
        have h5 : decide (0 < (numOf (upL s.data.toList) : Int)) = true := by simp at h4 ⊢; omega
        generalize (numOf (upL s.data.toList) : Int) = N at hk h5
        have hE2 : plainB s.data.toList = false := by rw [hE]; simp
        have HE := Lib.hid hE2; clear hE hE2 h4
        go_wp2_with fail
        refine (hk _).mono ?_
        rintro e w2 ⟨rfl, hb⟩
        go_wp2_with fail
        go_ret
        exact ⟨by rw [HE.out]; rfl, hb⟩
      · rw [h4] at hE
        have h5 : decide (0 < (numOf (upL s.data.toList) : Int)) = false := by simp at h4 ⊢; omega
        generalize (numOf (upL s.data.toList) : Int) = N at hk h5
        have hE2 : plainB s.data.toList = allWd s.data.toList := by rw [hE]; simp
        have HE := Lib.hid hE2; clear hE hE2 h4
        go_wp2_with fail
        refine (hk _).mono ?_
        rintro e w2 ⟨rfl, hb⟩
        clear hk
        go_wp2_with fail
        go_loopw [3] (fun i wr => ∃ k : Nat, k ≤ s.size ∧ i = .int .i64 (k : Int) ∧ Hid (∀ j, j < k → wd ((s.data.toList.getD j 0).toNat : Int) = true) ∧ wr = w2) (fun i _ => s.size - (intOf i).toNat)
        case atStart => exact ⟨0, by omega, rfl, fun j hj => by omega, rfl⟩
        case round =>
          obtain ⟨k, hk, rfl, HW, rfl⟩ := hrel
          by_cases hlt : k < s.size
          · have hlt2 : (k : Int) < (s.size : Int) := by omega
            go_wp2_with fail
            refine (l2Letter_any _ _).mono ?_
            rintro e w1 ⟨rfl, rfl⟩
            rw [str_at hlt]
            cases h1 : (ltr ((s.data.toList.getD k 0).toNat : Int) || ((s.data.toList.getD k 0).toNat : Int) == 95)
            · go_wp2_with fail
              refine (l2Figure_any _ _).mono ?_
              rintro e w1 ⟨rfl, rfl⟩
              rw [str_at hlt]
              cases h2 : dg ((s.data.toList.getD k 0).toNat : Int)
              · have hf := allWd_false (l := s.data.toList) (k := k) hlt (by rw [wd_eq, h1, h2]; rfl)
                have HF := Lib.hid hf; clear hf h1 h2
                go_wp2_with fail
                go_ret
                exact ⟨by rw [HE.out, HF.out]; rfl, hb⟩
              · have HW2 := wd_more HW (by rw [wd_eq, h1, h2]; rfl)
                clear h1 h2
                go_wp2_with fail
                go_roundw
                case rel => exact ⟨k + 1, by omega, by go_num, HW2, trivial⟩
                case measure => simp [intOf]; omega
            · have HW2 := wd_more HW (by rw [wd_eq, h1]; simp)
              clear h1
              go_wp2_with fail
              go_roundw
              case rel => exact ⟨k + 1, by omega, by go_num, HW2, trivial⟩
              case measure => simp [intOf]; omega
          · have e : k = s.size := by omega
            subst e
            go_wp2_with fail
            go_ret
            exact ⟨by rw [HE.out, allWd_true HW.out]; rfl, hb⟩
    · rw [h1, h2] at hE
      clear h1
      have HE := Lib.hid hE; clear hE
      go_wp2_with fail
      refine (l2Figure_any _ _).mono ?_
      rintro e w1 ⟨rfl, rfl⟩
      rw [str_at h0, h2]
      clear h2
      go_wp2_with fail
      go_ret
      exact ⟨by rw [HE.out]; rfl, Below.refl _ _⟩
end Go.Proofs.Ytpehplmkhmpgmaa
