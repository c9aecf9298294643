/- Joined texts: Dig NmbDef Nmb NmbI. -/
import Derived.Test.YtcadoplfgclbjaaDoorQA
import Derived.WalkLawsBesides
import Derived.Recover
import Derived.Defers
import Derived.Laws.Pointers
/- The contract of the model Digits. -/
namespace Go.Proofs.YtcadoplfgclbjaaDoor
open Go.RowKit
open Go.Lib (decDigits itoa)

/-- the byte of a digit -/
def dgB (d : Nat) : UInt8 := UInt8.ofNat (48 + d)
theorem dgB_nat {d : Nat} (h : d < 10) : (dgB d).toNat = 48 + d := nat_dig h
/-- what is still to be written -/
def decR (y : Nat) : List UInt8 := if y = 0 then [] else decDigits y
theorem decR_step {y : Nat} (h : 0 < y) : decR y = decR (y / 10) ++ [dgB (y % 10)] := by
  unfold decR
  rw [if_neg (by omega)]
  by_cases hs : y < 10
  · rw [dec_small hs, if_pos (by omega), Nat.mod_eq_of_lt hs]; rfl
  · rw [dec_big hs, if_neg (by omega)]; rfl
theorem dig_step {m y : Nat} {out : ByteArray} (hy : 0 < y) (h : decDigits m = decR y ++ out.data.toList) : decDigits m = decR (y / 10) ++ (⟨#[dgB (y % 10)]⟩ ++ out : ByteArray).data.toList := by
  rw [h, decR_step hy]; simp
theorem dig_len {m y : Nat} {out : ByteArray} (hm : m < 10 ^ 19) (h : decDigits m = decR y ++ out.data.toList) : out.size ≤ 19 := by
  have h1 := dec_len 18 m hm
  rw [h, List.length_append] at h1
  have : out.data.toList.length = out.size := rfl
  omega
theorem ret_ba {a : ByteArray} {l : List UInt8} (h : l = a.data.toList) : Ending.returned (.string a) = .returned (.string ⟨l.toArray⟩) := by rw [h]
theorem tmod_neg (y : Nat) : (-(y : Int)).tmod 10 = -((y : Int) % 10) := by rw [Int.neg_tmod]; rfl
theorem tdiv_neg (y : Nat) : (-(y : Int)).tdiv 10 = -((y : Int) / 10) := by rw [Int.neg_tdiv]; rfl

set_option maxRecDepth 100000 in
set_option maxHeartbeats 800000 in
theorem digits_pos (m : Nat) (w : World) (h0 : 0 < m) (h1 : m ≤ 9223372036854775807) :
    Calls Tryd.prog 56 #[.int .i64 (m : Int)] w (StrE (decDigits m) w) := by
  have hq : ((m : Int) == 0) = false := by simp; omega
  have hq2 : decide ((m : Int) < 0) = false := by simp
  go_enter Tryd.func56, Tryd.ntmps56
  go_wp2
  clear hq hq2
  go_loopw [0, 4, 5] (fun x o _ wr => ∃ (y : Nat) (out : ByteArray), y ≤ m ∧ x = .int .i64 (y : Int) ∧ o = .string out ∧ out.size ≤ 19 ∧ Hid (decDigits m = decR y ++ out.data.toList) ∧ Below w.heap.size w wr) (fun x _ _ _ => (intOf x).toNat)
  case atStart => exact ⟨m, ⟨#[]⟩, Nat.le_refl _, rfl, rfl, by decide, by unfold Hid decR; rw [if_neg (by omega)]; simp, Below.refl _ _⟩
  case round =>
    obtain ⟨y, out, hy, rfl, rfl, hos, HD, hbel⟩ := hrel
    by_cases hy0 : 0 < y
    · have hne : ((y : Int) != 0) = true := by simp; omega
      have hcv := conv_one (P := Tryd.prog) wr (dgB (y % 10)) (48 + (y : Int) % 10) (by rw [dgB_nat (by omega)]; omega) Tryd.underlying22 Tryd.underlying5 Tryd.underlying9
      have hsz := hbel.size
      go_wp2_with fail
      go_roundw
      case rel => exact ⟨y / 10, _, by omega, by go_num, rfl, dig_len (m := m) (by omega) (dig_step hy0 HD.out), dig_step hy0 HD.out, hbel.alloc hsz _⟩
      case measure => simp [intOf]; omega
    · have hne : ((y : Int) != 0) = false := by simp; omega
      go_wp2_with fail
      go_ret
      exact ⟨ret_ba (by rw [HD.out, decR, if_pos (by omega)]; rfl), hbel⟩

set_option maxRecDepth 100000 in
set_option maxHeartbeats 800000 in
theorem digits_neg (m : Nat) (w : World) (h0 : 0 < m) (h1 : m ≤ 9223372036854775808) :
    Calls Tryd.prog 56 #[.int .i64 (-(m : Int))] w (StrE (45 :: decDigits m) w) := by
  have hq : (-(m : Int) == 0) = false := by simp; omega
  have hq2 : decide (-(m : Int) < 0) = true := by simp; omega
  go_enter Tryd.func56, Tryd.ntmps56
  go_wp2
  clear hq hq2
  go_loopw [0, 4, 5] (fun x o _ wr => ∃ (y : Nat) (out : ByteArray), y ≤ m ∧ x = .int .i64 (-(y : Int)) ∧ o = .string out ∧ out.size ≤ 19 ∧ Hid (decDigits m = decR y ++ out.data.toList) ∧ Below w.heap.size w wr) (fun x _ _ _ => (-(intOf x)).toNat)
  case atStart => exact ⟨m, ⟨#[]⟩, Nat.le_refl _, rfl, rfl, by decide, by unfold Hid decR; rw [if_neg (by omega)]; simp, Below.refl _ _⟩
  case round =>
    obtain ⟨y, out, hy, rfl, rfl, hos, HD, hbel⟩ := hrel
    by_cases hy0 : 0 < y
    · have hne : (-(y : Int) != 0) = true := by simp; omega
      have hsz := hbel.size
      have t2 := tdiv_neg y
      by_cases hr : y % 10 = 0
      · have t1 : (-(y : Int)).tmod 10 = 0 := by rw [tmod_neg]; omega
        have HS : Hid (decDigits m = decR (y / 10) ++ (⟨#[dgB 0]⟩ ++ out : ByteArray).data.toList) := by have := dig_step hy0 HD.out; rw [hr] at this; exact this
        clear hr
        have hcv := conv_one (P := Tryd.prog) wr (dgB 0) 48 (by rw [dgB_nat (by omega)]; omega) Tryd.underlying22 Tryd.underlying5 Tryd.underlying9
        go_wp2_with fail
        go_roundw
        case rel => exact ⟨y / 10, _, by omega, by rw [Int.natCast_ediv]; rfl, rfl, dig_len (m := m) (by omega) (HS.out), HS.out, hbel.alloc hsz _⟩
        case measure => simp [intOf]; omega
      · have t1 := tmod_neg y
        have hcv := conv_one (P := Tryd.prog) wr (dgB (y % 10)) (48 + (y : Int) % 10) (by rw [dgB_nat (by omega)]; omega) Tryd.underlying22 Tryd.underlying5 Tryd.underlying9
        have hr2 : decide (-((y : Int) % 10) < 0) = true := by simp; omega
        go_wp2_with fail
        go_roundw
        case rel => exact ⟨y / 10, _, by omega, by rw [Int.natCast_ediv]; rfl, rfl, dig_len (m := m) (by omega) (dig_step hy0 HD.out), dig_step hy0 HD.out, hbel.alloc hsz _⟩
        case measure => simp [intOf]; omega
    · have hne : (-(y : Int) != 0) = false := by simp; omega
      go_wp2_with fail
      go_ret
      exact ⟨ret_ba (by rw [HD.out, decR, if_pos (by omega)]; rfl), hbel⟩

theorem digits_spec (n : Int) (w : World) (h0 : -9223372036854775808 ≤ n) (h1 : n ≤ 9223372036854775807) :
    Calls Tryd.prog 56 #[.int .i64 n] w (StrE (itoa n) w) := by
  by_cases hz : n = 0
  · subst hz
    have e : itoa 0 = [48] := by unfold itoa; rw [if_neg (by omega)]; exact dec_small (by omega)
    rw [e]
    go_enter Tryd.func56, Tryd.ntmps56
    go_wp2
    go_ret
    exact ⟨rfl, Below.refl _ _⟩
  · by_cases hp : 0 < n
    · have e : itoa n = decDigits n.toNat := by unfold itoa; rw [if_neg (by omega)]
      have e2 : n = ((n.toNat : Nat) : Int) := by omega
      rw [e, e2]
      exact digits_pos n.toNat w (by omega) (by omega)
    · have e : itoa n = 45 :: decDigits n.natAbs := by unfold itoa; rw [if_pos (by omega)]
      have e2 : n = -((n.natAbs : Nat) : Int) := by omega
      rw [e]
      have h := digits_neg n.natAbs w (by omega) (by omega)
      rw [← e2] at h
      exact h
end Go.Proofs.YtcadoplfgclbjaaDoor

/- What it is that a string is the numeral of a number. -/
namespace Go.Proofs.YtcadoplfgclbjaaDoor
open Go.RowKit
open Go.Lib (decDigits itoa)

def NumE (s : List UInt8) (w : World) (e : Ending) (w' : World) : Prop :=
  ((∃ n : Nat, Num s n ∧ e = .returned (.tuple #[.int .i64 (n : Int), .bool true])) ∨ ((∀ n, ¬ Num s n) ∧ e = .returned (.tuple #[.int .i64 0, .bool false]))) ∧ Below w.heap.size w w'
theorem NumE.no {s : List UInt8} {w w' : World} {e : Ending} (h : ∀ n, ¬ Num s n) (he : e = .returned (.tuple #[.int .i64 0, .bool false])) (hb : Below w.heap.size w w') : NumE s w e w' := ⟨.inr ⟨h, he⟩, hb⟩
theorem itoa_nat (n : Nat) : itoa (n : Int) = decDigits n := by unfold itoa; rw [if_neg (by omega)]; rfl
theorem num_bad_dig {s : ByteArray} {k : Nat} (h : k < s.size) (hb : ¬ isDig s[k]) : ∀ n, ¬ Num s.data.toList n := fun n hn =>
  hb (hn.dig _ (List.getElem_mem (l := s.data.toList) (n := k) (by simpa using h)))
theorem num_bad_over {s : ByteArray} {k : Nat} (h : k < s.size) (hb : ¬ 10 * digVal (s.data.toList.take k) + ((s[k]).toNat - 48) ≤ 9223372036854775807) : ∀ n, ¬ Num s.data.toList n := fun n hn => by
  have := hn.le (k + 1)
  rw [take_snoc s k h, digVal_snoc] at this
  omega
end Go.Proofs.YtcadoplfgclbjaaDoor

/- The contract of the model Number. -/
namespace Go.Proofs.YtcadoplfgclbjaaDoor
open Go.RowKit
open Go.Lib (decDigits itoa)
set_option maxRecDepth 100000 in
set_option maxHeartbeats 800000 in
theorem number_spec (s : ByteArray) (w : World) (hs : s.size ≤ maxLen) :
    Calls Tryd.prog 35 #[.string s] w (NumE s.data.toList w) := by
  unfold maxLen at hs
  by_cases h1 : s.size < 1
  · have hd : decide ((s.size : Int) < 1) = true := by simp; omega
    go_enter Tryd.func35, Tryd.ntmps35
    go_wp2
    go_ret2
    exact NumE.no (fun n h => h.ne (List.eq_nil_of_length_eq_zero (by have : s.data.toList.length = s.size := rfl; omega))) rfl (Below.refl _ _)
  · by_cases h19 : 19 < s.size
    · have hd : decide ((s.size : Int) < 1) = false := by simp; omega
      have hd2 : decide (19 < (s.size : Int)) = true := by simp; omega
      go_enter Tryd.func35, Tryd.ntmps35
      go_wp2
      go_ret2
      exact NumE.no (fun n h => by have := h.len; simp at this; omega) rfl (Below.refl _ _)
    · have hd : decide ((s.size : Int) < 1) = false := by simp; omega
      have hd2 : decide (19 < (s.size : Int)) = false := by simp; omega
      go_enter Tryd.func35, Tryd.ntmps35
      go_wp2
      clear hd hd2
      go_loop [4, 5, 6] (fun x i _ => ∃ k : Nat, k ≤ s.size ∧ i = .int .i64 (k : Int) ∧ x = .int .i64 (digVal (s.data.toList.take k) : Nat) ∧ digVal (s.data.toList.take k) ≤ 9223372036854775807 ∧ allDig (s.data.toList.take k)) (fun _ i _ => s.size - (intOf i).toNat)
      case atStart => exact ⟨0, by omega, rfl, rfl, by simp [digVal], by simp [allDig]⟩
      case round =>
        obtain ⟨k, hk, rfl, rfl, hv, ha⟩ := hrel
        have HA := Lib.hid ha; clear ha
        by_cases hlt : k < s.size
        · have hb := (s[k]).toNat_lt
          have HT := Lib.hid (show digVal (s.data.toList.take (k + 1)) = 10 * digVal (s.data.toList.take k) + ((s[k]).toNat - 48) by rw [take_snoc s k hlt, digVal_snoc])
          have HT2 := Lib.hid (take_snoc s k hlt)
          by_cases hlo : (s[k]).toNat < 48
          · have hd : decide (((s[k]).toNat : Int) < 48) = true := by simp; omega
            go_wp2_with fail
            go_ret2
            exact NumE.no (num_bad_dig hlt (fun h => by have := h.1; omega)) rfl (Below.refl _ _)
          · have hd : decide (((s[k]).toNat : Int) < 48) = false := by simp; omega
            by_cases hhi : 57 < (s[k]).toNat
            · have hd2 : decide (57 < ((s[k]).toNat : Int)) = true := by simp; omega
              go_wp2_with fail
              go_ret2
              exact NumE.no (num_bad_dig hlt (fun h => by have := h.2; omega)) rfl (Below.refl _ _)
            · have hd2 : decide (57 < ((s[k]).toNat : Int)) = false := by simp; omega
              generalize hV : digVal (s.data.toList.take k) = V at hv ⊢
              have HV := Lib.hid hV; clear hV
              by_cases hov : 10 * V + ((s[k]).toNat - 48) ≤ 9223372036854775807
              · have hq : ¬ (9223372036854775807 - (((s[k]).toNat : Int) - 48)) / 10 < (V : Int) := by omega
                go_wp2_with fail
                go_round
                case rel => exact ⟨k + 1, by omega, by go_num, by rw [HT.out, HV.out]; go_num, by rw [HT.out, HV.out]; exact hov, by rw [HT2.out]; exact allDig_snoc HA.out ⟨by omega, by omega⟩⟩
                case measure => simp [intOf]; omega
              · have hq : (9223372036854775807 - (((s[k]).toNat : Int) - 48)) / 10 < (V : Int) := by omega
                go_wp2_with fail
                go_ret2
                exact NumE.no (num_bad_over hlt (by rw [HV.out]; exact hov)) rfl (Below.refl _ _)
        · have e : k = s.size := by omega
          subst e
          have ht : s.data.toList.take s.size = s.data.toList := List.take_of_length_le (by simp)
          rw [ht] at hv HA ⊢; clear ht
          generalize hV : digVal s.data.toList = V at hv ⊢
          have HV := Lib.hid hV; clear hV
          go_wp2_with fail
          refine (digits_spec (V : Int) _ (by omega) (by omega)).mono ?_
          rw [itoa_nat]
          rintro e w1 ⟨rfl, hb1⟩
          go_wp2_with fail
          · have hq : (!decDigits V == s.toList) = true := by assumption
            go_ret2
            exact NumE.no (fun n h => by
              rw [Lib.toList_data, ← h.2, h.val, HV.out] at hq
              simp at hq) rfl hb1
          · have hq : (!decDigits V == s.toList) = false := by assumption
            go_ret2
            exact ⟨.inl ⟨V, ⟨hv, by rw [Lib.toList_data] at hq; simpa using hq⟩, rfl⟩, hb1⟩
end Go.Proofs.YtcadoplfgclbjaaDoor

/- The contract of Number, whose deferred closure recovers. -/
namespace Go.Proofs.YtcadoplfgclbjaaDoor
open Go.RowKit
open Go.Lib (decDigits itoa)

theorem withDigit_ok (n b : Nat) (w : World) (hb : 48 ≤ b) (hb2 : b ≤ 57) (h : 10 * n + (b - 48) ≤ 9223372036854775807) :
    Calls Tryd.prog 100 #[.int .i64 (n : Int), .int .u8 (b : Int)] w fun e w' => e = .returned (.int .i64 ((10 * n + (b - 48) : Nat) : Int)) ∧ w = w' := by
  have d1 : decide ((b : Int) < 48) = false := by simp; omega
  have d2 : decide (57 < (b : Int)) = false := by simp; omega
  have d3 : ¬ (9223372036854775807 - ((b : Int) - 48)) / 10 < (n : Int) := by omega
  go_enter Tryd.func100, Tryd.ntmps100
  go_wp2
  go_ret
  exact ⟨ret_i64 (by omega), rfl⟩
theorem withDigit_bad (n b : Nat) (w : World) (_hn : n ≤ 9223372036854775807) (hb : b < 256) (h : ¬ (48 ≤ b ∧ b ≤ 57 ∧ 10 * n + (b - 48) ≤ 9223372036854775807)) :
    Calls Tryd.prog 100 #[.int .i64 (n : Int), .int .u8 (b : Int)] w fun e w' => e = .panicked badChain ∧ w = w' := by
  by_cases h1 : b < 48
  · have d1 : decide ((b : Int) < 48) = true := by simp; omega
    go_enter Tryd.func100, Tryd.ntmps100
    go_wp2
    exact ⟨rfl, rfl, rfl⟩
  · have d1 : decide ((b : Int) < 48) = false := by simp; omega
    by_cases h2 : 57 < b
    · have d2 : decide (57 < (b : Int)) = true := by simp; omega
      go_enter Tryd.func100, Tryd.ntmps100
      go_wp2
      exact ⟨rfl, rfl, rfl⟩
    · have d2 : decide (57 < (b : Int)) = false := by simp; omega
      have d3 : (9223372036854775807 - ((b : Int) - 48)) / 10 < (n : Int) := by omega
      go_enter Tryd.func100, Tryd.ntmps100
      go_wp2
      exact ⟨rfl, rfl, rfl⟩

def RdE (s : List UInt8) (w : World) (e : Ending) (w' : World) : Prop :=
  w = w' ∧ ((∃ n : Nat, Num s n ∧ e = .returned (.int .i64 (n : Int))) ∨ ((∀ n, ¬ Num s n) ∧ e = .panicked badChain))
theorem RdE.no {s : List UInt8} {w : World} {e : Ending} (h : ∀ n, ¬ Num s n) (he : e = .panicked badChain) : RdE s w e w := ⟨rfl, .inr ⟨h, he⟩⟩

theorem rd_bad {s : ByteArray} {k : Nat} (h : k < s.size) (hb : ¬ (48 ≤ (s[k]).toNat ∧ (s[k]).toNat ≤ 57 ∧ 10 * digVal (s.data.toList.take k) + ((s[k]).toNat - 48) ≤ 9223372036854775807)) : ∀ n, ¬ Num s.data.toList n := by
  by_cases h1 : isDig s[k]
  · exact num_bad_over h (fun h2 => hb ⟨h1.1, h1.2, h2⟩)
  · exact num_bad_dig h h1

set_option maxRecDepth 100000 in
set_option maxHeartbeats 800000 in
theorem readNumber_any (s : ByteArray) (w : World) (hs : s.size ≤ maxLen) :
    Calls Tryd.prog 91 #[.string s] w (RdE s.data.toList w) := by
  unfold maxLen at hs
  have hlen : s.data.toList.length = s.size := rfl
  have htl : s.toList = s.data.toList := Lib.toList_data s
  by_cases hz : s.size = 0
  · have hn : s.data.toList = [] := List.eq_nil_of_length_eq_zero (by omega)
    have hE : s.toList = [] := htl.trans hn
    have HN := Lib.hid hn
    clear hn htl hlen hz
    go_enter Tryd.func91, Tryd.ntmps91
    go_wp2_with fail
    exact ⟨rfl, RdE.no (fun n h => h.ne HN.out) rfl⟩
  · have hpos : 0 < s.size := by omega
    obtain ⟨b, t, hbt⟩ : ∃ b t, s.data.toList = b :: t := by
      cases h : s.data.toList with
      | nil => rw [h] at hlen; simp at hlen; omega
      | cons b t => exact ⟨b, t, rfl⟩
    have hb0 : s[0] = b := by
      have : s.data.toList[0]'(by omega) = b := by simp [hbt]
      exact this
    have HNE : Hid (s.data.toList ≠ []) := by unfold Hid; rw [hbt]; simp
    have HT0 := Lib.hid htl
    have HB0 := Lib.hid hb0
    have HBT := Lib.hid hbt
    have hE1 : s.toList.isEmpty = false := by rw [htl, hbt]; rfl
    have hE2 : ¬ s.toList = [] := by rw [htl, hbt]; simp
    clear hz hlen htl hb0 hbt
    by_cases h48 : (s[0]).toNat = 48
    · have hq : (((s[0]).toNat : Int) == 48) = true := by rw [h48]; rfl
      by_cases hone : t = []
      · have hq2 : (!s.toList == [48]) = false := by
          have : b = 48 := UInt8.toNat_inj.1 (by rw [← HB0.out]; exact h48)
          rw [HT0.out, HBT.out, hone, this]; rfl
        have HZ : Hid (∀ b t, s.data.toList = b :: t → b.toNat = 48 → t = []) := fun b2 t2 h _ => by
          rw [HBT.out, hone] at h; exact (List.cons.inj h).2.symm
        clear h48
        go_enter Tryd.func91, Tryd.ntmps91
        go_wp2_with fail
        clear hq hq2 hE1 hE2
        go_loop [3, 4, 19] (fun x _ i => ∃ k : Nat, k ≤ s.size ∧ i = .int .i64 (k : Int) ∧ x = .int .i64 (digVal (s.data.toList.take k) : Nat) ∧ digVal (s.data.toList.take k) ≤ 9223372036854775807 ∧ allDig (s.data.toList.take k)) (fun _ _ i => s.size - (intOf i).toNat)
        case atStart => exact ⟨0, by omega, rfl, rfl, by simp [digVal], by simp [allDig]⟩
        case round =>
          obtain ⟨k, hk, rfl, rfl, hv, ha⟩ := hrel
          have HA := Lib.hid ha; clear ha
          by_cases hlt : k < s.size
          · have hb := (s[k]).toNat_lt
            have HT := Lib.hid (show digVal (s.data.toList.take (k + 1)) = 10 * digVal (s.data.toList.take k) + ((s[k]).toNat - 48) by rw [take_snoc s k hlt, digVal_snoc])
            have HT2 := Lib.hid (take_snoc s k hlt)
            generalize hV : digVal (s.data.toList.take k) = V at hv ⊢
            have HV := Lib.hid hV; clear hV
            by_cases hov : 48 ≤ (s[k]).toNat ∧ (s[k]).toNat ≤ 57 ∧ 10 * V + ((s[k]).toNat - 48) ≤ 9223372036854775807
            · have HOV := Lib.hid hov; clear hov
              go_wp2_with (go_at_call 100; refine (withDigit_ok V (s[k]).toNat _ HOV.out.1 HOV.out.2.1 HOV.out.2.2).mono ?_; rintro e w' ⟨rfl, rfl⟩)
              go_round
              case rel => exact ⟨k + 1, by omega, by go_num, by rw [HT.out, HV.out]; exact congrArg _ (by omega), by rw [HT.out, HV.out]; exact HOV.out.2.2, by rw [HT2.out]; exact allDig_snoc HA.out ⟨HOV.out.1, HOV.out.2.1⟩⟩
              case measure => simp [intOf]; omega
            · have HOV := Lib.hid hov; clear hov
              go_wp2_with (go_at_call 100; refine (withDigit_bad V (s[k]).toNat _ hv hb HOV.out).mono ?_; rintro e w' ⟨rfl, rfl⟩)
              exact ⟨rfl, RdE.no (rd_bad hlt (by rw [HV.out]; exact HOV.out)) rfl⟩
          · have e : k = s.size := by omega
            subst e
            have ht : s.data.toList.take s.size = s.data.toList := List.take_of_length_le (by simp)
            rw [ht] at hv HA ⊢; clear ht
            go_wp2_with fail
            go_ret
            exact ⟨rfl, .inl ⟨_, num_of HNE.out HA.out hv HZ.out, rfl⟩⟩
      · have hq2 : (!s.toList == [48]) = true := by
          rw [HT0.out, HBT.out]; simp [hone]
        have H48 := Lib.hid h48
        clear h48
        go_enter Tryd.func91, Tryd.ntmps91
        go_wp2_with fail
        exact ⟨rfl, RdE.no (fun n h => hone (h.lead HBT.out (by rw [← HB0.out]; exact H48.out))) rfl⟩
    · have hq : (((s[0]).toNat : Int) == 48) = false := by simp; omega
      have HZ : Hid (∀ b t, s.data.toList = b :: t → b.toNat = 48 → t = []) := fun b2 t2 h h2 => by
        rw [HBT.out] at h
        have := (List.cons.inj h).1
        exact absurd (by rw [HB0.out, this]; exact h2) h48
      clear h48
      go_enter Tryd.func91, Tryd.ntmps91
      go_wp2_with fail
      clear hq hE1 hE2
      go_loop [3, 4, 19] (fun x _ i => ∃ k : Nat, k ≤ s.size ∧ i = .int .i64 (k : Int) ∧ x = .int .i64 (digVal (s.data.toList.take k) : Nat) ∧ digVal (s.data.toList.take k) ≤ 9223372036854775807 ∧ allDig (s.data.toList.take k)) (fun _ _ i => s.size - (intOf i).toNat)
      case atStart => exact ⟨0, by omega, rfl, rfl, by simp [digVal], by simp [allDig]⟩
      case round =>
        obtain ⟨k, hk, rfl, rfl, hv, ha⟩ := hrel
        have HA := Lib.hid ha; clear ha
        by_cases hlt : k < s.size
        · have hb := (s[k]).toNat_lt
          have HT := Lib.hid (show digVal (s.data.toList.take (k + 1)) = 10 * digVal (s.data.toList.take k) + ((s[k]).toNat - 48) by rw [take_snoc s k hlt, digVal_snoc])
          have HT2 := Lib.hid (take_snoc s k hlt)
          generalize hV : digVal (s.data.toList.take k) = V at hv ⊢
          have HV := Lib.hid hV; clear hV
          by_cases hov : 48 ≤ (s[k]).toNat ∧ (s[k]).toNat ≤ 57 ∧ 10 * V + ((s[k]).toNat - 48) ≤ 9223372036854775807
          · have HOV := Lib.hid hov; clear hov
            go_wp2_with (go_at_call 100; refine (withDigit_ok V (s[k]).toNat _ HOV.out.1 HOV.out.2.1 HOV.out.2.2).mono ?_; rintro e w' ⟨rfl, rfl⟩)
            go_round
            case rel => exact ⟨k + 1, by omega, by go_num, by rw [HT.out, HV.out]; exact congrArg _ (by omega), by rw [HT.out, HV.out]; exact HOV.out.2.2, by rw [HT2.out]; exact allDig_snoc HA.out ⟨HOV.out.1, HOV.out.2.1⟩⟩
            case measure => simp [intOf]; omega
          · have HOV := Lib.hid hov; clear hov
            go_wp2_with (go_at_call 100; refine (withDigit_bad V (s[k]).toNat _ hv hb HOV.out).mono ?_; rintro e w' ⟨rfl, rfl⟩)
            exact ⟨rfl, RdE.no (rd_bad hlt (by rw [HV.out]; exact HOV.out)) rfl⟩
        · have e : k = s.size := by omega
          subst e
          have ht : s.data.toList.take s.size = s.data.toList := List.take_of_length_le (by simp)
          rw [ht] at hv HA ⊢; clear ht
          go_wp2_with fail
          go_ret
          exact ⟨rfl, .inl ⟨_, num_of HNE.out HA.out hv HZ.out, rfl⟩⟩

theorem numCatch_panicking (B : Nat) (x y : Value) (u : TypeId) (pv : Value) (older : List PanicEntry) (w : World)
    (hc0 : w.cell? ⟨B, 0, none⟩ = some x) (hc1 : w.cell? ⟨B + 1, 0, none⟩ = some y)
    (hz0 : w.frozen? ⟨B, 0, none⟩ = false) (hz1 : w.frozen? ⟨B + 1, 0, none⟩ = false) :
    CallsD Tryd.prog 90 #[.pointer (some ⟨B, 0, none⟩), .pointer (some ⟨B + 1, 0, none⟩)] (.panicking ({ v := .iface u pv, recovered := false } :: older)) w fun e u' w' =>
      e = .returned (.tuple #[]) ∧ u' = .panicking ({ v := .iface u pv, recovered := true } :: older) ∧ w' = (w.setCell ⟨B, 0, none⟩ (.int .i64 0)).setCell ⟨B + 1, 0, none⟩ (.bool false) := by
  refine callsD_of_wpS Tryd.func90 rfl fun c₀ cs hu => ?_
  apply wpS_seq
  apply wpS_region
  simp [wpOpsS, go_sem, recoverD, hu, Tryd.ntmps90, Exit.thenS]
  refine wpS_cond (t := true) (by simp [Act.eval, Array.replicate]) ?_
  simp only [if_true]
  apply wpS_region
  simp [wpOpsS, go_sem, hc0, hc1, hz0, hz1, bodyPostS, results, Tryd.results90]

theorem numCatch_idle (B : Nat) (w : World) :
    CallsD Tryd.prog 90 #[.pointer (some ⟨B, 0, none⟩), .pointer (some ⟨B + 1, 0, none⟩)] .returning w fun e u' w' => e = .returned (.tuple #[]) ∧ u' = .returning ∧ w' = w := by
  refine callsD_of_wpS Tryd.func90 rfl fun c₀ cs hu => ?_
  apply wpS_seq
  apply wpS_region
  simp [wpOpsS, go_sem, recoverD, hu, Tryd.ntmps90, Exit.thenS]
  refine wpS_cond (t := false) (by simp [Act.eval, Array.replicate]) ?_
  simp only [Bool.false_eq_true, if_false]
  refine wpS_of_wp (wp_skip ?_)
  cases c₀
  simp_all [bodyPostS, results, Tryd.results90]

set_option maxRecDepth 100000 in
set_option maxHeartbeats 800000 in
theorem number_impl (s : ByteArray) (w : World) (hs : s.size ≤ maxLen) :
    Calls Tryd.prog 70 #[.string s] w (NumE s.data.toList w) := by
  have hmf : ∀ (fn : Fn) (first cap : Array Value) (w : World), (Instr.makeFunc fn first cap).run Tryd.prog w = .ok (.func fn first cap) w := fun _ _ _ _ => rfl
  go_enter_defers Tryd.func70, Tryd.ntmps70
  go_wp2_with fail
  refine (readNumber_any s _ hs).mono ?_
  rintro e w' ⟨rfl, ⟨n, hg, rfl⟩ | ⟨hno, rfl⟩⟩
  · have HG := Lib.hid hg; clear hg
    go_wp2_with fail
    refine leaves_cons (f := 90) (args := #[.pointer (some ⟨w.heap.size, 0, none⟩), .pointer (some ⟨w.heap.size + 1, 0, none⟩)]) (by simp) (by simp [go_sem]) ?_
    refine (numCatch_idle w.heap.size _).mono ?_
    rintro e u' w'' ⟨rfl, rfl, rfl⟩
    simp [Leaves, settle, results, Tryd.results70, go_sem]
    exact ⟨.inl ⟨n, HG.out, rfl⟩, ((Below.refl _ _).alloc (Nat.le_refl _) _).alloc (by simp) _⟩
  · have HN := Lib.hid hno; clear hno
    go_wp2_with fail
    refine leaves_cons (f := 90) (args := #[.pointer (some ⟨w.heap.size, 0, none⟩), .pointer (some ⟨w.heap.size + 1, 0, none⟩)]) (by simp) (by simp [go_sem]) ?_
    refine (numCatch_panicking w.heap.size (.int .i64 0) (.bool false) 9 (.string badText) [] _ ?_ ?_ ?_ ?_).mono ?_
    · simp [go_sem]
    · simp [go_sem]
    · simp [go_sem]
    · simp [go_sem]
    rintro e u' w'' ⟨rfl, rfl, rfl⟩
    simp [Leaves, settle, results, Tryd.results70, go_sem]
    exact NumE.no HN.out rfl (((Below.refl _ _).alloc (Nat.le_refl _) _).alloc (by simp) _)
end Go.Proofs.YtcadoplfgclbjaaDoor
