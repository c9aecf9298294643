
/- The contract of the model Digits. -/
import Derived.Test.YtelbcfipkanfkaaDoorBase
import Derived.Test.YtelbcfipkanfkaaDoorOwn
import Derived.Test.YtelbcfipkanfkaaDoorDecMath
namespace Go.Proofs.YtelbcfipkanfkaaDoor
open Go.RowKit
open Go.Lib (decDigits itoa)

/-- the byte of a digit -/
def dgB (d : Nat) : UInt8 := UInt8.ofNat (48 + d)
theorem dgB_nat {d : Nat} (h : d < 10) : (dgB d).toNat = 48 + d := nat_dig h
/-- what is still to be written -/
def decR (y : Nat) : List UInt8 := if y = 0 then [] else decDigits y
theorem decR_step {y : Nat} (h : 0 < y) : decR y = decR (y / 10) ++ [dgB (y % 10)] := by
  unfold decR
  rw [if_neg (by omega)]
  by_cases hs : y < 10
  · rw [dec_small hs, if_pos (by omega), Nat.mod_eq_of_lt hs]; rfl
  · rw [dec_big hs, if_neg (by omega)]; rfl
theorem dig_step {m y : Nat} {out : ByteArray} (hy : 0 < y) (h : decDigits m = decR y ++ out.data.toList) : decDigits m = decR (y / 10) ++ (⟨#[dgB (y % 10)]⟩ ++ out : ByteArray).data.toList := by
  rw [h, decR_step hy]; simp
theorem dig_len {m y : Nat} {out : ByteArray} (hm : m < 10 ^ 19) (h : decDigits m = decR y ++ out.data.toList) : out.size ≤ 19 := by
  have h1 := dec_len 18 m hm
  rw [h, List.length_append] at h1
  have : out.data.toList.length = out.size := rfl
  omega
theorem ret_ba {a : ByteArray} {l : List UInt8} (h : l = a.data.toList) : Ending.returned (.string a) = .returned (.string ⟨l.toArray⟩) := by rw [h]
theorem tmod_neg (y : Nat) : (-(y : Int)).tmod 10 = -((y : Int) % 10) := by rw [Int.neg_tmod]; rfl
theorem tdiv_neg (y : Nat) : (-(y : Int)).tdiv 10 = -((y : Int) / 10) := by rw [Int.neg_tdiv]; rfl

set_option maxRecDepth 100000 in
set_option maxHeartbeats 800000 in
theorem digits_pos (m : Nat) (w : World) (h0 : 0 < m) (h1 : m ≤ 9223372036854775807) :
    Calls Tryd.prog 9 #[.int .i64 (m : Int)] w (StrE (decDigits m) w) := by
  have hq : ((m : Int) == 0) = false := by simp; omega
  have hq2 : decide ((m : Int) < 0) = false := by simp
  go_enter Tryd.func9, Tryd.ntmps9
  go_wp2
  clear hq hq2
  go_loopw [0, 4, 5] (fun x o _ wr => ∃ (y : Nat) (out : ByteArray), y ≤ m ∧ x = .int .i64 (y : Int) ∧ o = .string out ∧ out.size ≤ 19 ∧ Hid (decDigits m = decR y ++ out.data.toList) ∧ Below w.heap.size w wr) (fun x _ _ _ => (intOf x).toNat)
  case atStart => exact ⟨m, ⟨#[]⟩, Nat.le_refl _, rfl, rfl, by decide, by unfold Hid decR; rw [if_neg (by omega)]; simp, Below.refl _ _⟩
  case round =>
    obtain ⟨y, out, hy, rfl, rfl, hos, HD, hbel⟩ := hrel
    by_cases hy0 : 0 < y
    · have hne : ((y : Int) != 0) = true := by simp; omega
      have hcv := conv_one (P := Tryd.prog) wr (dgB (y % 10)) (48 + (y : Int) % 10) (by rw [dgB_nat (by omega)]; omega) Tryd.underlying34 Tryd.underlying5 Tryd.underlying9
      have hsz := hbel.size
      go_wp2_with fail
      go_roundw
      case rel => exact ⟨y / 10, _, by omega, by go_num, rfl, dig_len (m := m) (by omega) (dig_step hy0 HD.out), dig_step hy0 HD.out, hbel.alloc hsz _⟩
      case measure => simp [intOf]; omega
    · have hne : ((y : Int) != 0) = false := by simp; omega
      go_wp2_with fail
      go_ret
      exact ⟨ret_ba (by rw [HD.out, decR, if_pos (by omega)]; rfl), hbel⟩

set_option maxRecDepth 100000 in
set_option maxHeartbeats 800000 in
theorem digits_neg (m : Nat) (w : World) (h0 : 0 < m) (h1 : m ≤ 9223372036854775808) :
    Calls Tryd.prog 9 #[.int .i64 (-(m : Int))] w (StrE (45 :: decDigits m) w) := by
  have hq : (-(m : Int) == 0) = false := by simp; omega
  have hq2 : decide (-(m : Int) < 0) = true := by simp; omega
  go_enter Tryd.func9, Tryd.ntmps9
  go_wp2
  clear hq hq2
  go_loopw [0, 4, 5] (fun x o _ wr => ∃ (y : Nat) (out : ByteArray), y ≤ m ∧ x = .int .i64 (-(y : Int)) ∧ o = .string out ∧ out.size ≤ 19 ∧ Hid (decDigits m = decR y ++ out.data.toList) ∧ Below w.heap.size w wr) (fun x _ _ _ => (-(intOf x)).toNat)
  case atStart => exact ⟨m, ⟨#[]⟩, Nat.le_refl _, rfl, rfl, by decide, by unfold Hid decR; rw [if_neg (by omega)]; simp, Below.refl _ _⟩
  case round =>
    obtain ⟨y, out, hy, rfl, rfl, hos, HD, hbel⟩ := hrel
    by_cases hy0 : 0 < y
    · have hne : (-(y : Int) != 0) = true := by simp; omega
      have hsz := hbel.size
      have t2 := tdiv_neg y
      by_cases hr : y % 10 = 0
      · have t1 : (-(y : Int)).tmod 10 = 0 := by rw [tmod_neg]; omega
        have HS : Hid (decDigits m = decR (y / 10) ++ (⟨#[dgB 0]⟩ ++ out : ByteArray).data.toList) := by have := dig_step hy0 HD.out; rw [hr] at this; exact this
        clear hr
        have hcv := conv_one (P := Tryd.prog) wr (dgB 0) 48 (by rw [dgB_nat (by omega)]; omega) Tryd.underlying34 Tryd.underlying5 Tryd.underlying9
        go_wp2_with fail
        go_roundw
        case rel => exact ⟨y / 10, _, by omega, by rw [Int.natCast_ediv]; rfl, rfl, dig_len (m := m) (by omega) (HS.out), HS.out, hbel.alloc hsz _⟩
        case measure => simp [intOf]; omega
      · have t1 := tmod_neg y
        have hcv := conv_one (P := Tryd.prog) wr (dgB (y % 10)) (48 + (y : Int) % 10) (by rw [dgB_nat (by omega)]; omega) Tryd.underlying34 Tryd.underlying5 Tryd.underlying9
        have hr2 : decide (-((y : Int) % 10) < 0) = true := by simp; omega
        go_wp2_with fail
        go_roundw
        case rel => exact ⟨y / 10, _, by omega, by rw [Int.natCast_ediv]; rfl, rfl, dig_len (m := m) (by omega) (dig_step hy0 HD.out), dig_step hy0 HD.out, hbel.alloc hsz _⟩
        case measure => simp [intOf]; omega
    · have hne : (-(y : Int) != 0) = false := by simp; omega
      go_wp2_with fail
      go_ret
      exact ⟨ret_ba (by rw [HD.out, decR, if_pos (by omega)]; rfl), hbel⟩

theorem digits_spec (n : Int) (w : World) (h0 : -9223372036854775808 ≤ n) (h1 : n ≤ 9223372036854775807) :
    Calls Tryd.prog 9 #[.int .i64 n] w (StrE (itoa n) w) := by
  by_cases hz : n = 0
  · subst hz
    have e : itoa 0 = [48] := by unfold itoa; rw [if_neg (by omega)]; exact dec_small (by omega)
    rw [e]
    go_enter Tryd.func9, Tryd.ntmps9
    go_wp2
    go_ret
    exact ⟨rfl, Below.refl _ _⟩
  · by_cases hp : 0 < n
    · have e : itoa n = decDigits n.toNat := by unfold itoa; rw [if_neg (by omega)]
      have e2 : n = ((n.toNat : Nat) : Int) := by omega
      rw [e, e2]
      exact digits_pos n.toNat w (by omega) (by omega)
    · have e : itoa n = 45 :: decDigits n.natAbs := by unfold itoa; rw [if_pos (by omega)]
      have e2 : n = -((n.natAbs : Nat) : Int) := by omega
      rw [e]
      have h := digits_neg n.natAbs w (by omega) (by omega)
      rw [← e2] at h
      exact h
end Go.Proofs.YtelbcfipkanfkaaDoor
