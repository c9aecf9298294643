/- Contracts of the check sum: what withByte and the two functions Crc return. -/
import Derived.Test.YtojafonpfcpmjaaNum
import Derived.Test.YtojafonpfcpmjaaMath
namespace Go.Proofs.Ytojafonpfcpmjaa
open Go.RowKit

theorem ret_u32 {a b : Int} (h : a = b) : Ending.returned (.int .u32 a) = .returned (.int .u32 b) := by rw [h]

set_option maxHeartbeats 400000 in
theorem withByte_any (s b : Nat) (w : World) (h1 : s < 4294967296) (b1 : b < 256) :
    Calls Try.prog 34 #[.int .u32 s, .int .u8 b] w fun e w' => e = .returned (.int .u32 (crcByte s b : Nat)) ∧ w = w' := by
  have hx := xor_u32 s b h1 (by omega)
  go_enter Try.func34, Try.ntmps34
  go_wp2
  go_loop [0, 5, 10] (fun s' t k => ∃ j : Nat, k = .int .i64 j ∧ j ≤ 8 ∧ s' = .int .u32 (crcTurn j (s ^^^ b) : Nat)) (fun _ _ k => 8 - (intOf k).toNat)
  case atStart => exact ⟨0, rfl, by omega, rfl⟩
  case round =>
    obtain ⟨j, rfl, hj, rfl⟩ := hrel
    clear hx
    have hlt := crcTurn_lt (xor_lt32 h1 (show b < 4294967296 by omega)) j
    by_cases h8 : j < 8
    · generalize hc : crcTurn j (s ^^^ b) = c at hlt ⊢
      have HC := Lib.hid hc; clear hc
      have h5 : bits .xor .u32 ((c : Int) / 2) 3988292384 = ((c / 2 ^^^ 3988292384 : Nat) : Int) := xor_u32 (c / 2) 3988292384 (by omega) (by omega)
      have h3 := and1_u32 c hlt
      by_cases hp : c % 2 = 1
      · have h4 : ((c : Int) % 2 == 1) = true := by simp; omega
        have HP := Lib.hid hp; clear hp
        go_wp2
        go_round
        case rel => exact ⟨j + 1, by go_num, by omega, by rw [crcTurn, HC.out, crcStep_odd _ HP.out]⟩
        case measure => simp [intOf]; omega
      · have h4 : ((c : Int) % 2 == 1) = false := by simp; omega
        have HP := Lib.hid hp; clear hp
        go_wp2
        go_round
        case rel => exact ⟨j + 1, by go_num, by omega, by rw [crcTurn, HC.out, crcStep_even _ HP.out]; go_num⟩
        case measure => simp [intOf]; omega
    · go_wp2
      go_ret
      have e : j = 8 := by omega
      subst e
      exact ⟨rfl, rfl⟩

set_option maxHeartbeats 400000 in
theorem crc_impl (s : ByteArray) (w : World) (hs : s.size ≤ maxLen) :
    Calls Try.prog 22 #[.string s] w fun e w' => e = .returned (.int .i64 (crcOf s.data.toList : Nat)) ∧ w = w' := by
  unfold maxLen at hs
  go_enter Try.func22, Try.ntmps22
  go_wp2
  go_loop [3, 4, 7] (fun r i k => ∃ j : Nat, k = .int .i64 j ∧ j ≤ s.size ∧ r = .int .u32 (crcFold 4294967295 (s.data.toList.take j) : Nat)) (fun _ _ k => s.size - (intOf k).toNat)
  case atStart => exact ⟨0, rfl, by omega, rfl⟩
  case round =>
    obtain ⟨j, rfl, hj, rfl⟩ := hrel
    by_cases hlt : j < s.size
    · have hb := crcFold_lt (x := 4294967295) (by omega) (s.data.toList.take j)
      have HS : Hid (crcFold 4294967295 (s.data.toList.take (j + 1)) = crcByte (crcFold 4294967295 (s.data.toList.take j)) (s[j]).toNat) := by
        rw [take_snoc s j hlt, crcFold_snoc]; exact rfl
      have hu : (s[j]).toNat < 256 := (s[j]).toNat_lt
      go_wp2_with (go_at_call 34; refine (withByte_any _ _ _ hb hu).mono ?_; rintro e w' ⟨rfl, rfl⟩)
      go_round
      case rel => exact ⟨j + 1, by go_num, by omega, by rw [HS.out]⟩
      case measure => simp [intOf]; omega
    · have e : j = s.size := by omega
      subst e
      have ht : s.data.toList.take s.size = s.data.toList := List.take_of_length_le (by simp)
      rw [ht]; clear ht
      have hb := crcFold_lt (x := 4294967295) (by omega) s.data.toList
      have hx : bits .xor .u32 (crcFold 4294967295 s.data.toList : Nat) 4294967295 = (crcOf s.data.toList : Nat) := xor_u32 (crcFold 4294967295 s.data.toList) 4294967295 hb (by omega)
      have hy : crcOf s.data.toList < 4294967296 := xor_lt32 hb (by omega)
      clear hb
      go_wp2
      go_ret
      exact ⟨rfl, rfl⟩

set_option maxHeartbeats 400000 in
theorem crc_spec (s : ByteArray) (w : World) (hs : s.size ≤ maxLen) :
    Calls Try.prog 23 #[.string s] w fun e w' => e = .returned (.int .i64 (crcOf s.data.toList : Nat)) ∧ w = w' := by
  unfold maxLen at hs
  go_enter Try.func23, Try.ntmps23
  go_wp2
  go_loop [3, 4, 5, 6] (fun r i _ _ => ∃ j : Nat, i = .int .i64 j ∧ j ≤ s.size ∧ r = .int .i64 (crcFold 4294967295 (s.data.toList.take j) : Nat)) (fun _ i _ _ => s.size - (intOf i).toNat)
  case atStart => exact ⟨0, rfl, by omega, rfl⟩
  case round =>
    obtain ⟨j, rfl, hj, rfl⟩ := hrel
    by_cases hlt : j < s.size
    · have hb := crcFold_lt (x := 4294967295) (by omega) (s.data.toList.take j)
      have HS : Hid (crcFold 4294967295 (s.data.toList.take (j + 1)) = crcByte (crcFold 4294967295 (s.data.toList.take j)) (s[j]).toNat) := by
        rw [take_snoc s j hlt, crcFold_snoc]; exact rfl
      have hu : (s[j]).toNat < 256 := (s[j]).toNat_lt
      have hx := xor_i64 (crcFold 4294967295 (s.data.toList.take j)) (s[j]).toNat hb (by omega)
      have hy := xor_lt32 hb (show (s[j]).toNat < 4294967296 by omega)
      go_wp2
      clear hx hb
      go_loop [3, 5, 6] (fun r k _ => ∃ m : Nat, k = .int .i64 m ∧ m ≤ 8 ∧ r = .int .i64 (crcTurn m (crcFold 4294967295 (s.data.toList.take j) ^^^ (s[j]).toNat) : Nat)) (fun _ k _ => 8 - (intOf k).toNat)
      case atStart => exact ⟨0, rfl, by omega, rfl⟩
      case round =>
        obtain ⟨m, rfl, hm, rfl⟩ := hrel
        have hlt2 := crcTurn_lt hy m
        by_cases h8 : m < 8
        · have HC : Hid (crcTurn (m + 1) (crcFold 4294967295 (s.data.toList.take j) ^^^ (s[j]).toNat) = crcStep (crcTurn m (crcFold 4294967295 (s.data.toList.take j) ^^^ (s[j]).toNat))) := rfl
          generalize crcTurn m (crcFold 4294967295 (s.data.toList.take j) ^^^ (s[j]).toNat) = c at hlt2 HC ⊢
          clear hy
          have h5 : bits .xor .i64 ((c : Int) / 2) 3988292384 = ((c / 2 ^^^ 3988292384 : Nat) : Int) := xor_i64 (c / 2) 3988292384 (by omega) (by omega)
          by_cases hp : c % 2 = 1
          · have h4 : ((c : Int) % 2 == 1) = true := by simp; omega
            have HP := Lib.hid hp; clear hp
            go_wp2
            go_round
            case rel => exact ⟨m + 1, by go_num, by omega, by rw [HC.out, crcStep_odd _ HP.out]⟩
            case measure => simp [intOf]; omega
          · have h4 : ((c : Int) % 2 == 1) = false := by simp; omega
            have HP := Lib.hid hp; clear hp
            go_wp2
            go_round
            case rel => exact ⟨m + 1, by go_num, by omega, by rw [HC.out, crcStep_even _ HP.out]; go_num⟩
            case measure => simp [intOf]; omega
        · have e : m = 8 := by omega
          subst e
          go_wp2
          go_round
          case rel => exact ⟨j + 1, by go_num, by omega, by rw [HS.out]; rfl⟩
          case measure => simp [intOf]; omega
    · have e : j = s.size := by omega
      subst e
      have ht : s.data.toList.take s.size = s.data.toList := List.take_of_length_le (by simp)
      rw [ht]; clear ht
      have hb := crcFold_lt (x := 4294967295) (by omega) s.data.toList
      have hx : bits .xor .i64 (crcFold 4294967295 s.data.toList : Nat) 4294967295 = (crcOf s.data.toList : Nat) := xor_i64 (crcFold 4294967295 s.data.toList) 4294967295 hb (by omega)
      clear hb
      go_wp2
      go_ret
      exact ⟨rfl, rfl⟩
end Go.Proofs.Ytojafonpfcpmjaa
