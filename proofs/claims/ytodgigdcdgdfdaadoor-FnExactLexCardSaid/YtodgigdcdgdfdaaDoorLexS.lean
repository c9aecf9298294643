/- Contracts of the model's scanning functions: l1Min, l3Run. -/
import Derived.Test.YtodgigdcdgdfdaaDoorSignS
namespace Go.Proofs.YtodgigdcdgdfdaaDoor
open Go.RowKit

theorem min_spec (a b : Nat) (w : World) : Calls Tryd.prog 77 #[.int .i64 (a : Int), .int .i64 (b : Int)] w (PureE (.int .i64 ((min a b : Nat) : Int)) w) := by
  by_cases h : a < b
  · have hd : decide ((a : Int) < (b : Int)) = true := by simpa using h
    have e : min a b = a := Nat.min_eq_left (by omega)
    rw [e]
    go_enter Tryd.func77, Tryd.ntmps77
    go_wp2
    go_ret
    exact ⟨rfl, rfl⟩
  · have hd : decide ((a : Int) < (b : Int)) = false := by simpa using h
    have e : min a b = b := Nat.min_eq_right (by omega)
    rw [e]
    go_enter Tryd.func77, Tryd.ntmps77
    go_wp2
    go_ret
    exact ⟨rfl, rfl⟩

set_option maxRecDepth 100000 in
set_option maxHeartbeats 800000 in
theorem run_spec (s : ByteArray) (a : Nat) (w : World) (ha : a ≤ s.size) (hs : s.size ≤ 9000000000000000000) :
    Calls Tryd.prog 78 #[.string s, .int .i64 (a : Int)] w (PureE (.int .i64 (runEnd s.data.toList a : Nat)) w) := by
  have hlen : s.data.toList.length = s.size := rfl
  go_enter Tryd.func78, Tryd.ntmps78
  go_wp2_with fail
  go_loopw [1] (fun i wr => ∃ k : Nat, k ≤ s.size ∧ i = .int .i64 (k : Int) ∧ Hid (runEnd s.data.toList a = runEnd s.data.toList k) ∧ wr = w) (fun i _ => s.size - (intOf i).toNat)
  case atStart => exact ⟨a, ha, rfl, rfl, rfl⟩
  case round =>
    obtain ⟨k, hk, rfl, HK, rfl⟩ := hrel
    by_cases hlt : k < s.size
    · have hlt2 : (k : Int) < (s.size : Int) := by omega
      go_wp2_with fail
      refine (l2Letter_any _ _).mono ?_
      rintro e w1 ⟨rfl, rfl⟩
      rw [lstr_at hlt]
      cases h1 : (ltr ((s.data.toList.getD k 0).toNat : Int) || ((s.data.toList.getD k 0).toNat : Int) == 95)
      · go_wp2_with fail
        refine (l2Figure_any _ _).mono ?_
        rintro e w1 ⟨rfl, rfl⟩
        rw [lstr_at hlt]
        cases h2 : dg ((s.data.toList.getD k 0).toNat : Int)
        · have hf := Lib.hid (runEnd_no (l := s.data.toList) (k := k) hlt (by rw [lwd_eq, h1, h2]; rfl))
          clear h1 h2
          go_wp2_with fail
          go_ret
          exact ⟨by rw [HK.out, hf.out]; rfl, rfl⟩
        · have hf := Lib.hid (runEnd_yes (l := s.data.toList) (k := k) hlt (by rw [lwd_eq, h1, h2]; rfl))
          clear h1 h2
          go_wp2_with fail
          go_roundw
          case rel => exact ⟨k + 1, by omega, by go_num, by rw [HK.out, hf.out]; rfl, trivial⟩
          case measure => simp [intOf]; omega
      · have hf := Lib.hid (runEnd_yes (l := s.data.toList) (k := k) hlt (by rw [lwd_eq, h1]; simp))
        clear h1
        go_wp2_with fail
        go_roundw
        case rel => exact ⟨k + 1, by omega, by go_num, by rw [HK.out, hf.out]; rfl, trivial⟩
        case measure => simp [intOf]; omega
    · have hf := Lib.hid (runEnd_out (l := s.data.toList) (k := k) hlt)
      go_wp2_with fail
      go_ret
      exact ⟨by rw [HK.out, hf.out]; rfl, rfl⟩
end Go.Proofs.YtodgigdcdgdfdaaDoor
