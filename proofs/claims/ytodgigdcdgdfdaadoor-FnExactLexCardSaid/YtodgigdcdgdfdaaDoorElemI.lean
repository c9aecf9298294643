/- Contracts of the small functions of the program's lexer. -/
import Derived.Test.YtodgigdcdgdfdaaDoorElem
import Derived.Test.YtodgigdcdgdfdaaDoorMaxI
import Derived.Test.YtodgigdcdgdfdaaDoorNameI
import Derived.Test.YtodgigdcdgdfdaaDoorKeyOf
import Derived.Test.YtodgigdcdgdfdaaDoorShelf
namespace Go.Proofs.YtodgigdcdgdfdaaDoor
open Go.RowKit

theorem isSpace_impl (b : UInt8) (w : World) : Calls Tryd.prog 63 #[.int .u8 (b.toNat : Int)] w (PureE (.bool (spB b)) w) := by
  rcases sp_cases b with ⟨h, h1, h2, h3, h4⟩ | ⟨h, h1⟩
  · rw [h]
    clear h
    generalize (b.toNat : Int) = n at *
    go_enter Tryd.func63, Tryd.ntmps63
    go_wp2
    go_ret
    exact ⟨rfl, rfl⟩
  · rw [h]
    clear h
    rcases h1 with rfl | rfl | rfl | rfl <;>
    (go_enter Tryd.func63, Tryd.ntmps63
     go_wp2
     go_ret
     exact ⟨rfl, rfl⟩)

theorem lineSize_impl (s : ByteArray) (w : World) (hs : s.size ≤ 4000000) :
    Calls Tryd.prog 65 #[.string s] w (PureE (.int .i64 (lineEnd s.data.toList 0 : Nat)) w) := by
  have hI := fun w => Tryd.strings_IndexByte s 10 w
  have hE := line_index s.data.toList
  have hge := Lib.indexByte_ge s.data.toList 10
  have e10 : (10 : Int).toNat.toUInt8 = 10 := rfl
  rw [e10] at hI
  clear e10
  generalize Lib.indexByte s.data.toList 10 = i at *
  by_cases h : 0 ≤ i
  · have d : decide (0 ≤ i) = true := by simpa using h
    rw [if_pos h] at hE
    have HE := Lib.hid hE; clear hE
    go_enter Tryd.func65, Tryd.ntmps65
    go_wp2_with fail
    refine (hI _).mono ?_
    rintro e w1 ⟨rfl, rfl⟩
    go_wp2_with fail
    go_ret
    exact ⟨by rw [HE.out, Int.toNat_of_nonneg h]; rfl, rfl⟩
  · have d : decide (0 ≤ i) = false := by simpa using h
    rw [if_neg h] at hE
    have HE := Lib.hid hE; clear hE
    go_enter Tryd.func65, Tryd.ntmps65
    go_wp2_with fail
    refine (hI _).mono ?_
    rintro e w1 ⟨rfl, rfl⟩
    go_wp2_with fail
    go_ret
    exact ⟨by rw [HE.out]; rfl, rfl⟩

theorem blockSize_impl (s : ByteArray) (w : World) (hs : s.size ≤ 4000000) (h2 : 2 ≤ s.size) (hm : MaxI w) :
    Calls Tryd.prog 66 #[.string s] w (PureE (.int .i64 (longLen s.data.toList : Nat)) w) := by
  obtain ⟨m, hm1⟩ := hm
  have hI : ∀ sub : ByteArray, sub.data.toList = [42, 47] → Calls Tryd.prog 86 #[.string (s.extract 2 s.size), .string sub] w (PureE (.int .i64 (Lib.index (s.data.toList.drop 2) [42, 47])) w) := fun sub hsub => by
    have h := Tryd.strings_Index (s.extract 2 s.size) sub m w (by rw [ByteArray.size_extract]; omega) hm1
    have e : (s.extract 2 s.size).data.toList = s.data.toList.drop 2 := by
      rw [Lib.extract_data, List.take_of_length_le]
      rw [List.length_drop]; exact Nat.le_refl _
    rw [e, hsub] at h
    exact h
  have h2i : (2 : Int) ≤ (s.size : Int) := by omega
  have hlen : s.data.toList.length = s.size := rfl
  have hx := long_index s.data.toList (by omega)
  generalize Lib.index (s.data.toList.drop 2) [42, 47] = i at *
  have hL := longLen_le s.data.toList
  generalize longLen s.data.toList = L at *
  clear hm1
  rcases hx with ⟨h, rfl⟩ | ⟨k, rfl, rfl⟩
  · have d : decide (i < 0) = true := by simpa using h
    go_enter Tryd.func66, Tryd.ntmps66
    go_wp2_with fail
    refine (hI _ rfl).mono ?_
    rintro e w1 ⟨rfl, rfl⟩
    go_wp2_with fail
    go_ret
    exact ⟨rfl, rfl⟩
  · have d : decide ((k : Int) < 0) = false := by simp
    go_enter Tryd.func66, Tryd.ntmps66
    go_wp2_with fail
    refine (hI _ rfl).mono ?_
    rintro e w1 ⟨rfl, rfl⟩
    go_wp2_with fail
    go_ret
    exact ⟨by go_num, rfl⟩

set_option maxRecDepth 100000 in
set_option maxHeartbeats 800000 in
theorem wordSize_impl (s : ByteArray) (w : World) (hs : s.size ≤ 4000000) :
    Calls Tryd.prog 67 #[.string s] w (PureE (.int .i64 (runEnd s.data.toList 0 : Nat)) w) := by
  have hlen : s.data.toList.length = s.size := rfl
  go_enter Tryd.func67, Tryd.ntmps67
  go_wp2_with fail
  go_loopw [3] (fun i wr => ∃ k : Nat, k ≤ s.size ∧ i = .int .i64 (k : Int) ∧ Hid (runEnd s.data.toList 0 = runEnd s.data.toList k) ∧ wr = w) (fun i _ => s.size - (intOf i).toNat)
  case atStart => exact ⟨0, Nat.zero_le _, rfl, rfl, rfl⟩
  case round =>
    obtain ⟨k, hk, rfl, HK, rfl⟩ := hrel
    by_cases hlt : k < s.size
    · have hlt2 : (k : Int) < (s.size : Int) := by omega
      go_wp2_with fail
      refine (isWordByte_any _ _).mono ?_
      rintro e w1 ⟨rfl, rfl⟩
      rw [lstr_at hlt]
      cases h1 : wd ((s.data.toList.getD k 0).toNat : Int)
      · have hf := Lib.hid (runEnd_no (l := s.data.toList) (k := k) hlt h1)
        clear h1
        go_wp2_with fail
        go_ret
        exact ⟨by rw [HK.out, hf.out]; rfl, rfl⟩
      · have hf := Lib.hid (runEnd_yes (l := s.data.toList) (k := k) hlt h1)
        clear h1
        go_wp2_with fail
        go_roundw
        case rel => exact ⟨k + 1, by omega, by go_num, by rw [HK.out, hf.out]; rfl, trivial⟩
        case measure => simp [intOf]; omega
    · have hf := Lib.hid (runEnd_out (l := s.data.toList) (k := k) hlt)
      go_wp2_with fail
      go_ret
      exact ⟨by rw [HK.out, hf.out]; rfl, rfl⟩
end Go.Proofs.YtodgigdcdgdfdaaDoor
