/- Contracts of the two functions PutVar. -/
import Derived.Test.YtojafonpfcpmjaaNum
import Derived.Test.YtojafonpfcpmjaaVarMath
import Derived.Test.YtojafonpfcpmjaaOwn
import Derived.Deep.DeepMust
namespace Go.Proofs.Ytojafonpfcpmjaa
open Go.RowKit

theorem Try.info5 : (Try.prog.info? 5).map (fun i => (i.zero, i.size, i.bytes)) = some (some (.int .u8 0), 1, 1) := by kernel_rfl

theorem ret_str {a b : List UInt8} (h : a = b) : Ending.returned (.string ⟨a.toArray⟩) = .returned (.string ⟨b.toArray⟩) := by rw [h]

set_option maxRecDepth 100000 in
set_option maxHeartbeats 400000 in
theorem putVar_impl (u : Nat) (w : World) (hu : u < 18446744073709551616) :
    Calls Try.prog 18 #[.int .u64 (u : Int)] w fun e w' => e = .returned (.string ⟨(varL u).toArray⟩) ∧ Below w.heap.size w w' := by
  obtain ⟨i0, hi, hz0, hz1, hz2⟩ := info_parts Try.info5
  go_enter Try.func18, Try.ntmps18
  go_wp2
  go_loopw [0, 3] (fun x v wr => ∃ (y : Nat) (pre : List UInt8), y < 18446744073709551616 ∧ x = .int .u64 (y : Int) ∧ Hid (varL u = pre ++ varL y) ∧ OwnB 5 wr w.heap.size v pre ∧ Below w.heap.size w wr)
    (fun x _ _ => (intOf x).toNat)
  case atStart => exact ⟨u, [], hu, rfl, rfl, OwnB.nil _ _ _, Below.refl _ _⟩
  case round =>
    obtain ⟨y, pre, hy, rfl, hpre, hown, hbel⟩ := hrel
    have hl10 := varL_ten u hu
    have hlen : pre.length + (varL y).length ≤ 10 := by rw [← List.length_append, ← hpre.out]; exact hl10
    have hp := varL_pos y
    have hsize := hbel.size
    have hl9 : pre.length ≤ 9 := by omega
    clear hl10 hlen hp
    by_cases hlt : y < 128
    · have h128 : (y : Int) < 128 := by omega
      have hb : (y : Int) = ((UInt8.ofNat y).toNat : Int) := by simp; omega
      have HB := Lib.hid hb; clear hb
      have HV := Lib.hid (varL_lt hlt)
      go_wp2_with (at_builtin; go_must (refine appB Try.underlying22 hi hz0 hz1 hz2 rfl (.tmp 14) (.tmp 17) rfl w.heap.size u3 pre (UInt8.ofNat y) _ wr rfl rfl hown HB.out (by omega) hsize ?_); intro g cap w1 hown1 hbel1; have hcv := OwnB.string (src := 22) (dst := 9) hown1 (by simp) Try.underlying22 Try.underlying5 Try.underlying9)
      go_ret
      exact ⟨ret_str (by rw [hpre.out, HV.out]), hbel.trans hbel1⟩
    · have h128 : (128 : Int) ≤ (y : Int) := by omega
      have hb : bits .or .u8 ((y : Int) % 256) 128 = ((UInt8.ofNat (y % 128 + 128)).toNat : Int) := by rw [or128 _ (by omega) (by omega)]; simp; omega
      have HB := Lib.hid hb; clear hb
      have HV := Lib.hid (varL_ge hlt)
      go_wp2_with (at_builtin; go_must (refine appB Try.underlying22 hi hz0 hz1 hz2 rfl (.tmp 6) (.tmp 10) rfl w.heap.size u3 pre (UInt8.ofNat (y % 128 + 128)) _ wr rfl rfl hown HB.out (by omega) hsize ?_); intro g cap w1 hown1 hbel1)
      go_roundw
      case rel => exact ⟨y / 128, pre ++ [UInt8.ofNat (y % 128 + 128)], by omega, by go_num, by unfold Hid; rw [hpre.out, HV.out]; simp, hown1, hbel.trans hbel1⟩
      case measure => simp [intOf]; omega
set_option maxRecDepth 100000 in
set_option maxHeartbeats 400000 in
theorem putVar_spec (u : Nat) (w : World) (hu : u < 18446744073709551616) :
    Calls Try.prog 27 #[.int .u64 (u : Int)] w fun e w' => e = .returned (.string ⟨(varL u).toArray⟩) ∧ Below w.heap.size w w' := by
  obtain ⟨i0, hi, hz0, hz1, hz2⟩ := info_parts Try.info5
  go_enter Try.func27, Try.ntmps27
  go_wp2
  go_loopw [0, 3] (fun x v wr => ∃ (y : Nat) (pre : List UInt8), y < 18446744073709551616 ∧ x = .int .u64 (y : Int) ∧ Hid (varL u = pre ++ varL y) ∧ OwnB 5 wr w.heap.size v pre ∧ Below w.heap.size w wr)
    (fun x _ _ => (intOf x).toNat)
  case atStart => exact ⟨u, [], hu, rfl, rfl, World.ownsRow_lit w #[] 0 (Nat.le_refl _) (by unfold maxLen; omega) rfl, (Below.refl _ _).alloc (Nat.le_refl _) _⟩
  case round =>
    obtain ⟨y, pre, hy, rfl, hpre, hown, hbel⟩ := hrel
    have hl10 := varL_ten u hu
    have hlen : pre.length + (varL y).length ≤ 10 := by rw [← List.length_append, ← hpre.out]; exact hl10
    have hp := varL_pos y
    have hsize := hbel.size
    have hl9 : pre.length ≤ 9 := by omega
    clear hl10 hlen hp
    by_cases hlt : y < 128
    · have h128 : (y : Int) < 128 := by omega
      have hb : (y : Int) = ((UInt8.ofNat y).toNat : Int) := by simp; omega
      have HB := Lib.hid hb; clear hb
      have HV := Lib.hid (varL_lt hlt)
      go_wp2_with (at_builtin; go_must (refine appB Try.underlying22 hi hz0 hz1 hz2 rfl (.tmp 16) (.tmp 19) rfl w.heap.size u3 pre (UInt8.ofNat y) _ wr rfl rfl hown HB.out (by omega) hsize ?_); intro g cap w1 hown1 hbel1; have hcv := OwnB.string (src := 22) (dst := 9) hown1 (by simp) Try.underlying22 Try.underlying5 Try.underlying9)
      go_ret
      exact ⟨ret_str (by rw [hpre.out, HV.out]), hbel.trans hbel1⟩
    · have h128 : (128 : Int) ≤ (y : Int) := by omega
      have hb : (y : Int) % 128 + 128 = ((UInt8.ofNat (y % 128 + 128)).toNat : Int) := by simp; omega
      have HB := Lib.hid hb; clear hb
      have HV := Lib.hid (varL_ge hlt)
      go_wp2_with (at_builtin; go_must (refine appB Try.underlying22 hi hz0 hz1 hz2 rfl (.tmp 7) (.tmp 12) rfl w.heap.size u3 pre (UInt8.ofNat (y % 128 + 128)) _ wr rfl rfl hown HB.out (by omega) hsize ?_); intro g cap w1 hown1 hbel1)
      go_roundw
      case rel => exact ⟨y / 128, pre ++ [UInt8.ofNat (y % 128 + 128)], by omega, by go_num, by unfold Hid; rw [hpre.out, HV.out]; simp, hown1, hbel.trans hbel1⟩
      case measure => simp [intOf]; omega
end Go.Proofs.Ytojafonpfcpmjaa
