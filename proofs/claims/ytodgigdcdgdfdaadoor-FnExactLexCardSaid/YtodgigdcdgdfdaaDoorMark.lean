/- The contract of the text that marks a number. -/
import Derived.Test.YtodgigdcdgdfdaaDoorDig
import Derived.Deep.QuietTactic
import Derived.BigQuiet
import Derived.Deep.RegionWith
namespace Go.Proofs.YtodgigdcdgdfdaaDoor
open Go.RowKit
open Go.Lib (decDigits)

/-- the mark of a number -/
def mk (k : Nat) : ByteArray := ⟨(109 :: decDigits k).toArray⟩
theorem mk_ret {m : Nat} {out : ByteArray} (h : decDigits m = out.data.toList) : Ending.returned (.string (⟨#[109]⟩ ++ out)) = .returned (.string (mk m)) := by
  have : (⟨#[109]⟩ : ByteArray) ++ out = mk m := by
    apply WideShapes.bytes_inj
    rw [ByteArray.data_append]
    simp [mk, h]
  rw [this]

set_option maxRecDepth 100000 in
set_option maxHeartbeats 400000 in
theorem markText_any (m : Nat) (w : World) (h0 : 0 < m) (h1 : m ≤ 9223372036854775807) :
    Calls Tryd.prog 54 #[.int .i64 (m : Int)] w fun e w' => e = .returned (.string (mk m)) ∧ Below w.heap.size w w' := by
  have hq : ¬ (m : Int) ≤ 0 := by omega
  go_enter Tryd.func54, Tryd.ntmps54
  go_wp2
  go_loopw [0, 3] (fun x o wr => ∃ (y : Nat) (out : ByteArray), y ≤ m ∧ x = .int .i64 (y : Int) ∧ o = .string out ∧ out.size ≤ 19 ∧ Hid (decDigits m = decR y ++ out.data.toList) ∧ Below w.heap.size w wr) (fun x _ _ => (intOf x).toNat)
  case atStart => exact ⟨m, ⟨#[]⟩, Nat.le_refl _, rfl, rfl, by decide, by unfold Hid decR; rw [if_neg (by omega)]; simp, Below.refl _ _⟩
  case round =>
    obtain ⟨y, out, hy, rfl, rfl, hos, HD, hbel⟩ := hrel
    by_cases hy0 : 0 < y
    · have hne : (0 : Int) < (y : Int) := by omega
      have hcv := conv_one (P := Tryd.prog) wr (dgB (y % 10)) (48 + (y : Int) % 10) (by rw [dgB_nat (by omega)]; omega) Tryd.underlying22 Tryd.underlying5 Tryd.underlying9
      have hsz := hbel.size
      go_wp2_with fail
      go_roundw
      case rel => exact ⟨y / 10, _, by omega, by go_num, rfl, dig_len (m := m) (by omega) (dig_step hy0 HD.out), dig_step hy0 HD.out, hbel.alloc hsz _⟩
      case measure => simp [intOf]; omega
    · go_wp2_with fail
      go_ret
      exact ⟨mk_ret (by rw [HD.out, decR, if_pos (by omega)]; rfl), hbel⟩
end Go.Proofs.YtodgigdcdgdfdaaDoor
