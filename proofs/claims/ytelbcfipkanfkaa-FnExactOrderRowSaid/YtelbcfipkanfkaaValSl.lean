
/- The laws' comparison of slices of values. -/
import Derived.Test.YtelbcfipkanfkaaValSlDef
import Derived.Deep.RegionWith
namespace Go.Proofs.Ytelbcfipkanfkaa
open Go.RowKit

set_option maxRecDepth 100000 in
set_option maxHeartbeats 400000 in
theorem eqValue_yes (k a : Int) (t : ByteArray) (w : World) :
    Calls Try.prog 26 #[.agg #[.int .i64 k, .int .i64 a, .string t], .agg #[.int .i64 k, .int .i64 a, .string t]] w (BoolE true w) := by
  go_enter Try.func26, Try.ntmps26
  go_wp2_with fail
  go_ret
  exact ⟨rfl, ((Below.refl _ _).alloc (Nat.le_refl _) _).alloc (by simp) _⟩

set_option maxRecDepth 100000 in
set_option maxHeartbeats 800000 in
theorem eqVals_any (B1 B2 : Nat) (a b : Option Addr) (n ca cb : Nat) (f : Nat → Int × Int × ByteArray) (w : World) (ha : ValSl w B1 a n f) (hb : ValSl w B2 b n f) (hn : n ≤ 1048577) :
    Calls Try.prog 34 #[.slice a n ca, .slice b n cb] w (BoolE true w) := by
  go_enter Try.func34, Try.ntmps34
  go_wp2_with fail
  go_loopw [5] (fun i wr => ∃ k : Nat, k ≤ n ∧ i = .int .i64 (k : Int) ∧ Below w.heap.size w wr) (fun i _ => n - (intOf i).toNat)
  case atStart => exact ⟨0, by omega, rfl, Below.refl _ _⟩
  case round =>
    obtain ⟨k, hk, rfl, hbel⟩ := hrel
    by_cases hlt : k < n
    · have hlt2 : (k : Int) < (n : Int) := by omega
      obtain ⟨g, rfl, _, hg, c0, c1, c2, _⟩ := ha k hlt
      obtain ⟨g', rfl, _, hg', e0, e1, e2, _⟩ := hb k hlt
      rw [← hbel.cell (p := ⟨g, k * 3, none⟩) hg] at c0
      rw [← hbel.cell (p := ⟨g, k * 3 + 1, none⟩) hg] at c1
      rw [← hbel.cell (p := ⟨g, k * 3 + 2, none⟩) hg] at c2
      rw [← hbel.cell (p := ⟨g', k * 3, none⟩) hg'] at e0
      rw [← hbel.cell (p := ⟨g', k * 3 + 1, none⟩) hg'] at e1
      rw [← hbel.cell (p := ⟨g', k * 3 + 2, none⟩) hg'] at e2
      go_wp2_with fail
      go_region_with (go_at_call 26; refine (eqValue_yes _ _ _ _).mono ?_; rintro e w1 ⟨rfl, hb1⟩)
      all_goals
        have hbb : Below w.heap.size w w1 := hbel.trans ((Below.refl wr.heap.size wr).drew.trans hb1 |>.mono hbel.size)
        go_wp2_with fail
        go_roundw
        case rel => exact ⟨k + 1, by omega, by go_num, hbb⟩
        case measure => simp [intOf]; omega
    · go_wp2_with fail
      go_ret
      exact ⟨rfl, hbel⟩
end Go.Proofs.Ytelbcfipkanfkaa
