
/- Contracts of Fold, program and model. -/
import Derived.Test.YtcadoplfgclbjaaBase
import Derived.Test.YtcadoplfgclbjaaOwn
import Derived.Test.YtcadoplfgclbjaaKeyMath
namespace Go.Proofs.Ytcadoplfgclbjaa
open Go.RowKit

theorem upL_getD (l : List UInt8) (j : Nat) : upB (l.getD j 0) = (upL l).getD j 0 := by
  unfold upL
  rw [List.getD_eq_getElem?_getD, List.getD_eq_getElem?_getD, List.getElem?_map]
  cases l[j]? <;> rfl

set_option maxRecDepth 100000 in
set_option maxHeartbeats 400000 in
theorem fold_impl (s : ByteArray) (w : World) (hs : s.size ≤ 9223372036854775807) :
    Calls Try.prog 27 #[.string s] w (StrE (upL s.data.toList) w) := by
  have hcv := run_bytes_of_string (P := Try.prog) w 9 40 5 s Try.underlying9 Try.underlying40 Try.underlying5
  obtain ⟨w1, hw1⟩ : ∃ w1, w1 = w.drew.alloc (.cells (bytesRow s (grownCap w s.size 0 5)) 5 ((bytesRow s (grownCap w s.size 0 5)).size, (bytesRow s (grownCap w s.size 0 5)).size + 1)) := ⟨_, rfl⟩
  rw [← hw1] at hcv
  have hrow : ByteRow w1 w.heap.size s.size (fun j => s.data.toList.getD j 0) := hw1 ▸ bytesRow_of w s _ 5 _ rfl
  have hbel : Below w.heap.size w w1 := hw1 ▸ (Below.refl _ _).drew.alloc (Nat.le_refl _) _
  clear hw1
  generalize grownCap w s.size 0 5 = cap at hcv
  go_enter Try.func27, Try.ntmps27
  go_wp2
  go_loopw [10] (fun i wr => ∃ k : Nat, k ≤ s.size ∧ i = .int .i64 (k : Int) ∧ ByteRow wr w.heap.size s.size (mixB k (fun j => upB (s.data.toList.getD j 0)) (fun j => s.data.toList.getD j 0)) ∧ Below w.heap.size w wr) (fun i _ => s.size - (intOf i).toNat)
  case atStart => exact ⟨0, by omega, rfl, hrow.start, hbel⟩
  case round =>
    obtain ⟨k, hk, rfl, hr, hb⟩ := hrel
    clear hrow hbel hcv
    by_cases hlt : k < s.size
    · have hlt2 : (k : Int) < (s.size : Int) := by omega
      obtain ⟨hc, hf⟩ := hr.2 k hlt
      rw [mixB_ge (by omega)] at hc
      obtain ⟨b, hbe⟩ : ∃ b, b = s.data.toList.getD k 0 := ⟨_, rfl⟩
      rw [← hbe] at hc
      obtain ⟨n, hn⟩ : ∃ n : Int, n = (b.toNat : Int) := ⟨_, rfl⟩
      rw [← hn] at hc
      have hn0 : 0 ≤ n := by omega
      have hn1 : n ≤ 255 := by have := b.toNat_lt; omega
      by_cases h1 : 97 ≤ n
      · by_cases h2 : n ≤ 122
        · have hput := hr.put (x := n - 97 + 65) (by show _ = ((upB (s.data.toList.getD k 0)).toNat : Int); rw [← hbe, upB_low (by omega) (by omega)]; omega)
          have hbel2 := hb.setCell (p := ⟨w.heap.size, k, none⟩) (Nat.le_refl _) (.int .u8 (n - 97 + 65))
          have HE := Lib.hid hbe; have HN := Lib.hid hn; clear hbe hn
          go_wp2_with fail
          go_roundw
          case rel => exact ⟨k + 1, by omega, by go_num, hput, hbel2⟩
          case measure => simp [intOf]; omega
        · have hput := hr.stay (by show upB (s.data.toList.getD k 0) = s.data.toList.getD k 0; rw [← hbe]; exact upB_else (by omega))
          have HE := Lib.hid hbe; have HN := Lib.hid hn; clear hbe hn
          go_wp2_with fail
          go_roundw
          case rel => exact ⟨k + 1, by omega, by go_num, hput, hb⟩
          case measure => simp [intOf]; omega
      · have hput := hr.stay (by show upB (s.data.toList.getD k 0) = s.data.toList.getD k 0; rw [← hbe]; exact upB_else (by omega))
        have HE := Lib.hid hbe; have HN := Lib.hid hn; clear hbe hn
        go_wp2_with fail
        go_roundw
        case rel => exact ⟨k + 1, by omega, by go_num, hput, hb⟩
        case measure => simp [intOf]; omega
    · have e : k = s.size := by omega
      subst e
      have hcv2 := fun cap => ByteRow.string (P := Try.prog) (cap := cap) (src := 40) (dst := 9) hr (upL_len s.data.toList) (fun j hj => by rw [mixB_lt hj]; exact upL_getD _ j) Try.underlying40 Try.underlying5 Try.underlying9
      go_wp2_with fail
      go_ret
      exact ⟨rfl, hb⟩

set_option maxRecDepth 100000 in
set_option maxHeartbeats 400000 in
theorem fold_spec (s : ByteArray) (w : World) (hs : s.size ≤ 9223372036854775807) :
    Calls Try.prog 14 #[.string s] w (StrE (upL s.data.toList) w) := by
  have hcv := run_bytes_of_string (P := Try.prog) w 9 40 5 s Try.underlying9 Try.underlying40 Try.underlying5
  obtain ⟨w1, hw1⟩ : ∃ w1, w1 = w.drew.alloc (.cells (bytesRow s (grownCap w s.size 0 5)) 5 ((bytesRow s (grownCap w s.size 0 5)).size, (bytesRow s (grownCap w s.size 0 5)).size + 1)) := ⟨_, rfl⟩
  rw [← hw1] at hcv
  have hrow : ByteRow w1 w.heap.size s.size (fun j => s.data.toList.getD j 0) := hw1 ▸ bytesRow_of w s _ 5 _ rfl
  have hbel : Below w.heap.size w w1 := hw1 ▸ (Below.refl _ _).drew.alloc (Nat.le_refl _) _
  clear hw1
  generalize grownCap w s.size 0 5 = cap at hcv
  go_enter Try.func14, Try.ntmps14
  go_wp2
  go_loopw [4] (fun i wr => ∃ k : Nat, k ≤ s.size ∧ i = .int .i64 (k : Int) ∧ ByteRow wr w.heap.size s.size (mixB k (fun j => upB (s.data.toList.getD j 0)) (fun j => s.data.toList.getD j 0)) ∧ Below w.heap.size w wr) (fun i _ => s.size - (intOf i).toNat)
  case atStart => exact ⟨0, by omega, rfl, hrow.start, hbel⟩
  case round =>
    obtain ⟨k, hk, rfl, hr, hb⟩ := hrel
    clear hrow hbel hcv
    by_cases hlt : k < s.size
    · have hlt2 : (k : Int) < (s.size : Int) := by omega
      obtain ⟨hc, hf⟩ := hr.2 k hlt
      rw [mixB_ge (by omega)] at hc
      obtain ⟨b, hbe⟩ : ∃ b, b = s.data.toList.getD k 0 := ⟨_, rfl⟩
      rw [← hbe] at hc
      obtain ⟨n, hn⟩ : ∃ n : Int, n = (b.toNat : Int) := ⟨_, rfl⟩
      rw [← hn] at hc
      have hn0 : 0 ≤ n := by omega
      have hn1 : n ≤ 255 := by have := b.toNat_lt; omega
      by_cases h1 : 97 ≤ n
      · by_cases h2 : n ≤ 122
        · have hput := hr.put (x := n - 32) (by show _ = ((upB (s.data.toList.getD k 0)).toNat : Int); rw [← hbe, upB_low (by omega) (by omega)]; omega)
          have hbel2 := hb.setCell (p := ⟨w.heap.size, k, none⟩) (Nat.le_refl _) (.int .u8 (n - 32))
          have HE := Lib.hid hbe; have HN := Lib.hid hn; clear hbe hn
          go_wp2_with fail
          go_roundw
          case rel => exact ⟨k + 1, by omega, by go_num, hput, hbel2⟩
          case measure => simp [intOf]; omega
        · have hput := hr.stay (by show upB (s.data.toList.getD k 0) = s.data.toList.getD k 0; rw [← hbe]; exact upB_else (by omega))
          have HE := Lib.hid hbe; have HN := Lib.hid hn; clear hbe hn
          go_wp2_with fail
          go_roundw
          case rel => exact ⟨k + 1, by omega, by go_num, hput, hb⟩
          case measure => simp [intOf]; omega
      · have hput := hr.stay (by show upB (s.data.toList.getD k 0) = s.data.toList.getD k 0; rw [← hbe]; exact upB_else (by omega))
        have HE := Lib.hid hbe; have HN := Lib.hid hn; clear hbe hn
        go_wp2_with fail
        go_roundw
        case rel => exact ⟨k + 1, by omega, by go_num, hput, hb⟩
        case measure => simp [intOf]; omega
    · have e : k = s.size := by omega
      subst e
      have hcv2 := fun cap => ByteRow.string (P := Try.prog) (cap := cap) (src := 40) (dst := 9) hr (upL_len s.data.toList) (fun j hj => by rw [mixB_lt hj]; exact upL_getD _ j) Try.underlying40 Try.underlying5 Try.underlying9
      go_wp2_with fail
      go_ret
      exact ⟨rfl, hb⟩
end Go.Proofs.Ytcadoplfgclbjaa
