
/- Contracts of two drawing functions of integers: l1PickInt and l1Whole. -/
import Derived.Test.YtjekhgekldkopaaDraw0
namespace Go.Proofs.Ytjekhgekldkopaa
open Go.RowKit

set_option maxRecDepth 100000 in
set_option maxHeartbeats 400000 in
theorem pickInt_any (L m : Nat) (lo hi : Int) (B C : Nat) (a : Option Addr) (len cap : Nat) (W : World) (H : Cur B C a len cap W) (hm : 1 ≤ m) (hm2 : m ≤ 1000) (hL : L < W.heap.size) (hLC : L ≠ C)
    (hv : ∀ j, j < m → ∃ v : Int, lo ≤ v ∧ v ≤ hi ∧ W.cell? ⟨L, j, none⟩ = some (.int .i64 v)) :
    Calls Try.prog 67 #[.pointer (some ⟨C, 0, none⟩), .slice (some ⟨L, 0, none⟩) m m] W (DrawE lo hi B C a len cap W) := by
  go_enter Try.func67, Try.ntmps67
  go_wp2_with fail
  refine (below_any (m : Int) B C a len cap _ H (by omega) (by omega)).mono ?_
  rintro e W1 ⟨x, hx0, hx1, rfl, hc, hg⟩
  obtain ⟨j, rfl⟩ := Int.eq_ofNat_of_zero_le hx0
  obtain ⟨v, hv0, hv1, hvc⟩ := hv j (by omega)
  have hjm : j < m := by omega
  have hcell : W1.cell? ⟨L, j, none⟩ = some (.int .i64 v) := by
    rw [World.cell?_of_block (w := W) (w' := W1) (a := ⟨L, j, none⟩) (hg.block L hL (fun e => hLC (by simpa using e)))]
    exact hvc
  go_wp2_with fail
  go_ret
  exact ⟨v, hv0, hv1, rfl, hc, hg⟩

set_option maxRecDepth 100000 in
set_option maxHeartbeats 400000 in
theorem whole_any (B C : Nat) (a : Option Addr) (len cap : Nat) (W : World) (H : Cur B C a len cap W) :
    Calls Try.prog 70 #[.pointer (some ⟨C, 0, none⟩)] W (DrawE (-9223372036854775808) 9223372036854775807 B C a len cap W) := by
  go_enter Try.func70, Try.ntmps70
  go_wp2_with fail
  refine (below_any 3 B C a len cap _ H (by omega) (by omega)).mono ?_
  rintro e W1 ⟨x, hx0, hx1, rfl, hc, hg⟩
  rcases (show x = 0 ∨ x = 1 ∨ x = 2 by omega) with rfl | rfl | rfl
  · have hlt := hc.lt
    go_wp2_with fail
    refine (pickInt_any W1.heap.size 14 (-9223372036854775808) 9223372036854775807 B C a len cap _ (hc.alloc _) (by omega) (by omega) (by simp) (by omega) ?_).mono ?_
    · intro j hj
      rw [cell_of_row _ W1.heap.size j _ 3 (0, 0) (heap_alloc_new W1 _)]
      rcases (show j = 0 ∨ j = 1 ∨ j = 2 ∨ j = 3 ∨ j = 4 ∨ j = 5 ∨ j = 6 ∨ j = 7 ∨ j = 8 ∨ j = 9 ∨ j = 10 ∨ j = 11 ∨ j = 12 ∨ j = 13 by omega) with rfl | rfl | rfl | rfl | rfl | rfl | rfl | rfl | rfl | rfl | rfl | rfl | rfl | rfl <;> exact ⟨_, by decide, by decide, rfl⟩
    · rintro e W2 ⟨y, hy0, hy1, rfl, hc2, hg2⟩
      have hg3 := grown_tr hg (grown_tr (grown_alloc W1 _ (some C)) hg2)
      go_wp2_with fail
      go_ret
      exact ⟨y, hy0, hy1, rfl, hc2, hg3⟩
  · go_wp2_with fail
    refine (below_any 1000000 B C a len cap _ hc (by omega) (by omega)).mono ?_
    rintro e W2 ⟨y, hy0, hy1, rfl, hc2, hg2⟩
    go_wp2_with fail
    go_ret
    exact ⟨_, by omega, by omega, rfl, hc2, grown_tr hg hg2⟩
  · go_wp2_with fail
    refine (below_any 20 B C a len cap _ hc (by omega) (by omega)).mono ?_
    rintro e W2 ⟨y, hy0, hy1, rfl, hc2, hg2⟩
    go_wp2_with fail
    go_ret
    exact ⟨_, by omega, by omega, rfl, hc2, grown_tr hg hg2⟩
end Go.Proofs.Ytjekhgekldkopaa
