/- Contracts of the functions that draw names. -/
import Derived.Test.YtpehplmkhmpgmaaDrawS
import Derived.Test.YtpehplmkhmpgmaaKeyOf
namespace Go.Proofs.Ytpehplmkhmpgmaa
open Go.RowKit

set_option maxRecDepth 100000 in
set_option maxHeartbeats 800000 in
theorem name_any (B C : Nat) (a : Option Addr) (len cap : Nat) (W : World) (H : Cur B C a len cap W) :
    Calls Try.prog 36 #[.pointer (some ⟨C, 0, none⟩)] W (TextE 24 B C a len cap W) := by
  go_enter Try.func36, Try.ntmps36
  go_wp2_with fail
  refine (once_any 6 B C a len cap _ H (by omega) (by omega)).mono ?_
  rintro e W1 ⟨x, rfl, hc, hg⟩
  have hlt := hc.lt
  cases x
  · go_wp2_with fail
    refine (pick_any 24 W1.heap.size 10 B C a len cap _ (hc.alloc _) (by omega) (by omega) (by simp) (by omega) ?_).mono ?_
    · intro j hj
      rw [cell_of_row _ W1.heap.size j _ 9 (0, 0) (heap_alloc_new W1 _)]
      rcases (show j = 0 ∨ j = 1 ∨ j = 2 ∨ j = 3 ∨ j = 4 ∨ j = 5 ∨ j = 6 ∨ j = 7 ∨ j = 8 ∨ j = 9 by omega) with rfl | rfl | rfl | rfl | rfl | rfl | rfl | rfl | rfl | rfl <;> exact ⟨_, by decide, rfl⟩
    · rintro e W2 ⟨S, hS, rfl, hc2, hg2⟩
      have hg3 := grown_tr hg (grown_tr (grown_alloc W1 _ (some C)) hg2)
      go_wp2_with fail
      go_ret
      exact ⟨S, hS, rfl, hc2, hg3⟩
  · go_wp2_with fail
    refine (pick_any 24 W1.heap.size 10 B C a len cap _ (hc.alloc _) (by omega) (by omega) (by simp) (by omega) ?_).mono ?_
    · intro j hj
      rw [cell_of_row _ W1.heap.size j _ 9 (0, 0) (heap_alloc_new W1 _)]
      rcases (show j = 0 ∨ j = 1 ∨ j = 2 ∨ j = 3 ∨ j = 4 ∨ j = 5 ∨ j = 6 ∨ j = 7 ∨ j = 8 ∨ j = 9 by omega) with rfl | rfl | rfl | rfl | rfl | rfl | rfl | rfl | rfl | rfl <;> exact ⟨_, by decide, rfl⟩
    · rintro e W2 ⟨S, hS, rfl, hc2, hg2⟩
      have hg3 := grown_tr hg (grown_tr (grown_alloc W1 _ (some C)) hg2)
      go_wp2_with fail
      go_ret
      exact ⟨S, hS, rfl, hc2, hg3⟩

set_option maxRecDepth 100000 in
set_option maxHeartbeats 1200000 in
theorem anyName_any (B C : Nat) (a : Option Addr) (len cap : Nat) (W : World) (H : Cur B C a len cap W) :
    Calls Try.prog 26 #[.pointer (some ⟨C, 0, none⟩)] W (TextE 24 B C a len cap W) := by
  go_enter Try.func26, Try.ntmps26
  go_wp2_with fail
  refine (below_any 6 B C a len cap _ H (by omega) (by omega)).mono ?_
  rintro e W1 ⟨x, hx0, hx1, rfl, hc, hg⟩
  have hlt := hc.lt
  by_cases h0 : x = 0
  · subst h0
    go_wp2_with fail
    refine (pick_any 24 W1.heap.size 9 B C a len cap _ (hc.alloc _) (by omega) (by omega) (by simp) (by omega) ?_).mono ?_
    · intro j hj
      rw [cell_of_row _ W1.heap.size j _ 9 (0, 0) (heap_alloc_new W1 _)]
      rcases (show j = 0 ∨ j = 1 ∨ j = 2 ∨ j = 3 ∨ j = 4 ∨ j = 5 ∨ j = 6 ∨ j = 7 ∨ j = 8 by omega) with rfl | rfl | rfl | rfl | rfl | rfl | rfl | rfl | rfl <;> exact ⟨_, by decide, rfl⟩
    · rintro e W2 ⟨S, hS, rfl, hc2, hg2⟩
      have hg3 := grown_tr hg (grown_tr (grown_alloc W1 _ (some C)) hg2)
      go_wp2_with fail
      go_ret
      exact ⟨S, hS, rfl, hc2, hg3⟩
  · have q0 : (x == 0) = false := by simpa using h0
    by_cases h1 : x = 1
    · subst h1
      go_wp2_with fail
      refine (words_spec _).mono ?_
      rintro e W2 ⟨rfl, hrow, hb⟩
      have hc2 := hc.later hb
      have hg2 := grown_below hg (hb.mono hg.size)
      go_wp2_with fail
      refine (below_any 29 B C a len cap _ hc2 (by omega) (by omega)).mono ?_
      rintro e W3 ⟨y, hy0, hy1, rfl, hc3, hg3⟩
      obtain ⟨j, rfl⟩ := Int.eq_ofNat_of_zero_le hy0
      have hj : j < 29 := by omega
      have hrow3 := hrow.keep (w' := W3) (hg3.block W1.heap.size hrow.1 (by simp; omega)) hg3.size
      obtain ⟨hcell, _⟩ := hrow3.2 j hj
      have hj2 : (j : Int) < 29 := by omega
      go_wp2_with fail
      go_ret
      exact ⟨wordB j, by have := word_len (k := j) (by omega); show (word j).length ≤ 24; omega, rfl, hc3, grown_tr hg2 hg3⟩
    · have q1 : (x == 1) = false := by simpa using h1
      by_cases h2 : x = 2
      · subst h2
        go_wp2_with fail
        refine (below_any 5 B C a len cap _ hc (by omega) (by omega)).mono ?_
        rintro e W2 ⟨y, hy0, hy1, rfl, hc2, hg2⟩
        go_wp2_with fail
        refine (bytes_anyI y B C a len cap _ hc2 (by omega) (by omega)).mono ?_
        rintro e W3 ⟨l, g, c, hl, rfl, hown, hc3, hg3⟩
        have hcv := OwnB.string (src := 22) (dst := 9) hown hl.symm Try.underlying22 Try.underlying5 Try.underlying9
        have hS : (⟨l.toArray⟩ : ByteArray).size ≤ 24 := by show l.length ≤ 24; rw [hl]; omega
        clear hown hl
        generalize (⟨l.toArray⟩ : ByteArray) = S at hcv hS
        go_wp2_with fail
        go_ret
        exact ⟨S, hS, rfl, hc3, grown_tr (grown_tr hg hg2) hg3⟩
      · have q2 : (x == 2) = false := by simpa using h2
        clear h0 h1 h2
        go_wp2_with fail
        refine (name_any B C a len cap _ hc).mono ?_
        rintro e W2 ⟨S, hS, rfl, hc2, hg2⟩
        go_wp2_with fail
        go_ret
        exact ⟨S, hS, rfl, hc2, grown_tr hg hg2⟩
end Go.Proofs.Ytpehplmkhmpgmaa
