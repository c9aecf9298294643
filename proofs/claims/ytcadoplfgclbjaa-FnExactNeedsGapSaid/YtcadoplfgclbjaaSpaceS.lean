
/- Contracts of the model's test on the gap between two tokens. -/
import Derived.Test.YtcadoplfgclbjaaSpaceLex
import Derived.Test.YtcadoplfgclbjaaLexT
namespace Go.Proofs.Ytcadoplfgclbjaa
open Go.RowKit

set_option maxRecDepth 100000 in
set_option maxHeartbeats 1600000 in
theorem l4Word_spec (k : Int) (t : ByteArray) (a : Int) (w : World) (ht : t.size ≤ 9223372036854775807) :
    Calls Try.prog 9 #[.agg #[.int .i64 k, .string t, .int .i64 a]] w (BoolE (wrdB k t.data.toList) w) := by
  have hbb := (Below.refl w.heap.size w).alloc (Nat.le_refl _) (.cells #[.int .i64 k, .string t, .int .i64 a] 26)
  by_cases h1 : k = 1
  · subst h1
    go_enter Try.func9, Try.ntmps9
    go_wp2_with fail
    go_ret
    exact ⟨rfl, hbb⟩
  by_cases h3 : k = 3
  · subst h3
    go_enter Try.func9, Try.ntmps9
    go_wp2_with fail
    go_ret
    exact ⟨rfl, hbb⟩
  by_cases h2 : k = 2
  · subst h2
    have hP := fun w => plain_spec t w ht
    have hE : wrdB 2 t.data.toList = plainB t.data.toList := by unfold wrdB; simp
    have HE := Lib.hid hE; clear hE
    generalize plainB t.data.toList = b at hP HE
    go_enter Try.func9, Try.ntmps9
    go_wp2_with fail
    refine (hP _).mono ?_
    rintro e w1 ⟨rfl, hb1⟩
    go_wp2_with fail
    go_ret
    exact ⟨by rw [HE.out]; rfl, hbb.trans (hb1.mono (by simp))⟩
  · have q1 : (k == 1) = false := by simpa using h1
    have q2 : (k == 2) = false := by simpa using h2
    have q3 : (k == 3) = false := by simpa using h3
    have hE : wrdB k t.data.toList = false := by unfold wrdB; simp [h1, h2, h3]
    have HE := Lib.hid hE; clear hE
    go_enter Try.func9, Try.ntmps9
    go_wp2_with fail
    go_ret
    exact ⟨by rw [HE.out]; rfl, hbb⟩
set_option maxRecDepth 100000 in
set_option maxHeartbeats 1600000 in
theorem l4Quoted_spec (k : Int) (t : ByteArray) (a : Int) (w : World) (ht : t.size ≤ 9223372036854775807) :
    Calls Try.prog 10 #[.agg #[.int .i64 k, .string t, .int .i64 a]] w (BoolE (quotB k t.data.toList) w) := by
  have hbb := (Below.refl w.heap.size w).alloc (Nat.le_refl _) (.cells #[.int .i64 k, .string t, .int .i64 a] 26)
  by_cases h2 : k = 2
  · subst h2
    have hP := fun w => plain_spec t w ht
    have hE : quotB 2 t.data.toList = !plainB t.data.toList := by unfold quotB; simp
    have HE := Lib.hid hE; clear hE
    generalize plainB t.data.toList = b at hP HE
    go_enter Try.func10, Try.ntmps10
    go_wp2_with fail
    refine (hP _).mono ?_
    rintro e w1 ⟨rfl, hb1⟩
    go_wp2_with fail
    go_ret
    exact ⟨by rw [HE.out]; rfl, hbb.trans (hb1.mono (by simp))⟩
  · have q2 : (k == 2) = false := by simpa using h2
    have hE : quotB k t.data.toList = false := by unfold quotB; simp [h2]
    have HE := Lib.hid hE; clear hE
    go_enter Try.func10, Try.ntmps10
    go_wp2_with fail
    go_ret
    exact ⟨by rw [HE.out]; rfl, hbb⟩

theorem u8_dec (b c : UInt8) : ((b.toNat : Int) == (c.toNat : Int)) = decide (b = c) := by
  by_cases h : b = c
  · rw [u8_eq h, decide_eq_true h]
  · rw [u8_ne h, decide_eq_false h]
/-- the two parameters of NeedsGap, boxed -/
def twoBox (k : Int) (t : ByteArray) (a k' : Int) (t' : ByteArray) (a' : Int) (w : World) : World :=
  (w.alloc (.cells #[.int .i64 k, .string t, .int .i64 a] 26)).alloc (.cells #[.int .i64 k', .string t', .int .i64 a'] 26)
theorem twoBox_size (k : Int) (t : ByteArray) (a k' : Int) (t' : ByteArray) (a' : Int) (w : World) : (twoBox k t a k' t' a' w).heap.size = w.heap.size + 2 := by simp [twoBox]
theorem twoBox_below (k : Int) (t : ByteArray) (a k' : Int) (t' : ByteArray) (a' : Int) (w : World) : Below w.heap.size w (twoBox k t a k' t' a' w) :=
  ((Below.refl w.heap.size w).alloc (Nat.le_refl _) _).alloc (by simp) _
theorem twoBox_cells {k : Int} {t : ByteArray} {a k' : Int} {t' : ByteArray} {a' : Int} {w w' : World} (h : Below (w.heap.size + 2) (twoBox k t a k' t' a' w) w') :
    w'.cell? ⟨w.heap.size, 0, none⟩ = some (.int .i64 k) ∧ w'.cell? ⟨w.heap.size, 1, none⟩ = some (.string t) ∧ w'.cell? ⟨w.heap.size, 2, none⟩ = some (.int .i64 a) ∧
    w'.cell? ⟨w.heap.size + 1, 0, none⟩ = some (.int .i64 k') ∧ w'.cell? ⟨w.heap.size + 1, 1, none⟩ = some (.string t') ∧ w'.cell? ⟨w.heap.size + 1, 2, none⟩ = some (.int .i64 a') := by
  have r1 : (twoBox k t a k' t' a' w).heap[w.heap.size]? = some (.cells #[.int .i64 k, .string t, .int .i64 a] 26) := by
    unfold twoBox
    rw [Below.heap_alloc _ _ _ (by simp)]
    exact heap_alloc_new w _
  have r2 : (twoBox k t a k' t' a' w).heap[w.heap.size + 1]? = some (.cells #[.int .i64 k', .string t', .int .i64 a'] 26) := by
    have := heap_alloc_new (w.alloc (.cells #[.int .i64 k, .string t, .int .i64 a] 26)) (.cells #[.int .i64 k', .string t', .int .i64 a'] 26)
    simpa [twoBox] using this
  refine ⟨?_, ?_, ?_, ?_, ?_, ?_⟩
  · rw [h.cell (by show w.heap.size < _; omega), cell_of_row _ _ 0 _ 26 (0, 0) r1]; rfl
  · rw [h.cell (by show w.heap.size < _; omega), cell_of_row _ _ 1 _ 26 (0, 0) r1]; rfl
  · rw [h.cell (by show w.heap.size < _; omega), cell_of_row _ _ 2 _ 26 (0, 0) r1]; rfl
  · rw [h.cell (by show w.heap.size + 1 < _; omega), cell_of_row _ _ 0 _ 26 (0, 0) r2]; rfl
  · rw [h.cell (by show w.heap.size + 1 < _; omega), cell_of_row _ _ 1 _ 26 (0, 0) r2]; rfl
  · rw [h.cell (by show w.heap.size + 1 < _; omega), cell_of_row _ _ 2 _ 26 (0, 0) r2]; rfl

set_option maxRecDepth 100000 in
set_option maxHeartbeats 8000000 in
theorem gap_spec (k : Int) (t : ByteArray) (a k' : Int) (t' : ByteArray) (a' : Int) (w : World) (ht : t.size ≤ 9223372036854775807) (ht' : t'.size ≤ 9223372036854775807) :
    Calls Try.prog 5 #[.agg #[.int .i64 k, .string t, .int .i64 a], .agg #[.int .i64 k', .string t', .int .i64 a']] w (BoolE (gapB k t.data.toList k' t'.data.toList) w) := by
  have hO := fun w => tokenOk_spec k t a w ht
  have hO' := fun w => tokenOk_spec k' t' a' w ht'
  have hW := fun w => l4Word_spec k t a w ht
  have hW' := fun w => l4Word_spec k' t' a' w ht'
  have hQ := fun w => l4Quoted_spec k t a w ht
  have hQ' := fun w => l4Quoted_spec k' t' a' w ht'
  cases o1 : tokOk k t.data.toList
  · have HE := Lib.hid (show gapB k t.data.toList k' t'.data.toList = false by unfold gapB; rw [o1]; rfl)
    rw [o1] at hO
    clear hO' hW hW' hQ hQ' o1
    go_enter Try.func5, Try.ntmps5
    go_wp2_with fail
    refine (hO _).mono ?_
    rintro e w1 ⟨rfl, hb1⟩
    have n1 : Below (w.heap.size + 2) (twoBox k t a k' t' a' w) w1 := hb1.mono (by simp)
    obtain ⟨u0, u1, u2, v0, v1, v2⟩ := twoBox_cells n1
    have b1 := (twoBox_below k t a k' t' a' w).trans (n1.mono (by omega))
    go_wp2_with fail
    go_ret
    exact ⟨by rw [HE.out]; rfl, b1⟩
  cases o2 : tokOk k' t'.data.toList
  · have HE := Lib.hid (show gapB k t.data.toList k' t'.data.toList = false by unfold gapB; rw [o1, o2]; rfl)
    rw [o1] at hO
    rw [o2] at hO'
    clear hW hW' hQ hQ' o1 o2
    go_enter Try.func5, Try.ntmps5
    go_wp2_with fail
    refine (hO _).mono ?_
    rintro e w1 ⟨rfl, hb1⟩
    have n1 : Below (w.heap.size + 2) (twoBox k t a k' t' a' w) w1 := hb1.mono (by simp)
    obtain ⟨u0, u1, u2, v0, v1, v2⟩ := twoBox_cells n1
    have b1 := (twoBox_below k t a k' t' a' w).trans (n1.mono (by omega))
    go_wp2_with fail
    refine (hO' _).mono ?_
    rintro e w2 ⟨rfl, hb2⟩
    have n2 := n1.trans (hb2.mono (by have := n1.size; rw [twoBox_size] at this; exact this))
    obtain ⟨u0, u1, u2, v0, v1, v2⟩ := twoBox_cells n2
    have b2 := (twoBox_below k t a k' t' a' w).trans (n2.mono (by omega))
    go_wp2_with fail
    go_ret
    exact ⟨by rw [HE.out]; rfl, b2⟩
  rw [o1] at hO
  rw [o2] at hO'
  have hG : gapB k t.data.toList k' t'.data.toList = (if (wrdB k t.data.toList && wrdB k' t'.data.toList) || (decide (k = 4) && decide (k' = 4)) || (quotB k t.data.toList && quotB k' t'.data.toList) then true else if decide (k = 5) && decide (k' = 5) then signGap t.data.toList t'.data.toList else false) := by
    unfold gapB; rw [o1, o2]; rfl
  have fW := tok_forms o1
  have fW' := tok_forms o2
  clear o1 o2
  rcases fW with ⟨a1, a2, a4, a5, -⟩ | ⟨rfl, a1, a2, -⟩ | ⟨rfl, -⟩ | ⟨rfl, sg, -⟩
  · rcases fW' with ⟨a1', a2', a4', a5', -⟩ | ⟨rfl, a1', a2', -⟩ | ⟨rfl, -⟩ | ⟨rfl, sg', -⟩
    · rw [a1] at hW hG
      rw [a2] at hQ hG
      have q4 : (k == 4) = false := by simpa using a4
      have q5 : (k == 5) = false := by simpa using a5
      rw [decide_eq_false a4, decide_eq_false a5] at hG
      rw [a1'] at hW' hG
      rw [a2'] at hQ' hG
      have q4' : (k' == 4) = false := by simpa using a4'
      have q5' : (k' == 5) = false := by simpa using a5'
      rw [decide_eq_false a4', decide_eq_false a5'] at hG
      have HE := Lib.hid (hG.trans (show _ = true by rfl)); clear hG
      go_enter Try.func5, Try.ntmps5
      go_wp2_with fail
      refine (hO _).mono ?_
      rintro e w1 ⟨rfl, hb1⟩
      have n1 : Below (w.heap.size + 2) (twoBox k t a k' t' a' w) w1 := hb1.mono (by simp)
      obtain ⟨u0, u1, u2, v0, v1, v2⟩ := twoBox_cells n1
      have b1 := (twoBox_below k t a k' t' a' w).trans (n1.mono (by omega))
      go_wp2_with fail
      refine (hO' _).mono ?_
      rintro e w2 ⟨rfl, hb2⟩
      have n2 := n1.trans (hb2.mono (by have := n1.size; rw [twoBox_size] at this; exact this))
      obtain ⟨u0, u1, u2, v0, v1, v2⟩ := twoBox_cells n2
      have b2 := (twoBox_below k t a k' t' a' w).trans (n2.mono (by omega))
      go_wp2_with fail
      refine (hW _).mono ?_
      rintro e w3 ⟨rfl, hb3⟩
      have n3 := n2.trans (hb3.mono (by have := n2.size; rw [twoBox_size] at this; exact this))
      obtain ⟨u0, u1, u2, v0, v1, v2⟩ := twoBox_cells n3
      have b3 := (twoBox_below k t a k' t' a' w).trans (n3.mono (by omega))
      go_wp2_with fail
      refine (hW' _).mono ?_
      rintro e w4 ⟨rfl, hb4⟩
      have n4 := n3.trans (hb4.mono (by have := n3.size; rw [twoBox_size] at this; exact this))
      obtain ⟨u0, u1, u2, v0, v1, v2⟩ := twoBox_cells n4
      have b4 := (twoBox_below k t a k' t' a' w).trans (n4.mono (by omega))
      go_wp2_with fail
      go_ret
      exact ⟨by rw [HE.out]; rfl, b4⟩
    · rw [a1] at hW hG
      rw [a2] at hQ hG
      have q4 : (k == 4) = false := by simpa using a4
      have q5 : (k == 5) = false := by simpa using a5
      rw [decide_eq_false a4, decide_eq_false a5] at hG
      rw [a1'] at hW' hG
      rw [a2'] at hQ' hG
      have HE := Lib.hid (hG.trans (show _ = false by rfl)); clear hG
      go_enter Try.func5, Try.ntmps5
      go_wp2_with fail
      refine (hO _).mono ?_
      rintro e w1 ⟨rfl, hb1⟩
      have n1 : Below (w.heap.size + 2) (twoBox k t a 2 t' a' w) w1 := hb1.mono (by simp)
      obtain ⟨u0, u1, u2, v0, v1, v2⟩ := twoBox_cells n1
      have b1 := (twoBox_below k t a 2 t' a' w).trans (n1.mono (by omega))
      go_wp2_with fail
      refine (hO' _).mono ?_
      rintro e w2 ⟨rfl, hb2⟩
      have n2 := n1.trans (hb2.mono (by have := n1.size; rw [twoBox_size] at this; exact this))
      obtain ⟨u0, u1, u2, v0, v1, v2⟩ := twoBox_cells n2
      have b2 := (twoBox_below k t a 2 t' a' w).trans (n2.mono (by omega))
      go_wp2_with fail
      refine (hW _).mono ?_
      rintro e w3 ⟨rfl, hb3⟩
      have n3 := n2.trans (hb3.mono (by have := n2.size; rw [twoBox_size] at this; exact this))
      obtain ⟨u0, u1, u2, v0, v1, v2⟩ := twoBox_cells n3
      have b3 := (twoBox_below k t a 2 t' a' w).trans (n3.mono (by omega))
      go_wp2_with fail
      refine (hW' _).mono ?_
      rintro e w4 ⟨rfl, hb4⟩
      have n4 := n3.trans (hb4.mono (by have := n3.size; rw [twoBox_size] at this; exact this))
      obtain ⟨u0, u1, u2, v0, v1, v2⟩ := twoBox_cells n4
      have b4 := (twoBox_below k t a 2 t' a' w).trans (n4.mono (by omega))
      go_wp2_with fail
      refine (hQ _).mono ?_
      rintro e w5 ⟨rfl, hb5⟩
      have n5 := n4.trans (hb5.mono (by have := n4.size; rw [twoBox_size] at this; exact this))
      obtain ⟨u0, u1, u2, v0, v1, v2⟩ := twoBox_cells n5
      have b5 := (twoBox_below k t a 2 t' a' w).trans (n5.mono (by omega))
      go_wp2_with fail
      go_ret
      exact ⟨by rw [HE.out]; rfl, b5⟩
    · rw [a1] at hW hG
      rw [a2] at hQ hG
      have q4 : (k == 4) = false := by simpa using a4
      have q5 : (k == 5) = false := by simpa using a5
      rw [decide_eq_false a4, decide_eq_false a5] at hG
      have e1' : wrdB 4 t'.data.toList = false := rfl
      have e2' : quotB 4 t'.data.toList = false := rfl
      rw [e1'] at hW' hG
      rw [e2'] at hQ' hG
      have HE := Lib.hid (hG.trans (show _ = false by rfl)); clear hG
      go_enter Try.func5, Try.ntmps5
      go_wp2_with fail
      refine (hO _).mono ?_
      rintro e w1 ⟨rfl, hb1⟩
      have n1 : Below (w.heap.size + 2) (twoBox k t a 4 t' a' w) w1 := hb1.mono (by simp)
      obtain ⟨u0, u1, u2, v0, v1, v2⟩ := twoBox_cells n1
      have b1 := (twoBox_below k t a 4 t' a' w).trans (n1.mono (by omega))
      go_wp2_with fail
      refine (hO' _).mono ?_
      rintro e w2 ⟨rfl, hb2⟩
      have n2 := n1.trans (hb2.mono (by have := n1.size; rw [twoBox_size] at this; exact this))
      obtain ⟨u0, u1, u2, v0, v1, v2⟩ := twoBox_cells n2
      have b2 := (twoBox_below k t a 4 t' a' w).trans (n2.mono (by omega))
      go_wp2_with fail
      refine (hW _).mono ?_
      rintro e w3 ⟨rfl, hb3⟩
      have n3 := n2.trans (hb3.mono (by have := n2.size; rw [twoBox_size] at this; exact this))
      obtain ⟨u0, u1, u2, v0, v1, v2⟩ := twoBox_cells n3
      have b3 := (twoBox_below k t a 4 t' a' w).trans (n3.mono (by omega))
      go_wp2_with fail
      refine (hW' _).mono ?_
      rintro e w4 ⟨rfl, hb4⟩
      have n4 := n3.trans (hb4.mono (by have := n3.size; rw [twoBox_size] at this; exact this))
      obtain ⟨u0, u1, u2, v0, v1, v2⟩ := twoBox_cells n4
      have b4 := (twoBox_below k t a 4 t' a' w).trans (n4.mono (by omega))
      go_wp2_with fail
      refine (hQ _).mono ?_
      rintro e w5 ⟨rfl, hb5⟩
      have n5 := n4.trans (hb5.mono (by have := n4.size; rw [twoBox_size] at this; exact this))
      obtain ⟨u0, u1, u2, v0, v1, v2⟩ := twoBox_cells n5
      have b5 := (twoBox_below k t a 4 t' a' w).trans (n5.mono (by omega))
      go_wp2_with fail
      go_ret
      exact ⟨by rw [HE.out]; rfl, b5⟩
    · rw [a1] at hW hG
      rw [a2] at hQ hG
      have q4 : (k == 4) = false := by simpa using a4
      have q5 : (k == 5) = false := by simpa using a5
      rw [decide_eq_false a4, decide_eq_false a5] at hG
      have e1' : wrdB 5 t'.data.toList = false := rfl
      have e2' : quotB 5 t'.data.toList = false := rfl
      rw [e1'] at hW' hG
      rw [e2'] at hQ' hG
      have HE := Lib.hid (hG.trans (show _ = false by rfl)); clear hG
      go_enter Try.func5, Try.ntmps5
      go_wp2_with fail
      refine (hO _).mono ?_
      rintro e w1 ⟨rfl, hb1⟩
      have n1 : Below (w.heap.size + 2) (twoBox k t a 5 t' a' w) w1 := hb1.mono (by simp)
      obtain ⟨u0, u1, u2, v0, v1, v2⟩ := twoBox_cells n1
      have b1 := (twoBox_below k t a 5 t' a' w).trans (n1.mono (by omega))
      go_wp2_with fail
      refine (hO' _).mono ?_
      rintro e w2 ⟨rfl, hb2⟩
      have n2 := n1.trans (hb2.mono (by have := n1.size; rw [twoBox_size] at this; exact this))
      obtain ⟨u0, u1, u2, v0, v1, v2⟩ := twoBox_cells n2
      have b2 := (twoBox_below k t a 5 t' a' w).trans (n2.mono (by omega))
      go_wp2_with fail
      refine (hW _).mono ?_
      rintro e w3 ⟨rfl, hb3⟩
      have n3 := n2.trans (hb3.mono (by have := n2.size; rw [twoBox_size] at this; exact this))
      obtain ⟨u0, u1, u2, v0, v1, v2⟩ := twoBox_cells n3
      have b3 := (twoBox_below k t a 5 t' a' w).trans (n3.mono (by omega))
      go_wp2_with fail
      refine (hW' _).mono ?_
      rintro e w4 ⟨rfl, hb4⟩
      have n4 := n3.trans (hb4.mono (by have := n3.size; rw [twoBox_size] at this; exact this))
      obtain ⟨u0, u1, u2, v0, v1, v2⟩ := twoBox_cells n4
      have b4 := (twoBox_below k t a 5 t' a' w).trans (n4.mono (by omega))
      go_wp2_with fail
      refine (hQ _).mono ?_
      rintro e w5 ⟨rfl, hb5⟩
      have n5 := n4.trans (hb5.mono (by have := n4.size; rw [twoBox_size] at this; exact this))
      obtain ⟨u0, u1, u2, v0, v1, v2⟩ := twoBox_cells n5
      have b5 := (twoBox_below k t a 5 t' a' w).trans (n5.mono (by omega))
      go_wp2_with fail
      go_ret
      exact ⟨by rw [HE.out]; rfl, b5⟩
  · rcases fW' with ⟨a1', a2', a4', a5', -⟩ | ⟨rfl, a1', a2', -⟩ | ⟨rfl, -⟩ | ⟨rfl, sg', -⟩
    · rw [a1] at hW hG
      rw [a2] at hQ hG
      rw [a1'] at hW' hG
      rw [a2'] at hQ' hG
      have q4' : (k' == 4) = false := by simpa using a4'
      have q5' : (k' == 5) = false := by simpa using a5'
      rw [decide_eq_false a4', decide_eq_false a5'] at hG
      have HE := Lib.hid (hG.trans (show _ = false by rfl)); clear hG
      go_enter Try.func5, Try.ntmps5
      go_wp2_with fail
      refine (hO _).mono ?_
      rintro e w1 ⟨rfl, hb1⟩
      have n1 : Below (w.heap.size + 2) (twoBox 2 t a k' t' a' w) w1 := hb1.mono (by simp)
      obtain ⟨u0, u1, u2, v0, v1, v2⟩ := twoBox_cells n1
      have b1 := (twoBox_below 2 t a k' t' a' w).trans (n1.mono (by omega))
      go_wp2_with fail
      refine (hO' _).mono ?_
      rintro e w2 ⟨rfl, hb2⟩
      have n2 := n1.trans (hb2.mono (by have := n1.size; rw [twoBox_size] at this; exact this))
      obtain ⟨u0, u1, u2, v0, v1, v2⟩ := twoBox_cells n2
      have b2 := (twoBox_below 2 t a k' t' a' w).trans (n2.mono (by omega))
      go_wp2_with fail
      refine (hW _).mono ?_
      rintro e w3 ⟨rfl, hb3⟩
      have n3 := n2.trans (hb3.mono (by have := n2.size; rw [twoBox_size] at this; exact this))
      obtain ⟨u0, u1, u2, v0, v1, v2⟩ := twoBox_cells n3
      have b3 := (twoBox_below 2 t a k' t' a' w).trans (n3.mono (by omega))
      go_wp2_with fail
      refine (hQ _).mono ?_
      rintro e w4 ⟨rfl, hb4⟩
      have n4 := n3.trans (hb4.mono (by have := n3.size; rw [twoBox_size] at this; exact this))
      obtain ⟨u0, u1, u2, v0, v1, v2⟩ := twoBox_cells n4
      have b4 := (twoBox_below 2 t a k' t' a' w).trans (n4.mono (by omega))
      go_wp2_with fail
      refine (hQ' _).mono ?_
      rintro e w5 ⟨rfl, hb5⟩
      have n5 := n4.trans (hb5.mono (by have := n4.size; rw [twoBox_size] at this; exact this))
      obtain ⟨u0, u1, u2, v0, v1, v2⟩ := twoBox_cells n5
      have b5 := (twoBox_below 2 t a k' t' a' w).trans (n5.mono (by omega))
      go_wp2_with fail
      go_ret
      exact ⟨by rw [HE.out]; rfl, b5⟩
    · rw [a1] at hW hG
      rw [a2] at hQ hG
      rw [a1'] at hW' hG
      rw [a2'] at hQ' hG
      have HE := Lib.hid (hG.trans (show _ = true by rfl)); clear hG
      go_enter Try.func5, Try.ntmps5
      go_wp2_with fail
      refine (hO _).mono ?_
      rintro e w1 ⟨rfl, hb1⟩
      have n1 : Below (w.heap.size + 2) (twoBox 2 t a 2 t' a' w) w1 := hb1.mono (by simp)
      obtain ⟨u0, u1, u2, v0, v1, v2⟩ := twoBox_cells n1
      have b1 := (twoBox_below 2 t a 2 t' a' w).trans (n1.mono (by omega))
      go_wp2_with fail
      refine (hO' _).mono ?_
      rintro e w2 ⟨rfl, hb2⟩
      have n2 := n1.trans (hb2.mono (by have := n1.size; rw [twoBox_size] at this; exact this))
      obtain ⟨u0, u1, u2, v0, v1, v2⟩ := twoBox_cells n2
      have b2 := (twoBox_below 2 t a 2 t' a' w).trans (n2.mono (by omega))
      go_wp2_with fail
      refine (hW _).mono ?_
      rintro e w3 ⟨rfl, hb3⟩
      have n3 := n2.trans (hb3.mono (by have := n2.size; rw [twoBox_size] at this; exact this))
      obtain ⟨u0, u1, u2, v0, v1, v2⟩ := twoBox_cells n3
      have b3 := (twoBox_below 2 t a 2 t' a' w).trans (n3.mono (by omega))
      go_wp2_with fail
      refine (hQ _).mono ?_
      rintro e w4 ⟨rfl, hb4⟩
      have n4 := n3.trans (hb4.mono (by have := n3.size; rw [twoBox_size] at this; exact this))
      obtain ⟨u0, u1, u2, v0, v1, v2⟩ := twoBox_cells n4
      have b4 := (twoBox_below 2 t a 2 t' a' w).trans (n4.mono (by omega))
      go_wp2_with fail
      refine (hQ' _).mono ?_
      rintro e w5 ⟨rfl, hb5⟩
      have n5 := n4.trans (hb5.mono (by have := n4.size; rw [twoBox_size] at this; exact this))
      obtain ⟨u0, u1, u2, v0, v1, v2⟩ := twoBox_cells n5
      have b5 := (twoBox_below 2 t a 2 t' a' w).trans (n5.mono (by omega))
      go_wp2_with fail
      go_ret
      exact ⟨by rw [HE.out]; rfl, b5⟩
    · rw [a1] at hW hG
      rw [a2] at hQ hG
      have e1' : wrdB 4 t'.data.toList = false := rfl
      have e2' : quotB 4 t'.data.toList = false := rfl
      rw [e1'] at hW' hG
      rw [e2'] at hQ' hG
      have HE := Lib.hid (hG.trans (show _ = false by rfl)); clear hG
      go_enter Try.func5, Try.ntmps5
      go_wp2_with fail
      refine (hO _).mono ?_
      rintro e w1 ⟨rfl, hb1⟩
      have n1 : Below (w.heap.size + 2) (twoBox 2 t a 4 t' a' w) w1 := hb1.mono (by simp)
      obtain ⟨u0, u1, u2, v0, v1, v2⟩ := twoBox_cells n1
      have b1 := (twoBox_below 2 t a 4 t' a' w).trans (n1.mono (by omega))
      go_wp2_with fail
      refine (hO' _).mono ?_
      rintro e w2 ⟨rfl, hb2⟩
      have n2 := n1.trans (hb2.mono (by have := n1.size; rw [twoBox_size] at this; exact this))
      obtain ⟨u0, u1, u2, v0, v1, v2⟩ := twoBox_cells n2
      have b2 := (twoBox_below 2 t a 4 t' a' w).trans (n2.mono (by omega))
      go_wp2_with fail
      refine (hW _).mono ?_
      rintro e w3 ⟨rfl, hb3⟩
      have n3 := n2.trans (hb3.mono (by have := n2.size; rw [twoBox_size] at this; exact this))
      obtain ⟨u0, u1, u2, v0, v1, v2⟩ := twoBox_cells n3
      have b3 := (twoBox_below 2 t a 4 t' a' w).trans (n3.mono (by omega))
      go_wp2_with fail
      refine (hQ _).mono ?_
      rintro e w4 ⟨rfl, hb4⟩
      have n4 := n3.trans (hb4.mono (by have := n3.size; rw [twoBox_size] at this; exact this))
      obtain ⟨u0, u1, u2, v0, v1, v2⟩ := twoBox_cells n4
      have b4 := (twoBox_below 2 t a 4 t' a' w).trans (n4.mono (by omega))
      go_wp2_with fail
      refine (hQ' _).mono ?_
      rintro e w5 ⟨rfl, hb5⟩
      have n5 := n4.trans (hb5.mono (by have := n4.size; rw [twoBox_size] at this; exact this))
      obtain ⟨u0, u1, u2, v0, v1, v2⟩ := twoBox_cells n5
      have b5 := (twoBox_below 2 t a 4 t' a' w).trans (n5.mono (by omega))
      go_wp2_with fail
      go_ret
      exact ⟨by rw [HE.out]; rfl, b5⟩
    · rw [a1] at hW hG
      rw [a2] at hQ hG
      have e1' : wrdB 5 t'.data.toList = false := rfl
      have e2' : quotB 5 t'.data.toList = false := rfl
      rw [e1'] at hW' hG
      rw [e2'] at hQ' hG
      have HE := Lib.hid (hG.trans (show _ = false by rfl)); clear hG
      go_enter Try.func5, Try.ntmps5
      go_wp2_with fail
      refine (hO _).mono ?_
      rintro e w1 ⟨rfl, hb1⟩
      have n1 : Below (w.heap.size + 2) (twoBox 2 t a 5 t' a' w) w1 := hb1.mono (by simp)
      obtain ⟨u0, u1, u2, v0, v1, v2⟩ := twoBox_cells n1
      have b1 := (twoBox_below 2 t a 5 t' a' w).trans (n1.mono (by omega))
      go_wp2_with fail
      refine (hO' _).mono ?_
      rintro e w2 ⟨rfl, hb2⟩
      have n2 := n1.trans (hb2.mono (by have := n1.size; rw [twoBox_size] at this; exact this))
      obtain ⟨u0, u1, u2, v0, v1, v2⟩ := twoBox_cells n2
      have b2 := (twoBox_below 2 t a 5 t' a' w).trans (n2.mono (by omega))
      go_wp2_with fail
      refine (hW _).mono ?_
      rintro e w3 ⟨rfl, hb3⟩
      have n3 := n2.trans (hb3.mono (by have := n2.size; rw [twoBox_size] at this; exact this))
      obtain ⟨u0, u1, u2, v0, v1, v2⟩ := twoBox_cells n3
      have b3 := (twoBox_below 2 t a 5 t' a' w).trans (n3.mono (by omega))
      go_wp2_with fail
      refine (hQ _).mono ?_
      rintro e w4 ⟨rfl, hb4⟩
      have n4 := n3.trans (hb4.mono (by have := n3.size; rw [twoBox_size] at this; exact this))
      obtain ⟨u0, u1, u2, v0, v1, v2⟩ := twoBox_cells n4
      have b4 := (twoBox_below 2 t a 5 t' a' w).trans (n4.mono (by omega))
      go_wp2_with fail
      refine (hQ' _).mono ?_
      rintro e w5 ⟨rfl, hb5⟩
      have n5 := n4.trans (hb5.mono (by have := n4.size; rw [twoBox_size] at this; exact this))
      obtain ⟨u0, u1, u2, v0, v1, v2⟩ := twoBox_cells n5
      have b5 := (twoBox_below 2 t a 5 t' a' w).trans (n5.mono (by omega))
      go_wp2_with fail
      go_ret
      exact ⟨by rw [HE.out]; rfl, b5⟩
  · rcases fW' with ⟨a1', a2', a4', a5', -⟩ | ⟨rfl, a1', a2', -⟩ | ⟨rfl, -⟩ | ⟨rfl, sg', -⟩
    · have e1 : wrdB 4 t.data.toList = false := rfl
      have e2 : quotB 4 t.data.toList = false := rfl
      rw [e1] at hW hG
      rw [e2] at hQ hG
      rw [a1'] at hW' hG
      rw [a2'] at hQ' hG
      have q4' : (k' == 4) = false := by simpa using a4'
      have q5' : (k' == 5) = false := by simpa using a5'
      rw [decide_eq_false a4', decide_eq_false a5'] at hG
      have HE := Lib.hid (hG.trans (show _ = false by rfl)); clear hG
      go_enter Try.func5, Try.ntmps5
      go_wp2_with fail
      refine (hO _).mono ?_
      rintro e w1 ⟨rfl, hb1⟩
      have n1 : Below (w.heap.size + 2) (twoBox 4 t a k' t' a' w) w1 := hb1.mono (by simp)
      obtain ⟨u0, u1, u2, v0, v1, v2⟩ := twoBox_cells n1
      have b1 := (twoBox_below 4 t a k' t' a' w).trans (n1.mono (by omega))
      go_wp2_with fail
      refine (hO' _).mono ?_
      rintro e w2 ⟨rfl, hb2⟩
      have n2 := n1.trans (hb2.mono (by have := n1.size; rw [twoBox_size] at this; exact this))
      obtain ⟨u0, u1, u2, v0, v1, v2⟩ := twoBox_cells n2
      have b2 := (twoBox_below 4 t a k' t' a' w).trans (n2.mono (by omega))
      go_wp2_with fail
      refine (hW _).mono ?_
      rintro e w3 ⟨rfl, hb3⟩
      have n3 := n2.trans (hb3.mono (by have := n2.size; rw [twoBox_size] at this; exact this))
      obtain ⟨u0, u1, u2, v0, v1, v2⟩ := twoBox_cells n3
      have b3 := (twoBox_below 4 t a k' t' a' w).trans (n3.mono (by omega))
      go_wp2_with fail
      refine (hQ _).mono ?_
      rintro e w4 ⟨rfl, hb4⟩
      have n4 := n3.trans (hb4.mono (by have := n3.size; rw [twoBox_size] at this; exact this))
      obtain ⟨u0, u1, u2, v0, v1, v2⟩ := twoBox_cells n4
      have b4 := (twoBox_below 4 t a k' t' a' w).trans (n4.mono (by omega))
      go_wp2_with fail
      go_ret
      exact ⟨by rw [HE.out]; rfl, b4⟩
    · have e1 : wrdB 4 t.data.toList = false := rfl
      have e2 : quotB 4 t.data.toList = false := rfl
      rw [e1] at hW hG
      rw [e2] at hQ hG
      rw [a1'] at hW' hG
      rw [a2'] at hQ' hG
      have HE := Lib.hid (hG.trans (show _ = false by rfl)); clear hG
      go_enter Try.func5, Try.ntmps5
      go_wp2_with fail
      refine (hO _).mono ?_
      rintro e w1 ⟨rfl, hb1⟩
      have n1 : Below (w.heap.size + 2) (twoBox 4 t a 2 t' a' w) w1 := hb1.mono (by simp)
      obtain ⟨u0, u1, u2, v0, v1, v2⟩ := twoBox_cells n1
      have b1 := (twoBox_below 4 t a 2 t' a' w).trans (n1.mono (by omega))
      go_wp2_with fail
      refine (hO' _).mono ?_
      rintro e w2 ⟨rfl, hb2⟩
      have n2 := n1.trans (hb2.mono (by have := n1.size; rw [twoBox_size] at this; exact this))
      obtain ⟨u0, u1, u2, v0, v1, v2⟩ := twoBox_cells n2
      have b2 := (twoBox_below 4 t a 2 t' a' w).trans (n2.mono (by omega))
      go_wp2_with fail
      refine (hW _).mono ?_
      rintro e w3 ⟨rfl, hb3⟩
      have n3 := n2.trans (hb3.mono (by have := n2.size; rw [twoBox_size] at this; exact this))
      obtain ⟨u0, u1, u2, v0, v1, v2⟩ := twoBox_cells n3
      have b3 := (twoBox_below 4 t a 2 t' a' w).trans (n3.mono (by omega))
      go_wp2_with fail
      refine (hQ _).mono ?_
      rintro e w4 ⟨rfl, hb4⟩
      have n4 := n3.trans (hb4.mono (by have := n3.size; rw [twoBox_size] at this; exact this))
      obtain ⟨u0, u1, u2, v0, v1, v2⟩ := twoBox_cells n4
      have b4 := (twoBox_below 4 t a 2 t' a' w).trans (n4.mono (by omega))
      go_wp2_with fail
      go_ret
      exact ⟨by rw [HE.out]; rfl, b4⟩
    · have e1 : wrdB 4 t.data.toList = false := rfl
      have e2 : quotB 4 t.data.toList = false := rfl
      rw [e1] at hW hG
      rw [e2] at hQ hG
      have e1' : wrdB 4 t'.data.toList = false := rfl
      have e2' : quotB 4 t'.data.toList = false := rfl
      rw [e1'] at hW' hG
      rw [e2'] at hQ' hG
      have HE := Lib.hid (hG.trans (show _ = true by rfl)); clear hG
      go_enter Try.func5, Try.ntmps5
      go_wp2_with fail
      refine (hO _).mono ?_
      rintro e w1 ⟨rfl, hb1⟩
      have n1 : Below (w.heap.size + 2) (twoBox 4 t a 4 t' a' w) w1 := hb1.mono (by simp)
      obtain ⟨u0, u1, u2, v0, v1, v2⟩ := twoBox_cells n1
      have b1 := (twoBox_below 4 t a 4 t' a' w).trans (n1.mono (by omega))
      go_wp2_with fail
      refine (hO' _).mono ?_
      rintro e w2 ⟨rfl, hb2⟩
      have n2 := n1.trans (hb2.mono (by have := n1.size; rw [twoBox_size] at this; exact this))
      obtain ⟨u0, u1, u2, v0, v1, v2⟩ := twoBox_cells n2
      have b2 := (twoBox_below 4 t a 4 t' a' w).trans (n2.mono (by omega))
      go_wp2_with fail
      refine (hW _).mono ?_
      rintro e w3 ⟨rfl, hb3⟩
      have n3 := n2.trans (hb3.mono (by have := n2.size; rw [twoBox_size] at this; exact this))
      obtain ⟨u0, u1, u2, v0, v1, v2⟩ := twoBox_cells n3
      have b3 := (twoBox_below 4 t a 4 t' a' w).trans (n3.mono (by omega))
      go_wp2_with fail
      go_ret
      exact ⟨by rw [HE.out]; rfl, b3⟩
    · have e1 : wrdB 4 t.data.toList = false := rfl
      have e2 : quotB 4 t.data.toList = false := rfl
      rw [e1] at hW hG
      rw [e2] at hQ hG
      have e1' : wrdB 5 t'.data.toList = false := rfl
      have e2' : quotB 5 t'.data.toList = false := rfl
      rw [e1'] at hW' hG
      rw [e2'] at hQ' hG
      have HE := Lib.hid (hG.trans (show _ = false by rfl)); clear hG
      go_enter Try.func5, Try.ntmps5
      go_wp2_with fail
      refine (hO _).mono ?_
      rintro e w1 ⟨rfl, hb1⟩
      have n1 : Below (w.heap.size + 2) (twoBox 4 t a 5 t' a' w) w1 := hb1.mono (by simp)
      obtain ⟨u0, u1, u2, v0, v1, v2⟩ := twoBox_cells n1
      have b1 := (twoBox_below 4 t a 5 t' a' w).trans (n1.mono (by omega))
      go_wp2_with fail
      refine (hO' _).mono ?_
      rintro e w2 ⟨rfl, hb2⟩
      have n2 := n1.trans (hb2.mono (by have := n1.size; rw [twoBox_size] at this; exact this))
      obtain ⟨u0, u1, u2, v0, v1, v2⟩ := twoBox_cells n2
      have b2 := (twoBox_below 4 t a 5 t' a' w).trans (n2.mono (by omega))
      go_wp2_with fail
      refine (hW _).mono ?_
      rintro e w3 ⟨rfl, hb3⟩
      have n3 := n2.trans (hb3.mono (by have := n2.size; rw [twoBox_size] at this; exact this))
      obtain ⟨u0, u1, u2, v0, v1, v2⟩ := twoBox_cells n3
      have b3 := (twoBox_below 4 t a 5 t' a' w).trans (n3.mono (by omega))
      go_wp2_with fail
      refine (hQ _).mono ?_
      rintro e w4 ⟨rfl, hb4⟩
      have n4 := n3.trans (hb4.mono (by have := n3.size; rw [twoBox_size] at this; exact this))
      obtain ⟨u0, u1, u2, v0, v1, v2⟩ := twoBox_cells n4
      have b4 := (twoBox_below 4 t a 5 t' a' w).trans (n4.mono (by omega))
      go_wp2_with fail
      go_ret
      exact ⟨by rw [HE.out]; rfl, b4⟩
  · rcases fW' with ⟨a1', a2', a4', a5', -⟩ | ⟨rfl, a1', a2', -⟩ | ⟨rfl, -⟩ | ⟨rfl, sg', -⟩
    · have e1 : wrdB 5 t.data.toList = false := rfl
      have e2 : quotB 5 t.data.toList = false := rfl
      rw [e1] at hW hG
      rw [e2] at hQ hG
      rw [a1'] at hW' hG
      rw [a2'] at hQ' hG
      have q4' : (k' == 4) = false := by simpa using a4'
      have q5' : (k' == 5) = false := by simpa using a5'
      rw [decide_eq_false a4', decide_eq_false a5'] at hG
      have HE := Lib.hid (hG.trans (show _ = false by rfl)); clear hG
      go_enter Try.func5, Try.ntmps5
      go_wp2_with fail
      refine (hO _).mono ?_
      rintro e w1 ⟨rfl, hb1⟩
      have n1 : Below (w.heap.size + 2) (twoBox 5 t a k' t' a' w) w1 := hb1.mono (by simp)
      obtain ⟨u0, u1, u2, v0, v1, v2⟩ := twoBox_cells n1
      have b1 := (twoBox_below 5 t a k' t' a' w).trans (n1.mono (by omega))
      go_wp2_with fail
      refine (hO' _).mono ?_
      rintro e w2 ⟨rfl, hb2⟩
      have n2 := n1.trans (hb2.mono (by have := n1.size; rw [twoBox_size] at this; exact this))
      obtain ⟨u0, u1, u2, v0, v1, v2⟩ := twoBox_cells n2
      have b2 := (twoBox_below 5 t a k' t' a' w).trans (n2.mono (by omega))
      go_wp2_with fail
      refine (hW _).mono ?_
      rintro e w3 ⟨rfl, hb3⟩
      have n3 := n2.trans (hb3.mono (by have := n2.size; rw [twoBox_size] at this; exact this))
      obtain ⟨u0, u1, u2, v0, v1, v2⟩ := twoBox_cells n3
      have b3 := (twoBox_below 5 t a k' t' a' w).trans (n3.mono (by omega))
      go_wp2_with fail
      refine (hQ _).mono ?_
      rintro e w4 ⟨rfl, hb4⟩
      have n4 := n3.trans (hb4.mono (by have := n3.size; rw [twoBox_size] at this; exact this))
      obtain ⟨u0, u1, u2, v0, v1, v2⟩ := twoBox_cells n4
      have b4 := (twoBox_below 5 t a k' t' a' w).trans (n4.mono (by omega))
      go_wp2_with fail
      go_ret
      exact ⟨by rw [HE.out]; rfl, b4⟩
    · have e1 : wrdB 5 t.data.toList = false := rfl
      have e2 : quotB 5 t.data.toList = false := rfl
      rw [e1] at hW hG
      rw [e2] at hQ hG
      rw [a1'] at hW' hG
      rw [a2'] at hQ' hG
      have HE := Lib.hid (hG.trans (show _ = false by rfl)); clear hG
      go_enter Try.func5, Try.ntmps5
      go_wp2_with fail
      refine (hO _).mono ?_
      rintro e w1 ⟨rfl, hb1⟩
      have n1 : Below (w.heap.size + 2) (twoBox 5 t a 2 t' a' w) w1 := hb1.mono (by simp)
      obtain ⟨u0, u1, u2, v0, v1, v2⟩ := twoBox_cells n1
      have b1 := (twoBox_below 5 t a 2 t' a' w).trans (n1.mono (by omega))
      go_wp2_with fail
      refine (hO' _).mono ?_
      rintro e w2 ⟨rfl, hb2⟩
      have n2 := n1.trans (hb2.mono (by have := n1.size; rw [twoBox_size] at this; exact this))
      obtain ⟨u0, u1, u2, v0, v1, v2⟩ := twoBox_cells n2
      have b2 := (twoBox_below 5 t a 2 t' a' w).trans (n2.mono (by omega))
      go_wp2_with fail
      refine (hW _).mono ?_
      rintro e w3 ⟨rfl, hb3⟩
      have n3 := n2.trans (hb3.mono (by have := n2.size; rw [twoBox_size] at this; exact this))
      obtain ⟨u0, u1, u2, v0, v1, v2⟩ := twoBox_cells n3
      have b3 := (twoBox_below 5 t a 2 t' a' w).trans (n3.mono (by omega))
      go_wp2_with fail
      refine (hQ _).mono ?_
      rintro e w4 ⟨rfl, hb4⟩
      have n4 := n3.trans (hb4.mono (by have := n3.size; rw [twoBox_size] at this; exact this))
      obtain ⟨u0, u1, u2, v0, v1, v2⟩ := twoBox_cells n4
      have b4 := (twoBox_below 5 t a 2 t' a' w).trans (n4.mono (by omega))
      go_wp2_with fail
      go_ret
      exact ⟨by rw [HE.out]; rfl, b4⟩
    · have e1 : wrdB 5 t.data.toList = false := rfl
      have e2 : quotB 5 t.data.toList = false := rfl
      rw [e1] at hW hG
      rw [e2] at hQ hG
      have e1' : wrdB 4 t'.data.toList = false := rfl
      have e2' : quotB 4 t'.data.toList = false := rfl
      rw [e1'] at hW' hG
      rw [e2'] at hQ' hG
      have HE := Lib.hid (hG.trans (show _ = false by rfl)); clear hG
      go_enter Try.func5, Try.ntmps5
      go_wp2_with fail
      refine (hO _).mono ?_
      rintro e w1 ⟨rfl, hb1⟩
      have n1 : Below (w.heap.size + 2) (twoBox 5 t a 4 t' a' w) w1 := hb1.mono (by simp)
      obtain ⟨u0, u1, u2, v0, v1, v2⟩ := twoBox_cells n1
      have b1 := (twoBox_below 5 t a 4 t' a' w).trans (n1.mono (by omega))
      go_wp2_with fail
      refine (hO' _).mono ?_
      rintro e w2 ⟨rfl, hb2⟩
      have n2 := n1.trans (hb2.mono (by have := n1.size; rw [twoBox_size] at this; exact this))
      obtain ⟨u0, u1, u2, v0, v1, v2⟩ := twoBox_cells n2
      have b2 := (twoBox_below 5 t a 4 t' a' w).trans (n2.mono (by omega))
      go_wp2_with fail
      refine (hW _).mono ?_
      rintro e w3 ⟨rfl, hb3⟩
      have n3 := n2.trans (hb3.mono (by have := n2.size; rw [twoBox_size] at this; exact this))
      obtain ⟨u0, u1, u2, v0, v1, v2⟩ := twoBox_cells n3
      have b3 := (twoBox_below 5 t a 4 t' a' w).trans (n3.mono (by omega))
      go_wp2_with fail
      refine (hQ _).mono ?_
      rintro e w4 ⟨rfl, hb4⟩
      have n4 := n3.trans (hb4.mono (by have := n3.size; rw [twoBox_size] at this; exact this))
      obtain ⟨u0, u1, u2, v0, v1, v2⟩ := twoBox_cells n4
      have b4 := (twoBox_below 5 t a 4 t' a' w).trans (n4.mono (by omega))
      go_wp2_with fail
      go_ret
      exact ⟨by rw [HE.out]; rfl, b4⟩
    · have e1 : wrdB 5 t.data.toList = false := rfl
      have e2 : quotB 5 t.data.toList = false := rfl
      rw [e1] at hW hG
      rw [e2] at hQ hG
      have e1' : wrdB 5 t'.data.toList = false := rfl
      have e2' : quotB 5 t'.data.toList = false := rfl
      rw [e1'] at hW' hG
      rw [e2'] at hQ' hG
      have hG2 : gapB 5 t.data.toList 5 t'.data.toList = signGap t.data.toList t'.data.toList := hG
      clear hG
      have p0 : 0 < t'.size := by
        show 0 < t'.data.toList.length
        rcases signB_cases sg' with h | h | h | h | h | h | h | h | h | h | h | h | h | h | h | h <;> (rw [h]; decide)
      have p0i : (0 : Int) < (t'.size : Int) := by omega
      have g61 : (((t'[0]'p0).toNat : Int) == 61) = decide (t'.data.toList.getD 0 0 = 61) := by rw [str_at p0]; exact u8_dec _ 61
      have g62 : (((t'[0]'p0).toNat : Int) == 62) = decide (t'.data.toList.getD 0 0 = 62) := by rw [str_at p0]; exact u8_dec _ 62
      clear sg'
      by_cases c45 : t.data.toList = [45]
      · have hG3 := hG2
        rw [c45] at hG3
        have HE := Lib.hid (hG3.trans (show _ = (t'.toList == [45]) by rw [beq_lit]; rfl)); clear hG3 hG2 g61 g62
        have he := ba_of c45
        obtain rfl := he
        go_enter Try.func5, Try.ntmps5
        go_wp2_with fail
        refine (hO _).mono ?_
        rintro e w1 ⟨rfl, hb1⟩
        have n1 : Below (w.heap.size + 2) (twoBox 5 (⟨#[45]⟩ : ByteArray) a 5 t' a' w) w1 := hb1.mono (by simp)
        obtain ⟨u0, u1, u2, v0, v1, v2⟩ := twoBox_cells n1
        have b1 := (twoBox_below 5 (⟨#[45]⟩ : ByteArray) a 5 t' a' w).trans (n1.mono (by omega))
        go_wp2_with fail
        refine (hO' _).mono ?_
        rintro e w2 ⟨rfl, hb2⟩
        have n2 := n1.trans (hb2.mono (by have := n1.size; rw [twoBox_size] at this; exact this))
        obtain ⟨u0, u1, u2, v0, v1, v2⟩ := twoBox_cells n2
        have b2 := (twoBox_below 5 (⟨#[45]⟩ : ByteArray) a 5 t' a' w).trans (n2.mono (by omega))
        go_wp2_with fail
        refine (hW _).mono ?_
        rintro e w3 ⟨rfl, hb3⟩
        have n3 := n2.trans (hb3.mono (by have := n2.size; rw [twoBox_size] at this; exact this))
        obtain ⟨u0, u1, u2, v0, v1, v2⟩ := twoBox_cells n3
        have b3 := (twoBox_below 5 (⟨#[45]⟩ : ByteArray) a 5 t' a' w).trans (n3.mono (by omega))
        go_wp2_with fail
        refine (hQ _).mono ?_
        rintro e w4 ⟨rfl, hb4⟩
        have n4 := n3.trans (hb4.mono (by have := n3.size; rw [twoBox_size] at this; exact this))
        obtain ⟨u0, u1, u2, v0, v1, v2⟩ := twoBox_cells n4
        have b4 := (twoBox_below 5 (⟨#[45]⟩ : ByteArray) a 5 t' a' w).trans (n4.mono (by omega))
        go_wp2_with fail
        go_ret
        exact ⟨by have := HE.out; exact congrArg (fun b => Ending.returned (.bool b)) this.symm, b4⟩
      by_cases c47 : t.data.toList = [47]
      · have hG3 := hG2
        rw [c47] at hG3
        have HE := Lib.hid (hG3.trans (show _ = (t'.toList == [42]) by rw [beq_lit]; rfl)); clear hG3 hG2 g61 g62
        have he := ba_of c47
        obtain rfl := he
        go_enter Try.func5, Try.ntmps5
        go_wp2_with fail
        refine (hO _).mono ?_
        rintro e w1 ⟨rfl, hb1⟩
        have n1 : Below (w.heap.size + 2) (twoBox 5 (⟨#[47]⟩ : ByteArray) a 5 t' a' w) w1 := hb1.mono (by simp)
        obtain ⟨u0, u1, u2, v0, v1, v2⟩ := twoBox_cells n1
        have b1 := (twoBox_below 5 (⟨#[47]⟩ : ByteArray) a 5 t' a' w).trans (n1.mono (by omega))
        go_wp2_with fail
        refine (hO' _).mono ?_
        rintro e w2 ⟨rfl, hb2⟩
        have n2 := n1.trans (hb2.mono (by have := n1.size; rw [twoBox_size] at this; exact this))
        obtain ⟨u0, u1, u2, v0, v1, v2⟩ := twoBox_cells n2
        have b2 := (twoBox_below 5 (⟨#[47]⟩ : ByteArray) a 5 t' a' w).trans (n2.mono (by omega))
        go_wp2_with fail
        refine (hW _).mono ?_
        rintro e w3 ⟨rfl, hb3⟩
        have n3 := n2.trans (hb3.mono (by have := n2.size; rw [twoBox_size] at this; exact this))
        obtain ⟨u0, u1, u2, v0, v1, v2⟩ := twoBox_cells n3
        have b3 := (twoBox_below 5 (⟨#[47]⟩ : ByteArray) a 5 t' a' w).trans (n3.mono (by omega))
        go_wp2_with fail
        refine (hQ _).mono ?_
        rintro e w4 ⟨rfl, hb4⟩
        have n4 := n3.trans (hb4.mono (by have := n3.size; rw [twoBox_size] at this; exact this))
        obtain ⟨u0, u1, u2, v0, v1, v2⟩ := twoBox_cells n4
        have b4 := (twoBox_below 5 (⟨#[47]⟩ : ByteArray) a 5 t' a' w).trans (n4.mono (by omega))
        go_wp2_with fail
        go_ret
        exact ⟨by have := HE.out; exact congrArg (fun b => Ending.returned (.bool b)) this.symm, b4⟩
      by_cases c60 : t.data.toList = [60]
      · have hG3 := hG2
        rw [c60] at hG3
        have hG4 := hG3.trans (show _ = ((((t'[0]'p0).toNat : Int) == 61) || (((t'[0]'p0).toNat : Int) == 62)) by rw [g61, g62]; rfl); clear hG3 hG2 g61 g62
        have he := ba_of c60
        obtain rfl := he
        cases f61 : (((t'[0]'p0).toNat : Int) == 61)
        · rw [f61, Bool.false_or] at hG4
          have HE := Lib.hid hG4; clear hG4
          go_enter Try.func5, Try.ntmps5
          go_wp2_with fail
          refine (hO _).mono ?_
          rintro e w1 ⟨rfl, hb1⟩
          have n1 : Below (w.heap.size + 2) (twoBox 5 (⟨#[60]⟩ : ByteArray) a 5 t' a' w) w1 := hb1.mono (by simp)
          obtain ⟨u0, u1, u2, v0, v1, v2⟩ := twoBox_cells n1
          have b1 := (twoBox_below 5 (⟨#[60]⟩ : ByteArray) a 5 t' a' w).trans (n1.mono (by omega))
          go_wp2_with fail
          refine (hO' _).mono ?_
          rintro e w2 ⟨rfl, hb2⟩
          have n2 := n1.trans (hb2.mono (by have := n1.size; rw [twoBox_size] at this; exact this))
          obtain ⟨u0, u1, u2, v0, v1, v2⟩ := twoBox_cells n2
          have b2 := (twoBox_below 5 (⟨#[60]⟩ : ByteArray) a 5 t' a' w).trans (n2.mono (by omega))
          go_wp2_with fail
          refine (hW _).mono ?_
          rintro e w3 ⟨rfl, hb3⟩
          have n3 := n2.trans (hb3.mono (by have := n2.size; rw [twoBox_size] at this; exact this))
          obtain ⟨u0, u1, u2, v0, v1, v2⟩ := twoBox_cells n3
          have b3 := (twoBox_below 5 (⟨#[60]⟩ : ByteArray) a 5 t' a' w).trans (n3.mono (by omega))
          go_wp2_with fail
          refine (hQ _).mono ?_
          rintro e w4 ⟨rfl, hb4⟩
          have n4 := n3.trans (hb4.mono (by have := n3.size; rw [twoBox_size] at this; exact this))
          obtain ⟨u0, u1, u2, v0, v1, v2⟩ := twoBox_cells n4
          have b4 := (twoBox_below 5 (⟨#[60]⟩ : ByteArray) a 5 t' a' w).trans (n4.mono (by omega))
          go_wp2_with fail
          go_ret
          exact ⟨by have := HE.out; exact congrArg (fun b => Ending.returned (.bool b)) this.symm, b4⟩
        · rw [f61, Bool.true_or] at hG4
          have HE := Lib.hid hG4; clear hG4
          go_enter Try.func5, Try.ntmps5
          go_wp2_with fail
          refine (hO _).mono ?_
          rintro e w1 ⟨rfl, hb1⟩
          have n1 : Below (w.heap.size + 2) (twoBox 5 (⟨#[60]⟩ : ByteArray) a 5 t' a' w) w1 := hb1.mono (by simp)
          obtain ⟨u0, u1, u2, v0, v1, v2⟩ := twoBox_cells n1
          have b1 := (twoBox_below 5 (⟨#[60]⟩ : ByteArray) a 5 t' a' w).trans (n1.mono (by omega))
          go_wp2_with fail
          refine (hO' _).mono ?_
          rintro e w2 ⟨rfl, hb2⟩
          have n2 := n1.trans (hb2.mono (by have := n1.size; rw [twoBox_size] at this; exact this))
          obtain ⟨u0, u1, u2, v0, v1, v2⟩ := twoBox_cells n2
          have b2 := (twoBox_below 5 (⟨#[60]⟩ : ByteArray) a 5 t' a' w).trans (n2.mono (by omega))
          go_wp2_with fail
          refine (hW _).mono ?_
          rintro e w3 ⟨rfl, hb3⟩
          have n3 := n2.trans (hb3.mono (by have := n2.size; rw [twoBox_size] at this; exact this))
          obtain ⟨u0, u1, u2, v0, v1, v2⟩ := twoBox_cells n3
          have b3 := (twoBox_below 5 (⟨#[60]⟩ : ByteArray) a 5 t' a' w).trans (n3.mono (by omega))
          go_wp2_with fail
          refine (hQ _).mono ?_
          rintro e w4 ⟨rfl, hb4⟩
          have n4 := n3.trans (hb4.mono (by have := n3.size; rw [twoBox_size] at this; exact this))
          obtain ⟨u0, u1, u2, v0, v1, v2⟩ := twoBox_cells n4
          have b4 := (twoBox_below 5 (⟨#[60]⟩ : ByteArray) a 5 t' a' w).trans (n4.mono (by omega))
          go_wp2_with fail
          go_ret
          exact ⟨by have := HE.out; exact congrArg (fun b => Ending.returned (.bool b)) this.symm, b4⟩
      by_cases c62 : t.data.toList = [62]
      · have hG3 := hG2
        rw [c62] at hG3
        have HE := Lib.hid (hG3.trans (show _ = (((t'[0]'p0).toNat : Int) == 61) from g61.symm)); clear hG3 hG2 g61 g62
        have he := ba_of c62
        obtain rfl := he
        go_enter Try.func5, Try.ntmps5
        go_wp2_with fail
        refine (hO _).mono ?_
        rintro e w1 ⟨rfl, hb1⟩
        have n1 : Below (w.heap.size + 2) (twoBox 5 (⟨#[62]⟩ : ByteArray) a 5 t' a' w) w1 := hb1.mono (by simp)
        obtain ⟨u0, u1, u2, v0, v1, v2⟩ := twoBox_cells n1
        have b1 := (twoBox_below 5 (⟨#[62]⟩ : ByteArray) a 5 t' a' w).trans (n1.mono (by omega))
        go_wp2_with fail
        refine (hO' _).mono ?_
        rintro e w2 ⟨rfl, hb2⟩
        have n2 := n1.trans (hb2.mono (by have := n1.size; rw [twoBox_size] at this; exact this))
        obtain ⟨u0, u1, u2, v0, v1, v2⟩ := twoBox_cells n2
        have b2 := (twoBox_below 5 (⟨#[62]⟩ : ByteArray) a 5 t' a' w).trans (n2.mono (by omega))
        go_wp2_with fail
        refine (hW _).mono ?_
        rintro e w3 ⟨rfl, hb3⟩
        have n3 := n2.trans (hb3.mono (by have := n2.size; rw [twoBox_size] at this; exact this))
        obtain ⟨u0, u1, u2, v0, v1, v2⟩ := twoBox_cells n3
        have b3 := (twoBox_below 5 (⟨#[62]⟩ : ByteArray) a 5 t' a' w).trans (n3.mono (by omega))
        go_wp2_with fail
        refine (hQ _).mono ?_
        rintro e w4 ⟨rfl, hb4⟩
        have n4 := n3.trans (hb4.mono (by have := n3.size; rw [twoBox_size] at this; exact this))
        obtain ⟨u0, u1, u2, v0, v1, v2⟩ := twoBox_cells n4
        have b4 := (twoBox_below 5 (⟨#[62]⟩ : ByteArray) a 5 t' a' w).trans (n4.mono (by omega))
        go_wp2_with fail
        go_ret
        exact ⟨by have := HE.out; exact congrArg (fun b => Ending.returned (.bool b)) this.symm, b4⟩
      have HE := Lib.hid (hG2.trans (show _ = false by unfold signGap; rw [if_neg c45, if_neg c47, if_neg c60, if_neg c62])); clear hG2 g61 g62
      have r45 : (t.toList == [45]) = false := by rw [beq_lit, decide_eq_false c45]
      have r47 : (t.toList == [47]) = false := by rw [beq_lit, decide_eq_false c47]
      have r60 : (t.toList == [60]) = false := by rw [beq_lit, decide_eq_false c60]
      have r62 : (t.toList == [62]) = false := by rw [beq_lit, decide_eq_false c62]
      clear c45 c47 c60 c62
      go_enter Try.func5, Try.ntmps5
      go_wp2_with fail
      refine (hO _).mono ?_
      rintro e w1 ⟨rfl, hb1⟩
      have n1 : Below (w.heap.size + 2) (twoBox 5 t a 5 t' a' w) w1 := hb1.mono (by simp)
      obtain ⟨u0, u1, u2, v0, v1, v2⟩ := twoBox_cells n1
      have b1 := (twoBox_below 5 t a 5 t' a' w).trans (n1.mono (by omega))
      go_wp2_with fail
      refine (hO' _).mono ?_
      rintro e w2 ⟨rfl, hb2⟩
      have n2 := n1.trans (hb2.mono (by have := n1.size; rw [twoBox_size] at this; exact this))
      obtain ⟨u0, u1, u2, v0, v1, v2⟩ := twoBox_cells n2
      have b2 := (twoBox_below 5 t a 5 t' a' w).trans (n2.mono (by omega))
      go_wp2_with fail
      refine (hW _).mono ?_
      rintro e w3 ⟨rfl, hb3⟩
      have n3 := n2.trans (hb3.mono (by have := n2.size; rw [twoBox_size] at this; exact this))
      obtain ⟨u0, u1, u2, v0, v1, v2⟩ := twoBox_cells n3
      have b3 := (twoBox_below 5 t a 5 t' a' w).trans (n3.mono (by omega))
      go_wp2_with fail
      refine (hQ _).mono ?_
      rintro e w4 ⟨rfl, hb4⟩
      have n4 := n3.trans (hb4.mono (by have := n3.size; rw [twoBox_size] at this; exact this))
      obtain ⟨u0, u1, u2, v0, v1, v2⟩ := twoBox_cells n4
      have b4 := (twoBox_below 5 t a 5 t' a' w).trans (n4.mono (by omega))
      go_wp2_with fail
      go_ret
      exact ⟨by rw [HE.out]; rfl, b4⟩
end Go.Proofs.Ytcadoplfgclbjaa
