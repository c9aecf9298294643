/- Joined texts: SpaceS AppS JoinS SqzS. -/
import Derived.Test.YtcadoplfgclbjaaDoorQS
import Derived.Test.YtcadoplfgclbjaaDoorQF
import Derived.Test.YtcadoplfgclbjaaDoorQA
import Derived.Test.YtcadoplfgclbjaaDoorQG
import Derived.Test.YtcadoplfgclbjaaDoorQD
import Derived.Lib.AppendStr
import Derived.Deep.DeepMust
/- Contracts of the model's test on the gap between two tokens. -/
namespace Go.Proofs.YtcadoplfgclbjaaDoor
open Go.RowKit

set_option maxRecDepth 100000 in
set_option maxHeartbeats 1600000 in
theorem l4Word_spec (k : Int) (t : ByteArray) (a : Int) (w : World) (ht : t.size ≤ 9223372036854775807) :
    Calls Tryd.prog 30 #[.agg #[.int .i64 k, .string t, .int .i64 a]] w (BoolE (wrdB k t.data.toList) w) := by
  have hbb := (Below.refl w.heap.size w).alloc (Nat.le_refl _) (.cells #[.int .i64 k, .string t, .int .i64 a] 25)
  by_cases h1 : k = 1
  · subst h1
    go_enter Tryd.func30, Tryd.ntmps30
    go_wp2_with fail
    go_ret
    exact ⟨rfl, hbb⟩
  by_cases h3 : k = 3
  · subst h3
    go_enter Tryd.func30, Tryd.ntmps30
    go_wp2_with fail
    go_ret
    exact ⟨rfl, hbb⟩
  by_cases h2 : k = 2
  · subst h2
    have hP := fun w => plain_spec t w ht
    have hE : wrdB 2 t.data.toList = plainB t.data.toList := by unfold wrdB; simp
    have HE := Lib.hid hE; clear hE
    generalize plainB t.data.toList = b at hP HE
    go_enter Tryd.func30, Tryd.ntmps30
    go_wp2_with fail
    refine (hP _).mono ?_
    rintro e w1 ⟨rfl, hb1⟩
    go_wp2_with fail
    go_ret
    exact ⟨by rw [HE.out]; rfl, hbb.trans (hb1.mono (by simp))⟩
  · have q1 : (k == 1) = false := by simpa using h1
    have q2 : (k == 2) = false := by simpa using h2
    have q3 : (k == 3) = false := by simpa using h3
    have hE : wrdB k t.data.toList = false := by unfold wrdB; simp [h1, h2, h3]
    have HE := Lib.hid hE; clear hE
    go_enter Tryd.func30, Tryd.ntmps30
    go_wp2_with fail
    go_ret
    exact ⟨by rw [HE.out]; rfl, hbb⟩
set_option maxRecDepth 100000 in
set_option maxHeartbeats 1600000 in
theorem l4Quoted_spec (k : Int) (t : ByteArray) (a : Int) (w : World) (ht : t.size ≤ 9223372036854775807) :
    Calls Tryd.prog 31 #[.agg #[.int .i64 k, .string t, .int .i64 a]] w (BoolE (quotB k t.data.toList) w) := by
  have hbb := (Below.refl w.heap.size w).alloc (Nat.le_refl _) (.cells #[.int .i64 k, .string t, .int .i64 a] 25)
  by_cases h2 : k = 2
  · subst h2
    have hP := fun w => plain_spec t w ht
    have hE : quotB 2 t.data.toList = !plainB t.data.toList := by unfold quotB; simp
    have HE := Lib.hid hE; clear hE
    generalize plainB t.data.toList = b at hP HE
    go_enter Tryd.func31, Tryd.ntmps31
    go_wp2_with fail
    refine (hP _).mono ?_
    rintro e w1 ⟨rfl, hb1⟩
    go_wp2_with fail
    go_ret
    exact ⟨by rw [HE.out]; rfl, hbb.trans (hb1.mono (by simp))⟩
  · have q2 : (k == 2) = false := by simpa using h2
    have hE : quotB k t.data.toList = false := by unfold quotB; simp [h2]
    have HE := Lib.hid hE; clear hE
    go_enter Tryd.func31, Tryd.ntmps31
    go_wp2_with fail
    go_ret
    exact ⟨by rw [HE.out]; rfl, hbb⟩

theorem u8_dec (b c : UInt8) : ((b.toNat : Int) == (c.toNat : Int)) = decide (b = c) := by
  by_cases h : b = c
  · rw [u8_eq h, decide_eq_true h]
  · rw [u8_ne h, decide_eq_false h]
/-- the two parameters of NeedsGap, boxed -/
def twoBox (k : Int) (t : ByteArray) (a k' : Int) (t' : ByteArray) (a' : Int) (w : World) : World :=
  (w.alloc (.cells #[.int .i64 k, .string t, .int .i64 a] 25)).alloc (.cells #[.int .i64 k', .string t', .int .i64 a'] 25)
theorem twoBox_size (k : Int) (t : ByteArray) (a k' : Int) (t' : ByteArray) (a' : Int) (w : World) : (twoBox k t a k' t' a' w).heap.size = w.heap.size + 2 := by simp [twoBox]
theorem twoBox_below (k : Int) (t : ByteArray) (a k' : Int) (t' : ByteArray) (a' : Int) (w : World) : Below w.heap.size w (twoBox k t a k' t' a' w) :=
  ((Below.refl w.heap.size w).alloc (Nat.le_refl _) _).alloc (by simp) _
theorem twoBox_cells {k : Int} {t : ByteArray} {a k' : Int} {t' : ByteArray} {a' : Int} {w w' : World} (h : Below (w.heap.size + 2) (twoBox k t a k' t' a' w) w') :
    w'.cell? ⟨w.heap.size, 0, none⟩ = some (.int .i64 k) ∧ w'.cell? ⟨w.heap.size, 1, none⟩ = some (.string t) ∧ w'.cell? ⟨w.heap.size, 2, none⟩ = some (.int .i64 a) ∧
    w'.cell? ⟨w.heap.size + 1, 0, none⟩ = some (.int .i64 k') ∧ w'.cell? ⟨w.heap.size + 1, 1, none⟩ = some (.string t') ∧ w'.cell? ⟨w.heap.size + 1, 2, none⟩ = some (.int .i64 a') := by
  have r1 : (twoBox k t a k' t' a' w).heap[w.heap.size]? = some (.cells #[.int .i64 k, .string t, .int .i64 a] 25) := by
    unfold twoBox
    rw [Below.heap_alloc _ _ _ (by simp)]
    exact heap_alloc_new w _
  have r2 : (twoBox k t a k' t' a' w).heap[w.heap.size + 1]? = some (.cells #[.int .i64 k', .string t', .int .i64 a'] 25) := by
    have := heap_alloc_new (w.alloc (.cells #[.int .i64 k, .string t, .int .i64 a] 25)) (.cells #[.int .i64 k', .string t', .int .i64 a'] 25)
    simpa [twoBox] using this
  refine ⟨?_, ?_, ?_, ?_, ?_, ?_⟩
  · rw [h.cell (by show w.heap.size < _; omega), cell_of_row _ _ 0 _ 25 (0, 0) r1]; rfl
  · rw [h.cell (by show w.heap.size < _; omega), cell_of_row _ _ 1 _ 25 (0, 0) r1]; rfl
  · rw [h.cell (by show w.heap.size < _; omega), cell_of_row _ _ 2 _ 25 (0, 0) r1]; rfl
  · rw [h.cell (by show w.heap.size + 1 < _; omega), cell_of_row _ _ 0 _ 25 (0, 0) r2]; rfl
  · rw [h.cell (by show w.heap.size + 1 < _; omega), cell_of_row _ _ 1 _ 25 (0, 0) r2]; rfl
  · rw [h.cell (by show w.heap.size + 1 < _; omega), cell_of_row _ _ 2 _ 25 (0, 0) r2]; rfl

set_option maxRecDepth 100000 in
set_option maxHeartbeats 8000000 in
theorem gap_spec (k : Int) (t : ByteArray) (a k' : Int) (t' : ByteArray) (a' : Int) (w : World) (ht : t.size ≤ 9223372036854775807) (ht' : t'.size ≤ 9223372036854775807) :
    Calls Tryd.prog 10 #[.agg #[.int .i64 k, .string t, .int .i64 a], .agg #[.int .i64 k', .string t', .int .i64 a']] w (BoolE (gapB k t.data.toList k' t'.data.toList) w) := by
  have hO := fun w => tokenOk_spec k t a w ht
  have hO' := fun w => tokenOk_spec k' t' a' w ht'
  have hW := fun w => l4Word_spec k t a w ht
  have hW' := fun w => l4Word_spec k' t' a' w ht'
  have hQ := fun w => l4Quoted_spec k t a w ht
  have hQ' := fun w => l4Quoted_spec k' t' a' w ht'
  cases o1 : tokOk k t.data.toList
  · have HE := Lib.hid (show gapB k t.data.toList k' t'.data.toList = false by unfold gapB; rw [o1]; rfl)
    rw [o1] at hO
    clear hO' hW hW' hQ hQ' o1
    go_enter Tryd.func10, Tryd.ntmps10
    go_wp2_with fail
    refine (hO _).mono ?_
    rintro e w1 ⟨rfl, hb1⟩
    have n1 : Below (w.heap.size + 2) (twoBox k t a k' t' a' w) w1 := hb1.mono (by simp)
    obtain ⟨u0, u1, u2, v0, v1, v2⟩ := twoBox_cells n1
    have b1 := (twoBox_below k t a k' t' a' w).trans (n1.mono (by omega))
    go_wp2_with fail
    go_ret
    exact ⟨by rw [HE.out]; rfl, b1⟩
  cases o2 : tokOk k' t'.data.toList
  · have HE := Lib.hid (show gapB k t.data.toList k' t'.data.toList = false by unfold gapB; rw [o1, o2]; rfl)
    rw [o1] at hO
    rw [o2] at hO'
    clear hW hW' hQ hQ' o1 o2
    go_enter Tryd.func10, Tryd.ntmps10
    go_wp2_with fail
    refine (hO _).mono ?_
    rintro e w1 ⟨rfl, hb1⟩
    have n1 : Below (w.heap.size + 2) (twoBox k t a k' t' a' w) w1 := hb1.mono (by simp)
    obtain ⟨u0, u1, u2, v0, v1, v2⟩ := twoBox_cells n1
    have b1 := (twoBox_below k t a k' t' a' w).trans (n1.mono (by omega))
    go_wp2_with fail
    refine (hO' _).mono ?_
    rintro e w2 ⟨rfl, hb2⟩
    have n2 := n1.trans (hb2.mono (by have := n1.size; rw [twoBox_size] at this; exact this))
    obtain ⟨u0, u1, u2, v0, v1, v2⟩ := twoBox_cells n2
    have b2 := (twoBox_below k t a k' t' a' w).trans (n2.mono (by omega))
    go_wp2_with fail
    go_ret
    exact ⟨by rw [HE.out]; rfl, b2⟩
  rw [o1] at hO
  rw [o2] at hO'
  have hG : gapB k t.data.toList k' t'.data.toList = (if (wrdB k t.data.toList && wrdB k' t'.data.toList) || (decide (k = 4) && decide (k' = 4)) || (quotB k t.data.toList && quotB k' t'.data.toList) then true else if decide (k = 5) && decide (k' = 5) then signGap t.data.toList t'.data.toList else false) := by
    unfold gapB; rw [o1, o2]; rfl
  have fW := tok_forms o1
  have fW' := tok_forms o2
  clear o1 o2
  rcases fW with ⟨a1, a2, a4, a5, -⟩ | ⟨rfl, a1, a2, -⟩ | ⟨rfl, -⟩ | ⟨rfl, sg, -⟩
  · rcases fW' with ⟨a1', a2', a4', a5', -⟩ | ⟨rfl, a1', a2', -⟩ | ⟨rfl, -⟩ | ⟨rfl, sg', -⟩
    · rw [a1] at hW hG
      rw [a2] at hQ hG
      have q4 : (k == 4) = false := by simpa using a4
      have q5 : (k == 5) = false := by simpa using a5
      rw [decide_eq_false a4, decide_eq_false a5] at hG
      rw [a1'] at hW' hG
      rw [a2'] at hQ' hG
      have q4' : (k' == 4) = false := by simpa using a4'
      have q5' : (k' == 5) = false := by simpa using a5'
      rw [decide_eq_false a4', decide_eq_false a5'] at hG
      have HE := Lib.hid (hG.trans (show _ = true by rfl)); clear hG
      go_enter Tryd.func10, Tryd.ntmps10
      go_wp2_with fail
      refine (hO _).mono ?_
      rintro e w1 ⟨rfl, hb1⟩
      have n1 : Below (w.heap.size + 2) (twoBox k t a k' t' a' w) w1 := hb1.mono (by simp)
      obtain ⟨u0, u1, u2, v0, v1, v2⟩ := twoBox_cells n1
      have b1 := (twoBox_below k t a k' t' a' w).trans (n1.mono (by omega))
      go_wp2_with fail
      refine (hO' _).mono ?_
      rintro e w2 ⟨rfl, hb2⟩
      have n2 := n1.trans (hb2.mono (by have := n1.size; rw [twoBox_size] at this; exact this))
      obtain ⟨u0, u1, u2, v0, v1, v2⟩ := twoBox_cells n2
      have b2 := (twoBox_below k t a k' t' a' w).trans (n2.mono (by omega))
      go_wp2_with fail
      refine (hW _).mono ?_
      rintro e w3 ⟨rfl, hb3⟩
      have n3 := n2.trans (hb3.mono (by have := n2.size; rw [twoBox_size] at this; exact this))
      obtain ⟨u0, u1, u2, v0, v1, v2⟩ := twoBox_cells n3
      have b3 := (twoBox_below k t a k' t' a' w).trans (n3.mono (by omega))
      go_wp2_with fail
      refine (hW' _).mono ?_
      rintro e w4 ⟨rfl, hb4⟩
      have n4 := n3.trans (hb4.mono (by have := n3.size; rw [twoBox_size] at this; exact this))
      obtain ⟨u0, u1, u2, v0, v1, v2⟩ := twoBox_cells n4
      have b4 := (twoBox_below k t a k' t' a' w).trans (n4.mono (by omega))
      go_wp2_with fail
      go_ret
      exact ⟨by rw [HE.out]; rfl, b4⟩
    · rw [a1] at hW hG
      rw [a2] at hQ hG
      have q4 : (k == 4) = false := by simpa using a4
      have q5 : (k == 5) = false := by simpa using a5
      rw [decide_eq_false a4, decide_eq_false a5] at hG
      rw [a1'] at hW' hG
      rw [a2'] at hQ' hG
      have HE := Lib.hid (hG.trans (show _ = false by rfl)); clear hG
      go_enter Tryd.func10, Tryd.ntmps10
      go_wp2_with fail
      refine (hO _).mono ?_
      rintro e w1 ⟨rfl, hb1⟩
      have n1 : Below (w.heap.size + 2) (twoBox k t a 2 t' a' w) w1 := hb1.mono (by simp)
      obtain ⟨u0, u1, u2, v0, v1, v2⟩ := twoBox_cells n1
      have b1 := (twoBox_below k t a 2 t' a' w).trans (n1.mono (by omega))
      go_wp2_with fail
      refine (hO' _).mono ?_
      rintro e w2 ⟨rfl, hb2⟩
      have n2 := n1.trans (hb2.mono (by have := n1.size; rw [twoBox_size] at this; exact this))
      obtain ⟨u0, u1, u2, v0, v1, v2⟩ := twoBox_cells n2
      have b2 := (twoBox_below k t a 2 t' a' w).trans (n2.mono (by omega))
      go_wp2_with fail
      refine (hW _).mono ?_
      rintro e w3 ⟨rfl, hb3⟩
      have n3 := n2.trans (hb3.mono (by have := n2.size; rw [twoBox_size] at this; exact this))
      obtain ⟨u0, u1, u2, v0, v1, v2⟩ := twoBox_cells n3
      have b3 := (twoBox_below k t a 2 t' a' w).trans (n3.mono (by omega))
      go_wp2_with fail
      refine (hW' _).mono ?_
      rintro e w4 ⟨rfl, hb4⟩
      have n4 := n3.trans (hb4.mono (by have := n3.size; rw [twoBox_size] at this; exact this))
      obtain ⟨u0, u1, u2, v0, v1, v2⟩ := twoBox_cells n4
      have b4 := (twoBox_below k t a 2 t' a' w).trans (n4.mono (by omega))
      go_wp2_with fail
      refine (hQ _).mono ?_
      rintro e w5 ⟨rfl, hb5⟩
      have n5 := n4.trans (hb5.mono (by have := n4.size; rw [twoBox_size] at this; exact this))
      obtain ⟨u0, u1, u2, v0, v1, v2⟩ := twoBox_cells n5
      have b5 := (twoBox_below k t a 2 t' a' w).trans (n5.mono (by omega))
      go_wp2_with fail
      go_ret
      exact ⟨by rw [HE.out]; rfl, b5⟩
    · rw [a1] at hW hG
      rw [a2] at hQ hG
      have q4 : (k == 4) = false := by simpa using a4
      have q5 : (k == 5) = false := by simpa using a5
      rw [decide_eq_false a4, decide_eq_false a5] at hG
      have e1' : wrdB 4 t'.data.toList = false := rfl
      have e2' : quotB 4 t'.data.toList = false := rfl
      rw [e1'] at hW' hG
      rw [e2'] at hQ' hG
      have HE := Lib.hid (hG.trans (show _ = false by rfl)); clear hG
      go_enter Tryd.func10, Tryd.ntmps10
      go_wp2_with fail
      refine (hO _).mono ?_
      rintro e w1 ⟨rfl, hb1⟩
      have n1 : Below (w.heap.size + 2) (twoBox k t a 4 t' a' w) w1 := hb1.mono (by simp)
      obtain ⟨u0, u1, u2, v0, v1, v2⟩ := twoBox_cells n1
      have b1 := (twoBox_below k t a 4 t' a' w).trans (n1.mono (by omega))
      go_wp2_with fail
      refine (hO' _).mono ?_
      rintro e w2 ⟨rfl, hb2⟩
      have n2 := n1.trans (hb2.mono (by have := n1.size; rw [twoBox_size] at this; exact this))
      obtain ⟨u0, u1, u2, v0, v1, v2⟩ := twoBox_cells n2
      have b2 := (twoBox_below k t a 4 t' a' w).trans (n2.mono (by omega))
      go_wp2_with fail
      refine (hW _).mono ?_
      rintro e w3 ⟨rfl, hb3⟩
      have n3 := n2.trans (hb3.mono (by have := n2.size; rw [twoBox_size] at this; exact this))
      obtain ⟨u0, u1, u2, v0, v1, v2⟩ := twoBox_cells n3
      have b3 := (twoBox_below k t a 4 t' a' w).trans (n3.mono (by omega))
      go_wp2_with fail
      refine (hW' _).mono ?_
      rintro e w4 ⟨rfl, hb4⟩
      have n4 := n3.trans (hb4.mono (by have := n3.size; rw [twoBox_size] at this; exact this))
      obtain ⟨u0, u1, u2, v0, v1, v2⟩ := twoBox_cells n4
      have b4 := (twoBox_below k t a 4 t' a' w).trans (n4.mono (by omega))
      go_wp2_with fail
      refine (hQ _).mono ?_
      rintro e w5 ⟨rfl, hb5⟩
      have n5 := n4.trans (hb5.mono (by have := n4.size; rw [twoBox_size] at this; exact this))
      obtain ⟨u0, u1, u2, v0, v1, v2⟩ := twoBox_cells n5
      have b5 := (twoBox_below k t a 4 t' a' w).trans (n5.mono (by omega))
      go_wp2_with fail
      go_ret
      exact ⟨by rw [HE.out]; rfl, b5⟩
    · rw [a1] at hW hG
      rw [a2] at hQ hG
      have q4 : (k == 4) = false := by simpa using a4
      have q5 : (k == 5) = false := by simpa using a5
      rw [decide_eq_false a4, decide_eq_false a5] at hG
      have e1' : wrdB 5 t'.data.toList = false := rfl
      have e2' : quotB 5 t'.data.toList = false := rfl
      rw [e1'] at hW' hG
      rw [e2'] at hQ' hG
      have HE := Lib.hid (hG.trans (show _ = false by rfl)); clear hG
      go_enter Tryd.func10, Tryd.ntmps10
      go_wp2_with fail
      refine (hO _).mono ?_
      rintro e w1 ⟨rfl, hb1⟩
      have n1 : Below (w.heap.size + 2) (twoBox k t a 5 t' a' w) w1 := hb1.mono (by simp)
      obtain ⟨u0, u1, u2, v0, v1, v2⟩ := twoBox_cells n1
      have b1 := (twoBox_below k t a 5 t' a' w).trans (n1.mono (by omega))
      go_wp2_with fail
      refine (hO' _).mono ?_
      rintro e w2 ⟨rfl, hb2⟩
      have n2 := n1.trans (hb2.mono (by have := n1.size; rw [twoBox_size] at this; exact this))
      obtain ⟨u0, u1, u2, v0, v1, v2⟩ := twoBox_cells n2
      have b2 := (twoBox_below k t a 5 t' a' w).trans (n2.mono (by omega))
      go_wp2_with fail
      refine (hW _).mono ?_
      rintro e w3 ⟨rfl, hb3⟩
      have n3 := n2.trans (hb3.mono (by have := n2.size; rw [twoBox_size] at this; exact this))
      obtain ⟨u0, u1, u2, v0, v1, v2⟩ := twoBox_cells n3
      have b3 := (twoBox_below k t a 5 t' a' w).trans (n3.mono (by omega))
      go_wp2_with fail
      refine (hW' _).mono ?_
      rintro e w4 ⟨rfl, hb4⟩
      have n4 := n3.trans (hb4.mono (by have := n3.size; rw [twoBox_size] at this; exact this))
      obtain ⟨u0, u1, u2, v0, v1, v2⟩ := twoBox_cells n4
      have b4 := (twoBox_below k t a 5 t' a' w).trans (n4.mono (by omega))
      go_wp2_with fail
      refine (hQ _).mono ?_
      rintro e w5 ⟨rfl, hb5⟩
      have n5 := n4.trans (hb5.mono (by have := n4.size; rw [twoBox_size] at this; exact this))
      obtain ⟨u0, u1, u2, v0, v1, v2⟩ := twoBox_cells n5
      have b5 := (twoBox_below k t a 5 t' a' w).trans (n5.mono (by omega))
      go_wp2_with fail
      go_ret
      exact ⟨by rw [HE.out]; rfl, b5⟩
  · rcases fW' with ⟨a1', a2', a4', a5', -⟩ | ⟨rfl, a1', a2', -⟩ | ⟨rfl, -⟩ | ⟨rfl, sg', -⟩
    · rw [a1] at hW hG
      rw [a2] at hQ hG
      rw [a1'] at hW' hG
      rw [a2'] at hQ' hG
      have q4' : (k' == 4) = false := by simpa using a4'
      have q5' : (k' == 5) = false := by simpa using a5'
      rw [decide_eq_false a4', decide_eq_false a5'] at hG
      have HE := Lib.hid (hG.trans (show _ = false by rfl)); clear hG
      go_enter Tryd.func10, Tryd.ntmps10
      go_wp2_with fail
      refine (hO _).mono ?_
      rintro e w1 ⟨rfl, hb1⟩
      have n1 : Below (w.heap.size + 2) (twoBox 2 t a k' t' a' w) w1 := hb1.mono (by simp)
      obtain ⟨u0, u1, u2, v0, v1, v2⟩ := twoBox_cells n1
      have b1 := (twoBox_below 2 t a k' t' a' w).trans (n1.mono (by omega))
      go_wp2_with fail
      refine (hO' _).mono ?_
      rintro e w2 ⟨rfl, hb2⟩
      have n2 := n1.trans (hb2.mono (by have := n1.size; rw [twoBox_size] at this; exact this))
      obtain ⟨u0, u1, u2, v0, v1, v2⟩ := twoBox_cells n2
      have b2 := (twoBox_below 2 t a k' t' a' w).trans (n2.mono (by omega))
      go_wp2_with fail
      refine (hW _).mono ?_
      rintro e w3 ⟨rfl, hb3⟩
      have n3 := n2.trans (hb3.mono (by have := n2.size; rw [twoBox_size] at this; exact this))
      obtain ⟨u0, u1, u2, v0, v1, v2⟩ := twoBox_cells n3
      have b3 := (twoBox_below 2 t a k' t' a' w).trans (n3.mono (by omega))
      go_wp2_with fail
      refine (hQ _).mono ?_
      rintro e w4 ⟨rfl, hb4⟩
      have n4 := n3.trans (hb4.mono (by have := n3.size; rw [twoBox_size] at this; exact this))
      obtain ⟨u0, u1, u2, v0, v1, v2⟩ := twoBox_cells n4
      have b4 := (twoBox_below 2 t a k' t' a' w).trans (n4.mono (by omega))
      go_wp2_with fail
      refine (hQ' _).mono ?_
      rintro e w5 ⟨rfl, hb5⟩
      have n5 := n4.trans (hb5.mono (by have := n4.size; rw [twoBox_size] at this; exact this))
      obtain ⟨u0, u1, u2, v0, v1, v2⟩ := twoBox_cells n5
      have b5 := (twoBox_below 2 t a k' t' a' w).trans (n5.mono (by omega))
      go_wp2_with fail
      go_ret
      exact ⟨by rw [HE.out]; rfl, b5⟩
    · rw [a1] at hW hG
      rw [a2] at hQ hG
      rw [a1'] at hW' hG
      rw [a2'] at hQ' hG
      have HE := Lib.hid (hG.trans (show _ = true by rfl)); clear hG
      go_enter Tryd.func10, Tryd.ntmps10
      go_wp2_with fail
      refine (hO _).mono ?_
      rintro e w1 ⟨rfl, hb1⟩
      have n1 : Below (w.heap.size + 2) (twoBox 2 t a 2 t' a' w) w1 := hb1.mono (by simp)
      obtain ⟨u0, u1, u2, v0, v1, v2⟩ := twoBox_cells n1
      have b1 := (twoBox_below 2 t a 2 t' a' w).trans (n1.mono (by omega))
      go_wp2_with fail
      refine (hO' _).mono ?_
      rintro e w2 ⟨rfl, hb2⟩
      have n2 := n1.trans (hb2.mono (by have := n1.size; rw [twoBox_size] at this; exact this))
      obtain ⟨u0, u1, u2, v0, v1, v2⟩ := twoBox_cells n2
      have b2 := (twoBox_below 2 t a 2 t' a' w).trans (n2.mono (by omega))
      go_wp2_with fail
      refine (hW _).mono ?_
      rintro e w3 ⟨rfl, hb3⟩
      have n3 := n2.trans (hb3.mono (by have := n2.size; rw [twoBox_size] at this; exact this))
      obtain ⟨u0, u1, u2, v0, v1, v2⟩ := twoBox_cells n3
      have b3 := (twoBox_below 2 t a 2 t' a' w).trans (n3.mono (by omega))
      go_wp2_with fail
      refine (hQ _).mono ?_
      rintro e w4 ⟨rfl, hb4⟩
      have n4 := n3.trans (hb4.mono (by have := n3.size; rw [twoBox_size] at this; exact this))
      obtain ⟨u0, u1, u2, v0, v1, v2⟩ := twoBox_cells n4
      have b4 := (twoBox_below 2 t a 2 t' a' w).trans (n4.mono (by omega))
      go_wp2_with fail
      refine (hQ' _).mono ?_
      rintro e w5 ⟨rfl, hb5⟩
      have n5 := n4.trans (hb5.mono (by have := n4.size; rw [twoBox_size] at this; exact this))
      obtain ⟨u0, u1, u2, v0, v1, v2⟩ := twoBox_cells n5
      have b5 := (twoBox_below 2 t a 2 t' a' w).trans (n5.mono (by omega))
      go_wp2_with fail
      go_ret
      exact ⟨by rw [HE.out]; rfl, b5⟩
    · rw [a1] at hW hG
      rw [a2] at hQ hG
      have e1' : wrdB 4 t'.data.toList = false := rfl
      have e2' : quotB 4 t'.data.toList = false := rfl
      rw [e1'] at hW' hG
      rw [e2'] at hQ' hG
      have HE := Lib.hid (hG.trans (show _ = false by rfl)); clear hG
      go_enter Tryd.func10, Tryd.ntmps10
      go_wp2_with fail
      refine (hO _).mono ?_
      rintro e w1 ⟨rfl, hb1⟩
      have n1 : Below (w.heap.size + 2) (twoBox 2 t a 4 t' a' w) w1 := hb1.mono (by simp)
      obtain ⟨u0, u1, u2, v0, v1, v2⟩ := twoBox_cells n1
      have b1 := (twoBox_below 2 t a 4 t' a' w).trans (n1.mono (by omega))
      go_wp2_with fail
      refine (hO' _).mono ?_
      rintro e w2 ⟨rfl, hb2⟩
      have n2 := n1.trans (hb2.mono (by have := n1.size; rw [twoBox_size] at this; exact this))
      obtain ⟨u0, u1, u2, v0, v1, v2⟩ := twoBox_cells n2
      have b2 := (twoBox_below 2 t a 4 t' a' w).trans (n2.mono (by omega))
      go_wp2_with fail
      refine (hW _).mono ?_
      rintro e w3 ⟨rfl, hb3⟩
      have n3 := n2.trans (hb3.mono (by have := n2.size; rw [twoBox_size] at this; exact this))
      obtain ⟨u0, u1, u2, v0, v1, v2⟩ := twoBox_cells n3
      have b3 := (twoBox_below 2 t a 4 t' a' w).trans (n3.mono (by omega))
      go_wp2_with fail
      refine (hQ _).mono ?_
      rintro e w4 ⟨rfl, hb4⟩
      have n4 := n3.trans (hb4.mono (by have := n3.size; rw [twoBox_size] at this; exact this))
      obtain ⟨u0, u1, u2, v0, v1, v2⟩ := twoBox_cells n4
      have b4 := (twoBox_below 2 t a 4 t' a' w).trans (n4.mono (by omega))
      go_wp2_with fail
      refine (hQ' _).mono ?_
      rintro e w5 ⟨rfl, hb5⟩
      have n5 := n4.trans (hb5.mono (by have := n4.size; rw [twoBox_size] at this; exact this))
      obtain ⟨u0, u1, u2, v0, v1, v2⟩ := twoBox_cells n5
      have b5 := (twoBox_below 2 t a 4 t' a' w).trans (n5.mono (by omega))
      go_wp2_with fail
      go_ret
      exact ⟨by rw [HE.out]; rfl, b5⟩
    · rw [a1] at hW hG
      rw [a2] at hQ hG
      have e1' : wrdB 5 t'.data.toList = false := rfl
      have e2' : quotB 5 t'.data.toList = false := rfl
      rw [e1'] at hW' hG
      rw [e2'] at hQ' hG
      have HE := Lib.hid (hG.trans (show _ = false by rfl)); clear hG
      go_enter Tryd.func10, Tryd.ntmps10
      go_wp2_with fail
      refine (hO _).mono ?_
      rintro e w1 ⟨rfl, hb1⟩
      have n1 : Below (w.heap.size + 2) (twoBox 2 t a 5 t' a' w) w1 := hb1.mono (by simp)
      obtain ⟨u0, u1, u2, v0, v1, v2⟩ := twoBox_cells n1
      have b1 := (twoBox_below 2 t a 5 t' a' w).trans (n1.mono (by omega))
      go_wp2_with fail
      refine (hO' _).mono ?_
      rintro e w2 ⟨rfl, hb2⟩
      have n2 := n1.trans (hb2.mono (by have := n1.size; rw [twoBox_size] at this; exact this))
      obtain ⟨u0, u1, u2, v0, v1, v2⟩ := twoBox_cells n2
      have b2 := (twoBox_below 2 t a 5 t' a' w).trans (n2.mono (by omega))
      go_wp2_with fail
      refine (hW _).mono ?_
      rintro e w3 ⟨rfl, hb3⟩
      have n3 := n2.trans (hb3.mono (by have := n2.size; rw [twoBox_size] at this; exact this))
      obtain ⟨u0, u1, u2, v0, v1, v2⟩ := twoBox_cells n3
      have b3 := (twoBox_below 2 t a 5 t' a' w).trans (n3.mono (by omega))
      go_wp2_with fail
      refine (hQ _).mono ?_
      rintro e w4 ⟨rfl, hb4⟩
      have n4 := n3.trans (hb4.mono (by have := n3.size; rw [twoBox_size] at this; exact this))
      obtain ⟨u0, u1, u2, v0, v1, v2⟩ := twoBox_cells n4
      have b4 := (twoBox_below 2 t a 5 t' a' w).trans (n4.mono (by omega))
      go_wp2_with fail
      refine (hQ' _).mono ?_
      rintro e w5 ⟨rfl, hb5⟩
      have n5 := n4.trans (hb5.mono (by have := n4.size; rw [twoBox_size] at this; exact this))
      obtain ⟨u0, u1, u2, v0, v1, v2⟩ := twoBox_cells n5
      have b5 := (twoBox_below 2 t a 5 t' a' w).trans (n5.mono (by omega))
      go_wp2_with fail
      go_ret
      exact ⟨by rw [HE.out]; rfl, b5⟩
  · rcases fW' with ⟨a1', a2', a4', a5', -⟩ | ⟨rfl, a1', a2', -⟩ | ⟨rfl, -⟩ | ⟨rfl, sg', -⟩
    · have e1 : wrdB 4 t.data.toList = false := rfl
      have e2 : quotB 4 t.data.toList = false := rfl
      rw [e1] at hW hG
      rw [e2] at hQ hG
      rw [a1'] at hW' hG
      rw [a2'] at hQ' hG
      have q4' : (k' == 4) = false := by simpa using a4'
      have q5' : (k' == 5) = false := by simpa using a5'
      rw [decide_eq_false a4', decide_eq_false a5'] at hG
      have HE := Lib.hid (hG.trans (show _ = false by rfl)); clear hG
      go_enter Tryd.func10, Tryd.ntmps10
      go_wp2_with fail
      refine (hO _).mono ?_
      rintro e w1 ⟨rfl, hb1⟩
      have n1 : Below (w.heap.size + 2) (twoBox 4 t a k' t' a' w) w1 := hb1.mono (by simp)
      obtain ⟨u0, u1, u2, v0, v1, v2⟩ := twoBox_cells n1
      have b1 := (twoBox_below 4 t a k' t' a' w).trans (n1.mono (by omega))
      go_wp2_with fail
      refine (hO' _).mono ?_
      rintro e w2 ⟨rfl, hb2⟩
      have n2 := n1.trans (hb2.mono (by have := n1.size; rw [twoBox_size] at this; exact this))
      obtain ⟨u0, u1, u2, v0, v1, v2⟩ := twoBox_cells n2
      have b2 := (twoBox_below 4 t a k' t' a' w).trans (n2.mono (by omega))
      go_wp2_with fail
      refine (hW _).mono ?_
      rintro e w3 ⟨rfl, hb3⟩
      have n3 := n2.trans (hb3.mono (by have := n2.size; rw [twoBox_size] at this; exact this))
      obtain ⟨u0, u1, u2, v0, v1, v2⟩ := twoBox_cells n3
      have b3 := (twoBox_below 4 t a k' t' a' w).trans (n3.mono (by omega))
      go_wp2_with fail
      refine (hQ _).mono ?_
      rintro e w4 ⟨rfl, hb4⟩
      have n4 := n3.trans (hb4.mono (by have := n3.size; rw [twoBox_size] at this; exact this))
      obtain ⟨u0, u1, u2, v0, v1, v2⟩ := twoBox_cells n4
      have b4 := (twoBox_below 4 t a k' t' a' w).trans (n4.mono (by omega))
      go_wp2_with fail
      go_ret
      exact ⟨by rw [HE.out]; rfl, b4⟩
    · have e1 : wrdB 4 t.data.toList = false := rfl
      have e2 : quotB 4 t.data.toList = false := rfl
      rw [e1] at hW hG
      rw [e2] at hQ hG
      rw [a1'] at hW' hG
      rw [a2'] at hQ' hG
      have HE := Lib.hid (hG.trans (show _ = false by rfl)); clear hG
      go_enter Tryd.func10, Tryd.ntmps10
      go_wp2_with fail
      refine (hO _).mono ?_
      rintro e w1 ⟨rfl, hb1⟩
      have n1 : Below (w.heap.size + 2) (twoBox 4 t a 2 t' a' w) w1 := hb1.mono (by simp)
      obtain ⟨u0, u1, u2, v0, v1, v2⟩ := twoBox_cells n1
      have b1 := (twoBox_below 4 t a 2 t' a' w).trans (n1.mono (by omega))
      go_wp2_with fail
      refine (hO' _).mono ?_
      rintro e w2 ⟨rfl, hb2⟩
      have n2 := n1.trans (hb2.mono (by have := n1.size; rw [twoBox_size] at this; exact this))
      obtain ⟨u0, u1, u2, v0, v1, v2⟩ := twoBox_cells n2
      have b2 := (twoBox_below 4 t a 2 t' a' w).trans (n2.mono (by omega))
      go_wp2_with fail
      refine (hW _).mono ?_
      rintro e w3 ⟨rfl, hb3⟩
      have n3 := n2.trans (hb3.mono (by have := n2.size; rw [twoBox_size] at this; exact this))
      obtain ⟨u0, u1, u2, v0, v1, v2⟩ := twoBox_cells n3
      have b3 := (twoBox_below 4 t a 2 t' a' w).trans (n3.mono (by omega))
      go_wp2_with fail
      refine (hQ _).mono ?_
      rintro e w4 ⟨rfl, hb4⟩
      have n4 := n3.trans (hb4.mono (by have := n3.size; rw [twoBox_size] at this; exact this))
      obtain ⟨u0, u1, u2, v0, v1, v2⟩ := twoBox_cells n4
      have b4 := (twoBox_below 4 t a 2 t' a' w).trans (n4.mono (by omega))
      go_wp2_with fail
      go_ret
      exact ⟨by rw [HE.out]; rfl, b4⟩
    · have e1 : wrdB 4 t.data.toList = false := rfl
      have e2 : quotB 4 t.data.toList = false := rfl
      rw [e1] at hW hG
      rw [e2] at hQ hG
      have e1' : wrdB 4 t'.data.toList = false := rfl
      have e2' : quotB 4 t'.data.toList = false := rfl
      rw [e1'] at hW' hG
      rw [e2'] at hQ' hG
      have HE := Lib.hid (hG.trans (show _ = true by rfl)); clear hG
      go_enter Tryd.func10, Tryd.ntmps10
      go_wp2_with fail
      refine (hO _).mono ?_
      rintro e w1 ⟨rfl, hb1⟩
      have n1 : Below (w.heap.size + 2) (twoBox 4 t a 4 t' a' w) w1 := hb1.mono (by simp)
      obtain ⟨u0, u1, u2, v0, v1, v2⟩ := twoBox_cells n1
      have b1 := (twoBox_below 4 t a 4 t' a' w).trans (n1.mono (by omega))
      go_wp2_with fail
      refine (hO' _).mono ?_
      rintro e w2 ⟨rfl, hb2⟩
      have n2 := n1.trans (hb2.mono (by have := n1.size; rw [twoBox_size] at this; exact this))
      obtain ⟨u0, u1, u2, v0, v1, v2⟩ := twoBox_cells n2
      have b2 := (twoBox_below 4 t a 4 t' a' w).trans (n2.mono (by omega))
      go_wp2_with fail
      refine (hW _).mono ?_
      rintro e w3 ⟨rfl, hb3⟩
      have n3 := n2.trans (hb3.mono (by have := n2.size; rw [twoBox_size] at this; exact this))
      obtain ⟨u0, u1, u2, v0, v1, v2⟩ := twoBox_cells n3
      have b3 := (twoBox_below 4 t a 4 t' a' w).trans (n3.mono (by omega))
      go_wp2_with fail
      go_ret
      exact ⟨by rw [HE.out]; rfl, b3⟩
    · have e1 : wrdB 4 t.data.toList = false := rfl
      have e2 : quotB 4 t.data.toList = false := rfl
      rw [e1] at hW hG
      rw [e2] at hQ hG
      have e1' : wrdB 5 t'.data.toList = false := rfl
      have e2' : quotB 5 t'.data.toList = false := rfl
      rw [e1'] at hW' hG
      rw [e2'] at hQ' hG
      have HE := Lib.hid (hG.trans (show _ = false by rfl)); clear hG
      go_enter Tryd.func10, Tryd.ntmps10
      go_wp2_with fail
      refine (hO _).mono ?_
      rintro e w1 ⟨rfl, hb1⟩
      have n1 : Below (w.heap.size + 2) (twoBox 4 t a 5 t' a' w) w1 := hb1.mono (by simp)
      obtain ⟨u0, u1, u2, v0, v1, v2⟩ := twoBox_cells n1
      have b1 := (twoBox_below 4 t a 5 t' a' w).trans (n1.mono (by omega))
      go_wp2_with fail
      refine (hO' _).mono ?_
      rintro e w2 ⟨rfl, hb2⟩
      have n2 := n1.trans (hb2.mono (by have := n1.size; rw [twoBox_size] at this; exact this))
      obtain ⟨u0, u1, u2, v0, v1, v2⟩ := twoBox_cells n2
      have b2 := (twoBox_below 4 t a 5 t' a' w).trans (n2.mono (by omega))
      go_wp2_with fail
      refine (hW _).mono ?_
      rintro e w3 ⟨rfl, hb3⟩
      have n3 := n2.trans (hb3.mono (by have := n2.size; rw [twoBox_size] at this; exact this))
      obtain ⟨u0, u1, u2, v0, v1, v2⟩ := twoBox_cells n3
      have b3 := (twoBox_below 4 t a 5 t' a' w).trans (n3.mono (by omega))
      go_wp2_with fail
      refine (hQ _).mono ?_
      rintro e w4 ⟨rfl, hb4⟩
      have n4 := n3.trans (hb4.mono (by have := n3.size; rw [twoBox_size] at this; exact this))
      obtain ⟨u0, u1, u2, v0, v1, v2⟩ := twoBox_cells n4
      have b4 := (twoBox_below 4 t a 5 t' a' w).trans (n4.mono (by omega))
      go_wp2_with fail
      go_ret
      exact ⟨by rw [HE.out]; rfl, b4⟩
  · rcases fW' with ⟨a1', a2', a4', a5', -⟩ | ⟨rfl, a1', a2', -⟩ | ⟨rfl, -⟩ | ⟨rfl, sg', -⟩
    · have e1 : wrdB 5 t.data.toList = false := rfl
      have e2 : quotB 5 t.data.toList = false := rfl
      rw [e1] at hW hG
      rw [e2] at hQ hG
      rw [a1'] at hW' hG
      rw [a2'] at hQ' hG
      have q4' : (k' == 4) = false := by simpa using a4'
      have q5' : (k' == 5) = false := by simpa using a5'
      rw [decide_eq_false a4', decide_eq_false a5'] at hG
      have HE := Lib.hid (hG.trans (show _ = false by rfl)); clear hG
      go_enter Tryd.func10, Tryd.ntmps10
      go_wp2_with fail
      refine (hO _).mono ?_
      rintro e w1 ⟨rfl, hb1⟩
      have n1 : Below (w.heap.size + 2) (twoBox 5 t a k' t' a' w) w1 := hb1.mono (by simp)
      obtain ⟨u0, u1, u2, v0, v1, v2⟩ := twoBox_cells n1
      have b1 := (twoBox_below 5 t a k' t' a' w).trans (n1.mono (by omega))
      go_wp2_with fail
      refine (hO' _).mono ?_
      rintro e w2 ⟨rfl, hb2⟩
      have n2 := n1.trans (hb2.mono (by have := n1.size; rw [twoBox_size] at this; exact this))
      obtain ⟨u0, u1, u2, v0, v1, v2⟩ := twoBox_cells n2
      have b2 := (twoBox_below 5 t a k' t' a' w).trans (n2.mono (by omega))
      go_wp2_with fail
      refine (hW _).mono ?_
      rintro e w3 ⟨rfl, hb3⟩
      have n3 := n2.trans (hb3.mono (by have := n2.size; rw [twoBox_size] at this; exact this))
      obtain ⟨u0, u1, u2, v0, v1, v2⟩ := twoBox_cells n3
      have b3 := (twoBox_below 5 t a k' t' a' w).trans (n3.mono (by omega))
      go_wp2_with fail
      refine (hQ _).mono ?_
      rintro e w4 ⟨rfl, hb4⟩
      have n4 := n3.trans (hb4.mono (by have := n3.size; rw [twoBox_size] at this; exact this))
      obtain ⟨u0, u1, u2, v0, v1, v2⟩ := twoBox_cells n4
      have b4 := (twoBox_below 5 t a k' t' a' w).trans (n4.mono (by omega))
      go_wp2_with fail
      go_ret
      exact ⟨by rw [HE.out]; rfl, b4⟩
    · have e1 : wrdB 5 t.data.toList = false := rfl
      have e2 : quotB 5 t.data.toList = false := rfl
      rw [e1] at hW hG
      rw [e2] at hQ hG
      rw [a1'] at hW' hG
      rw [a2'] at hQ' hG
      have HE := Lib.hid (hG.trans (show _ = false by rfl)); clear hG
      go_enter Tryd.func10, Tryd.ntmps10
      go_wp2_with fail
      refine (hO _).mono ?_
      rintro e w1 ⟨rfl, hb1⟩
      have n1 : Below (w.heap.size + 2) (twoBox 5 t a 2 t' a' w) w1 := hb1.mono (by simp)
      obtain ⟨u0, u1, u2, v0, v1, v2⟩ := twoBox_cells n1
      have b1 := (twoBox_below 5 t a 2 t' a' w).trans (n1.mono (by omega))
      go_wp2_with fail
      refine (hO' _).mono ?_
      rintro e w2 ⟨rfl, hb2⟩
      have n2 := n1.trans (hb2.mono (by have := n1.size; rw [twoBox_size] at this; exact this))
      obtain ⟨u0, u1, u2, v0, v1, v2⟩ := twoBox_cells n2
      have b2 := (twoBox_below 5 t a 2 t' a' w).trans (n2.mono (by omega))
      go_wp2_with fail
      refine (hW _).mono ?_
      rintro e w3 ⟨rfl, hb3⟩
      have n3 := n2.trans (hb3.mono (by have := n2.size; rw [twoBox_size] at this; exact this))
      obtain ⟨u0, u1, u2, v0, v1, v2⟩ := twoBox_cells n3
      have b3 := (twoBox_below 5 t a 2 t' a' w).trans (n3.mono (by omega))
      go_wp2_with fail
      refine (hQ _).mono ?_
      rintro e w4 ⟨rfl, hb4⟩
      have n4 := n3.trans (hb4.mono (by have := n3.size; rw [twoBox_size] at this; exact this))
      obtain ⟨u0, u1, u2, v0, v1, v2⟩ := twoBox_cells n4
      have b4 := (twoBox_below 5 t a 2 t' a' w).trans (n4.mono (by omega))
      go_wp2_with fail
      go_ret
      exact ⟨by rw [HE.out]; rfl, b4⟩
    · have e1 : wrdB 5 t.data.toList = false := rfl
      have e2 : quotB 5 t.data.toList = false := rfl
      rw [e1] at hW hG
      rw [e2] at hQ hG
      have e1' : wrdB 4 t'.data.toList = false := rfl
      have e2' : quotB 4 t'.data.toList = false := rfl
      rw [e1'] at hW' hG
      rw [e2'] at hQ' hG
      have HE := Lib.hid (hG.trans (show _ = false by rfl)); clear hG
      go_enter Tryd.func10, Tryd.ntmps10
      go_wp2_with fail
      refine (hO _).mono ?_
      rintro e w1 ⟨rfl, hb1⟩
      have n1 : Below (w.heap.size + 2) (twoBox 5 t a 4 t' a' w) w1 := hb1.mono (by simp)
      obtain ⟨u0, u1, u2, v0, v1, v2⟩ := twoBox_cells n1
      have b1 := (twoBox_below 5 t a 4 t' a' w).trans (n1.mono (by omega))
      go_wp2_with fail
      refine (hO' _).mono ?_
      rintro e w2 ⟨rfl, hb2⟩
      have n2 := n1.trans (hb2.mono (by have := n1.size; rw [twoBox_size] at this; exact this))
      obtain ⟨u0, u1, u2, v0, v1, v2⟩ := twoBox_cells n2
      have b2 := (twoBox_below 5 t a 4 t' a' w).trans (n2.mono (by omega))
      go_wp2_with fail
      refine (hW _).mono ?_
      rintro e w3 ⟨rfl, hb3⟩
      have n3 := n2.trans (hb3.mono (by have := n2.size; rw [twoBox_size] at this; exact this))
      obtain ⟨u0, u1, u2, v0, v1, v2⟩ := twoBox_cells n3
      have b3 := (twoBox_below 5 t a 4 t' a' w).trans (n3.mono (by omega))
      go_wp2_with fail
      refine (hQ _).mono ?_
      rintro e w4 ⟨rfl, hb4⟩
      have n4 := n3.trans (hb4.mono (by have := n3.size; rw [twoBox_size] at this; exact this))
      obtain ⟨u0, u1, u2, v0, v1, v2⟩ := twoBox_cells n4
      have b4 := (twoBox_below 5 t a 4 t' a' w).trans (n4.mono (by omega))
      go_wp2_with fail
      go_ret
      exact ⟨by rw [HE.out]; rfl, b4⟩
    · have e1 : wrdB 5 t.data.toList = false := rfl
      have e2 : quotB 5 t.data.toList = false := rfl
      rw [e1] at hW hG
      rw [e2] at hQ hG
      have e1' : wrdB 5 t'.data.toList = false := rfl
      have e2' : quotB 5 t'.data.toList = false := rfl
      rw [e1'] at hW' hG
      rw [e2'] at hQ' hG
      have hG2 : gapB 5 t.data.toList 5 t'.data.toList = signGap t.data.toList t'.data.toList := hG
      clear hG
      have p0 : 0 < t'.size := by
        show 0 < t'.data.toList.length
        rcases signB_cases sg' with h | h | h | h | h | h | h | h | h | h | h | h | h | h | h | h <;> (rw [h]; decide)
      have p0i : (0 : Int) < (t'.size : Int) := by omega
      have g61 : (((t'[0]'p0).toNat : Int) == 61) = decide (t'.data.toList.getD 0 0 = 61) := by rw [str_at p0]; exact u8_dec _ 61
      have g62 : (((t'[0]'p0).toNat : Int) == 62) = decide (t'.data.toList.getD 0 0 = 62) := by rw [str_at p0]; exact u8_dec _ 62
      clear sg'
      by_cases c45 : t.data.toList = [45]
      · have hG3 := hG2
        rw [c45] at hG3
        have HE := Lib.hid (hG3.trans (show _ = (t'.toList == [45]) by rw [beq_lit]; rfl)); clear hG3 hG2 g61 g62
        have he := ba_of c45
        obtain rfl := he
        go_enter Tryd.func10, Tryd.ntmps10
        go_wp2_with fail
        refine (hO _).mono ?_
        rintro e w1 ⟨rfl, hb1⟩
        have n1 : Below (w.heap.size + 2) (twoBox 5 (⟨#[45]⟩ : ByteArray) a 5 t' a' w) w1 := hb1.mono (by simp)
        obtain ⟨u0, u1, u2, v0, v1, v2⟩ := twoBox_cells n1
        have b1 := (twoBox_below 5 (⟨#[45]⟩ : ByteArray) a 5 t' a' w).trans (n1.mono (by omega))
        go_wp2_with fail
        refine (hO' _).mono ?_
        rintro e w2 ⟨rfl, hb2⟩
        have n2 := n1.trans (hb2.mono (by have := n1.size; rw [twoBox_size] at this; exact this))
        obtain ⟨u0, u1, u2, v0, v1, v2⟩ := twoBox_cells n2
        have b2 := (twoBox_below 5 (⟨#[45]⟩ : ByteArray) a 5 t' a' w).trans (n2.mono (by omega))
        go_wp2_with fail
        refine (hW _).mono ?_
        rintro e w3 ⟨rfl, hb3⟩
        have n3 := n2.trans (hb3.mono (by have := n2.size; rw [twoBox_size] at this; exact this))
        obtain ⟨u0, u1, u2, v0, v1, v2⟩ := twoBox_cells n3
        have b3 := (twoBox_below 5 (⟨#[45]⟩ : ByteArray) a 5 t' a' w).trans (n3.mono (by omega))
        go_wp2_with fail
        refine (hQ _).mono ?_
        rintro e w4 ⟨rfl, hb4⟩
        have n4 := n3.trans (hb4.mono (by have := n3.size; rw [twoBox_size] at this; exact this))
        obtain ⟨u0, u1, u2, v0, v1, v2⟩ := twoBox_cells n4
        have b4 := (twoBox_below 5 (⟨#[45]⟩ : ByteArray) a 5 t' a' w).trans (n4.mono (by omega))
        go_wp2_with fail
        go_ret
        exact ⟨by have := HE.out; exact congrArg (fun b => Ending.returned (.bool b)) this.symm, b4⟩
      by_cases c47 : t.data.toList = [47]
      · have hG3 := hG2
        rw [c47] at hG3
        have HE := Lib.hid (hG3.trans (show _ = (t'.toList == [42]) by rw [beq_lit]; rfl)); clear hG3 hG2 g61 g62
        have he := ba_of c47
        obtain rfl := he
        go_enter Tryd.func10, Tryd.ntmps10
        go_wp2_with fail
        refine (hO _).mono ?_
        rintro e w1 ⟨rfl, hb1⟩
        have n1 : Below (w.heap.size + 2) (twoBox 5 (⟨#[47]⟩ : ByteArray) a 5 t' a' w) w1 := hb1.mono (by simp)
        obtain ⟨u0, u1, u2, v0, v1, v2⟩ := twoBox_cells n1
        have b1 := (twoBox_below 5 (⟨#[47]⟩ : ByteArray) a 5 t' a' w).trans (n1.mono (by omega))
        go_wp2_with fail
        refine (hO' _).mono ?_
        rintro e w2 ⟨rfl, hb2⟩
        have n2 := n1.trans (hb2.mono (by have := n1.size; rw [twoBox_size] at this; exact this))
        obtain ⟨u0, u1, u2, v0, v1, v2⟩ := twoBox_cells n2
        have b2 := (twoBox_below 5 (⟨#[47]⟩ : ByteArray) a 5 t' a' w).trans (n2.mono (by omega))
        go_wp2_with fail
        refine (hW _).mono ?_
        rintro e w3 ⟨rfl, hb3⟩
        have n3 := n2.trans (hb3.mono (by have := n2.size; rw [twoBox_size] at this; exact this))
        obtain ⟨u0, u1, u2, v0, v1, v2⟩ := twoBox_cells n3
        have b3 := (twoBox_below 5 (⟨#[47]⟩ : ByteArray) a 5 t' a' w).trans (n3.mono (by omega))
        go_wp2_with fail
        refine (hQ _).mono ?_
        rintro e w4 ⟨rfl, hb4⟩
        have n4 := n3.trans (hb4.mono (by have := n3.size; rw [twoBox_size] at this; exact this))
        obtain ⟨u0, u1, u2, v0, v1, v2⟩ := twoBox_cells n4
        have b4 := (twoBox_below 5 (⟨#[47]⟩ : ByteArray) a 5 t' a' w).trans (n4.mono (by omega))
        go_wp2_with fail
        go_ret
        exact ⟨by have := HE.out; exact congrArg (fun b => Ending.returned (.bool b)) this.symm, b4⟩
      by_cases c60 : t.data.toList = [60]
      · have hG3 := hG2
        rw [c60] at hG3
        have hG4 := hG3.trans (show _ = ((((t'[0]'p0).toNat : Int) == 61) || (((t'[0]'p0).toNat : Int) == 62)) by rw [g61, g62]; rfl); clear hG3 hG2 g61 g62
        have he := ba_of c60
        obtain rfl := he
        cases f61 : (((t'[0]'p0).toNat : Int) == 61)
        · rw [f61, Bool.false_or] at hG4
          have HE := Lib.hid hG4; clear hG4
          go_enter Tryd.func10, Tryd.ntmps10
          go_wp2_with fail
          refine (hO _).mono ?_
          rintro e w1 ⟨rfl, hb1⟩
          have n1 : Below (w.heap.size + 2) (twoBox 5 (⟨#[60]⟩ : ByteArray) a 5 t' a' w) w1 := hb1.mono (by simp)
          obtain ⟨u0, u1, u2, v0, v1, v2⟩ := twoBox_cells n1
          have b1 := (twoBox_below 5 (⟨#[60]⟩ : ByteArray) a 5 t' a' w).trans (n1.mono (by omega))
          go_wp2_with fail
          refine (hO' _).mono ?_
          rintro e w2 ⟨rfl, hb2⟩
          have n2 := n1.trans (hb2.mono (by have := n1.size; rw [twoBox_size] at this; exact this))
          obtain ⟨u0, u1, u2, v0, v1, v2⟩ := twoBox_cells n2
          have b2 := (twoBox_below 5 (⟨#[60]⟩ : ByteArray) a 5 t' a' w).trans (n2.mono (by omega))
          go_wp2_with fail
          refine (hW _).mono ?_
          rintro e w3 ⟨rfl, hb3⟩
          have n3 := n2.trans (hb3.mono (by have := n2.size; rw [twoBox_size] at this; exact this))
          obtain ⟨u0, u1, u2, v0, v1, v2⟩ := twoBox_cells n3
          have b3 := (twoBox_below 5 (⟨#[60]⟩ : ByteArray) a 5 t' a' w).trans (n3.mono (by omega))
          go_wp2_with fail
          refine (hQ _).mono ?_
          rintro e w4 ⟨rfl, hb4⟩
          have n4 := n3.trans (hb4.mono (by have := n3.size; rw [twoBox_size] at this; exact this))
          obtain ⟨u0, u1, u2, v0, v1, v2⟩ := twoBox_cells n4
          have b4 := (twoBox_below 5 (⟨#[60]⟩ : ByteArray) a 5 t' a' w).trans (n4.mono (by omega))
          go_wp2_with fail
          go_ret
          exact ⟨by have := HE.out; exact congrArg (fun b => Ending.returned (.bool b)) this.symm, b4⟩
        · rw [f61, Bool.true_or] at hG4
          have HE := Lib.hid hG4; clear hG4
          go_enter Tryd.func10, Tryd.ntmps10
          go_wp2_with fail
          refine (hO _).mono ?_
          rintro e w1 ⟨rfl, hb1⟩
          have n1 : Below (w.heap.size + 2) (twoBox 5 (⟨#[60]⟩ : ByteArray) a 5 t' a' w) w1 := hb1.mono (by simp)
          obtain ⟨u0, u1, u2, v0, v1, v2⟩ := twoBox_cells n1
          have b1 := (twoBox_below 5 (⟨#[60]⟩ : ByteArray) a 5 t' a' w).trans (n1.mono (by omega))
          go_wp2_with fail
          refine (hO' _).mono ?_
          rintro e w2 ⟨rfl, hb2⟩
          have n2 := n1.trans (hb2.mono (by have := n1.size; rw [twoBox_size] at this; exact this))
          obtain ⟨u0, u1, u2, v0, v1, v2⟩ := twoBox_cells n2
          have b2 := (twoBox_below 5 (⟨#[60]⟩ : ByteArray) a 5 t' a' w).trans (n2.mono (by omega))
          go_wp2_with fail
          refine (hW _).mono ?_
          rintro e w3 ⟨rfl, hb3⟩
          have n3 := n2.trans (hb3.mono (by have := n2.size; rw [twoBox_size] at this; exact this))
          obtain ⟨u0, u1, u2, v0, v1, v2⟩ := twoBox_cells n3
          have b3 := (twoBox_below 5 (⟨#[60]⟩ : ByteArray) a 5 t' a' w).trans (n3.mono (by omega))
          go_wp2_with fail
          refine (hQ _).mono ?_
          rintro e w4 ⟨rfl, hb4⟩
          have n4 := n3.trans (hb4.mono (by have := n3.size; rw [twoBox_size] at this; exact this))
          obtain ⟨u0, u1, u2, v0, v1, v2⟩ := twoBox_cells n4
          have b4 := (twoBox_below 5 (⟨#[60]⟩ : ByteArray) a 5 t' a' w).trans (n4.mono (by omega))
          go_wp2_with fail
          go_ret
          exact ⟨by have := HE.out; exact congrArg (fun b => Ending.returned (.bool b)) this.symm, b4⟩
      by_cases c62 : t.data.toList = [62]
      · have hG3 := hG2
        rw [c62] at hG3
        have HE := Lib.hid (hG3.trans (show _ = (((t'[0]'p0).toNat : Int) == 61) from g61.symm)); clear hG3 hG2 g61 g62
        have he := ba_of c62
        obtain rfl := he
        go_enter Tryd.func10, Tryd.ntmps10
        go_wp2_with fail
        refine (hO _).mono ?_
        rintro e w1 ⟨rfl, hb1⟩
        have n1 : Below (w.heap.size + 2) (twoBox 5 (⟨#[62]⟩ : ByteArray) a 5 t' a' w) w1 := hb1.mono (by simp)
        obtain ⟨u0, u1, u2, v0, v1, v2⟩ := twoBox_cells n1
        have b1 := (twoBox_below 5 (⟨#[62]⟩ : ByteArray) a 5 t' a' w).trans (n1.mono (by omega))
        go_wp2_with fail
        refine (hO' _).mono ?_
        rintro e w2 ⟨rfl, hb2⟩
        have n2 := n1.trans (hb2.mono (by have := n1.size; rw [twoBox_size] at this; exact this))
        obtain ⟨u0, u1, u2, v0, v1, v2⟩ := twoBox_cells n2
        have b2 := (twoBox_below 5 (⟨#[62]⟩ : ByteArray) a 5 t' a' w).trans (n2.mono (by omega))
        go_wp2_with fail
        refine (hW _).mono ?_
        rintro e w3 ⟨rfl, hb3⟩
        have n3 := n2.trans (hb3.mono (by have := n2.size; rw [twoBox_size] at this; exact this))
        obtain ⟨u0, u1, u2, v0, v1, v2⟩ := twoBox_cells n3
        have b3 := (twoBox_below 5 (⟨#[62]⟩ : ByteArray) a 5 t' a' w).trans (n3.mono (by omega))
        go_wp2_with fail
        refine (hQ _).mono ?_
        rintro e w4 ⟨rfl, hb4⟩
        have n4 := n3.trans (hb4.mono (by have := n3.size; rw [twoBox_size] at this; exact this))
        obtain ⟨u0, u1, u2, v0, v1, v2⟩ := twoBox_cells n4
        have b4 := (twoBox_below 5 (⟨#[62]⟩ : ByteArray) a 5 t' a' w).trans (n4.mono (by omega))
        go_wp2_with fail
        go_ret
        exact ⟨by have := HE.out; exact congrArg (fun b => Ending.returned (.bool b)) this.symm, b4⟩
      have HE := Lib.hid (hG2.trans (show _ = false by unfold signGap; rw [if_neg c45, if_neg c47, if_neg c60, if_neg c62])); clear hG2 g61 g62
      have r45 : (t.toList == [45]) = false := by rw [beq_lit, decide_eq_false c45]
      have r47 : (t.toList == [47]) = false := by rw [beq_lit, decide_eq_false c47]
      have r60 : (t.toList == [60]) = false := by rw [beq_lit, decide_eq_false c60]
      have r62 : (t.toList == [62]) = false := by rw [beq_lit, decide_eq_false c62]
      clear c45 c47 c60 c62
      go_enter Tryd.func10, Tryd.ntmps10
      go_wp2_with fail
      refine (hO _).mono ?_
      rintro e w1 ⟨rfl, hb1⟩
      have n1 : Below (w.heap.size + 2) (twoBox 5 t a 5 t' a' w) w1 := hb1.mono (by simp)
      obtain ⟨u0, u1, u2, v0, v1, v2⟩ := twoBox_cells n1
      have b1 := (twoBox_below 5 t a 5 t' a' w).trans (n1.mono (by omega))
      go_wp2_with fail
      refine (hO' _).mono ?_
      rintro e w2 ⟨rfl, hb2⟩
      have n2 := n1.trans (hb2.mono (by have := n1.size; rw [twoBox_size] at this; exact this))
      obtain ⟨u0, u1, u2, v0, v1, v2⟩ := twoBox_cells n2
      have b2 := (twoBox_below 5 t a 5 t' a' w).trans (n2.mono (by omega))
      go_wp2_with fail
      refine (hW _).mono ?_
      rintro e w3 ⟨rfl, hb3⟩
      have n3 := n2.trans (hb3.mono (by have := n2.size; rw [twoBox_size] at this; exact this))
      obtain ⟨u0, u1, u2, v0, v1, v2⟩ := twoBox_cells n3
      have b3 := (twoBox_below 5 t a 5 t' a' w).trans (n3.mono (by omega))
      go_wp2_with fail
      refine (hQ _).mono ?_
      rintro e w4 ⟨rfl, hb4⟩
      have n4 := n3.trans (hb4.mono (by have := n3.size; rw [twoBox_size] at this; exact this))
      obtain ⟨u0, u1, u2, v0, v1, v2⟩ := twoBox_cells n4
      have b4 := (twoBox_below 5 t a 5 t' a' w).trans (n4.mono (by omega))
      go_wp2_with fail
      go_ret
      exact ⟨by rw [HE.out]; rfl, b4⟩
end Go.Proofs.YtcadoplfgclbjaaDoor

/- A string's bytes behind a slice of bytes that the call owns. Over any program. -/
namespace Go.Proofs.YtcadoplfgclbjaaDoor
open Go.RowKit

theorem appS {P : Program} {ops : Array Oper} {rest : List Oper} {o : Oper} {a : Act} {Q : Exit → Act → World → Prop} {t u e : TypeId} {i : TypeInfo}
    (ht : P.underlying t = some (.slice e)) (hu : P.underlying u = some .string) (hi : P.info? e = some i) (hz : i.zero = some (.int .u8 0)) (hsize : i.size = 1) (hby : i.bytes = 1)
    (hgd : o.guard = none) (s x : Operand) (ho : o.op = .call { callee := .builtin .append, args := #[s, x], argTypes := #[t, u] })
    (B : Nat) (v : Value) (l : List UInt8) (S : ByteArray) (W : World) (hs : a.eval s = v) (hx : a.eval x = .string S) (hv : ∃ (g n c : Nat), v = .slice (some ⟨g, 0, none⟩) n c)
    (hown : OwnB e W B v l) (hl : l.length + S.size ≤ 4398046511104) (hB : B ≤ W.heap.size)
    (h : ∀ (g cap : Nat) (w' : World), OwnB e w' B (.slice (some ⟨g, 0, none⟩) (l ++ S.data.toList).length cap) (l ++ S.data.toList) → Below B W w' → wpList P ops Q rest (a.put o.dst (.slice (some ⟨g, 0, none⟩) (l ++ S.data.toList).length cap)) w') :
    wpList P ops Q (o :: rest) a W := by
  have hlen : (l ++ S.data.toList).length = l.length + S.size := by rw [List.length_append]; rfl
  rw [hlen] at h
  refine Lib.wpList_append_own_string _ hgd s x t u ho B e i ht hu hi hz hsize hby v l.length (cellsOf l) hs hown S hx (by unfold maxLen; omega) (by omega) hB ?_
  intro v' w' hown' hgrow hnil
  have hb : Below B W w' := (Below.refl B W).grown hgrow hB (fun q hq => (World.ownsRow.lt hown q hq).1)
  have hcells : cellsOf l ++ Lib.strCells S = cellsOf (l ++ S.data.toList) := by simp [cellsOf, Lib.strCells]
  rw [hcells] at hown'
  obtain ⟨g, cap, rfl⟩ : ∃ g cap, v' = .slice (some ⟨g, 0, none⟩) (l.length + S.size) cap := by
    rcases hown'.2 with ⟨h0, h1⟩ | ⟨g, cap, _, h0, _⟩
    · obtain ⟨g, n, c, hvv⟩ := hv
      have := (hnil.1 h0).1
      rw [hvv] at this
      cases this
    · exact ⟨g, cap, h0⟩
  refine h g cap w' ?_ hb
  unfold OwnB
  rw [hlen]
  exact hown'
end Go.Proofs.YtcadoplfgclbjaaDoor

/- The contract of the model's writing of tokens with blanks between. -/
namespace Go.Proofs.YtcadoplfgclbjaaDoor
open Go.RowKit

theorem Tryd.info8j : (Tryd.prog.info? 5).map (fun i => (i.zero, i.size, i.bytes)) = some (some (.int .u8 0), 1, 1) := by kernel_rfl
theorem OwnB.later {e : TypeId} {w w' : World} {B g n c : Nat} {l : List UInt8} (h : OwnB e w B (.slice (some ⟨g, 0, none⟩) n c) l) (hb : Below w.heap.size w w') : OwnB e w' B (.slice (some ⟨g, 0, none⟩) n c) l :=
  World.ownsRow.kept h (row := none) ⟨hb.os, hb.tape, hb.output, hb.size, fun k hk _ => hb.block k hk⟩ (.inr (fun e => by cases e))
theorem ret_ba2 {a b : ByteArray} (h : a = b) : Ending.returned (.string a) = .returned (.string b) := by rw [h]

set_option maxRecDepth 100000 in
set_option maxHeartbeats 8000000 in
theorem join_spec (all : Bool) (B : Nat) (a : Option Addr) (n ca : Nat) (f : Nat → Int × ByteArray × Int) (w : World) (ha : TokSl w B a n f) (hn : n ≤ 4000000) (hf : Hid (∀ j, j < n → (f j).2.1.size ≤ 9223372036854775807)) :
    Calls Tryd.prog 42 #[.slice a n ca, .bool all] w (StrE (joinL all n f) w) := by
  obtain ⟨i0, hi, hz0, hz1, hz2⟩ := info_parts Tryd.info8j
  go_enter Tryd.func42, Tryd.ntmps42
  go_wp2_with fail
  go_loopw [5, 6] (fun v i wr => ∃ (k g cap : Nat) (l : List UInt8), k ≤ n ∧ i = .int .i64 (k : Int) ∧ v = .slice (some ⟨g, 0, none⟩) l.length cap ∧ l.length ≤ 83 * k ∧ Hid (l = spL all (keyF k f)) ∧ Hid ((List.range k).all (okAt f) = true) ∧ OwnB 5 wr w.heap.size (.slice (some ⟨g, 0, none⟩) l.length cap) l ∧ Below w.heap.size w wr) (fun _ i _ => n - (intOf i).toNat)
  case atStart => exact ⟨0, w.heap.size, 0, [], by omega, rfl, rfl, by simp, rfl, rfl, World.ownsRow_lit w #[] 0 (Nat.le_refl _) (by unfold maxLen; omega) rfl, (Below.refl _ _).alloc (Nat.le_refl _) _⟩
  case round =>
    obtain ⟨k, g, cap, l, hk, rfl, rfl, hlk, HL, HO, hown, hbel⟩ := hrel
    have hsz := hbel.size
    by_cases hlt : k < n
    · have hlt2 : (k : Int) < (n : Int) := by omega
      have r4 := ha.below (hbel)
      obtain ⟨b, rfl, _, hbl, c0, c1, c2, _⟩ := r4 k hlt
      have hT := hf.out k hlt
      have hOk := fun w => tokenOk_spec (f k).1 (f k).2.1 (f k).2.2 w hT
      have hTx := fun w => tokenText_spec (f k).1 (f k).2.1 (f k).2.2 w hT
      have hstep := spL_step all f k
      have hoks := ok_step f k
      have hno := @joinL_no all n k f hlt
      have htl := @text_len (f k).1 (f k).2.1.data.toList
      have hok : tokOk (f k).1 (f k).2.1.data.toList = okAt f k := rfl
      rw [hok] at hOk htl
      have HT0 := Lib.hid (rfl : tokTextL (f k).1 (f k).2.1.data.toList = tokTextL (f k).1 (f k).2.1.data.toList)
      unfold StrE at hTx
      generalize hX : (⟨(tokTextL (f k).1 (f k).2.1.data.toList).toArray⟩ : ByteArray) = X at hTx
      have hXl : X.data.toList = tokTextL (f k).1 (f k).2.1.data.toList := by rw [← hX]
      have hXs : X.size = (tokTextL (f k).1 (f k).2.1.data.toList).length := by rw [← hXl]; rfl
      rw [← hXl] at hstep
      rw [← hXs] at htl
      clear HT0 hX hXl hXs hok
      cases ho : okAt f k
      · rw [ho] at hOk
        have HN := Lib.hid (hno ho)
        clear hstep hoks hno htl ho hTx
        go_wp2_with fail
        refine (hOk _).mono ?_
        rintro e w1 ⟨rfl, hb1⟩
        go_wp2_with fail
        go_ret
        exact ⟨by rw [HN.out]; rfl, hbel.trans (hb1.mono hsz)⟩
      · rw [ho] at hOk hoks
        rw [HO.out] at hoks
        have htl := htl ho
        have HO2 := Lib.hid (show (List.range (k + 1)).all (okAt f) = true from hoks)
        clear hno ho hoks
        rw [← HL.out] at hstep
        rcases Nat.eq_zero_or_pos k with hk0 | hk0
        · subst hk0
          have hb : blankB all f 0 = false := rfl
          go_wp2_with fail
          refine (hOk _).mono ?_
          rintro e w1 ⟨rfl, hb1⟩
          obtain ⟨e0, e1, e2⟩ := TokSl.at_k ha (hbel.trans (hb1.mono hsz)) (show 0 < n by omega)
          have x0 := lat_cell e0
          have x1 := lat_cell e1
          have x2 := lat_cell e2
          go_wp2_with fail
          refine region_lat (by kernel_rfl) (by kernel_rfl) ?_
          iterate 17 (go_big_quiet_step (fail))
          refine wpQuiet_nil ?_
          rintro _ ⟨nq, rfl⟩
          have hl1 := lat_below w1 nq
          have n2 : Below wr.heap.size wr (lat w1 nq) := hb1.trans (hl1.mono hb1.size)
          clear x0 x1 x2
          generalize lat w1 nq = wq at n2 hl1 ⊢
          obtain ⟨d0, d1, d2⟩ := TokSl.at_k ha (hbel.trans (n2.mono hsz)) (show 0 < n by omega)
          have d0 : wq.cell? ⟨b, 0, none⟩ = some (.int .i64 (f 0).1) := d0
          have d1 : wq.cell? ⟨b, 1, none⟩ = some (.string (f 0).2.1) := d1
          have d2 : wq.cell? ⟨b, 2, none⟩ = some (.int .i64 (f 0).2.2) := d2
          have HS := Lib.hid (show spL all (keyF (0 + 1) f) = l ++ X.data.toList by rw [hstep, hb]; simp)
          clear hstep hb
          go_wp2_with fail
          refine (hTx _).mono ?_
          rintro e w3 ⟨rfl, hb3⟩
          have n3 := n2.trans (hb3.mono n2.size)
          have b3 := hbel.trans (n3.mono hsz)
          have z3 := b3.size
          have hown3 := hown.later n3
          go_wp2_with (at_builtin; go_must (refine appS Tryd.underlying22 Tryd.underlying9 hi hz0 hz1 hz2 rfl (.tmp 40) (.tmp 45) rfl w.heap.size (.slice (some ⟨g, 0, none⟩) l.length cap) l X w3 rfl rfl ⟨_, _, _, rfl⟩ hown3 (by omega) z3 ?_); intro g4 c4 w4 hown4 hbel4)
          go_roundw
          case rel => exact ⟨1, g4, c4, l ++ X.data.toList, by omega, by go_num, by rw [List.length_append]; rfl, by rw [List.length_append]; show l.length + X.size ≤ _; omega, HS.out.symm, HO2.out, hown4, b3.trans hbel4⟩
          case measure => simp [intOf]; omega
        · have dk : decide (0 < k) = true := by simp; omega
          have dk2 : decide ((0 : Int) < (k : Int)) = true := by simp; omega
          have hb1k : blankB all f k = (all || gapB (f (k - 1)).1 (f (k - 1)).2.1.data.toList (f k).1 (f k).2.1.data.toList) := by unfold blankB; rw [dk, Bool.true_and]
          cases all
          · have hGp := fun w => gap_spec (f (k - 1)).1 (f (k - 1)).2.1 (f (k - 1)).2.2 (f k).1 (f k).2.1 (f k).2.2 w (hf.out (k - 1) (by omega)) (hf.out k hlt)
            rw [Bool.false_or] at hb1k
            cases hgb : gapB (f (k - 1)).1 (f (k - 1)).2.1.data.toList (f k).1 (f k).2.1.data.toList
            · have hb := hb1k.trans hgb
              rw [hgb] at hGp
              clear hb1k hgb
              go_wp2_with fail
              refine (hOk _).mono ?_
              rintro e w1 ⟨rfl, hb1⟩
              obtain ⟨e0, e1, e2⟩ := TokSl.at_k ha (hbel.trans (hb1.mono hsz)) (show k < n by omega)
              have x0 := lat_cell e0
              have x1 := lat_cell e1
              have x2 := lat_cell e2
              obtain ⟨p0, p1, p2⟩ := TokSl.at_k ha (hbel.trans (hb1.mono hsz)) (show k - 1 < n by omega)
              have y0 := lat_cell p0
              have y1 := lat_cell p1
              have y2 := lat_cell p2
              go_wp2_with fail
              refine region_lat (by kernel_rfl) (by kernel_rfl) ?_
              iterate 17 (go_big_quiet_step ((refine (hGp (lat w1 _)).mono ?_; rintro e w'' ⟨rfl, hb''⟩; exact ⟨rfl, lat_to hb''⟩)))
              refine wpQuiet_nil ?_
              rintro _ ⟨nq, rfl⟩
              have hl1 := lat_below w1 nq
              have n2 : Below wr.heap.size wr (lat w1 nq) := hb1.trans (hl1.mono hb1.size)
              clear x0 x1 x2
              generalize lat w1 nq = wq at n2 hl1 ⊢
              obtain ⟨d0, d1, d2⟩ := TokSl.at_k ha (hbel.trans (n2.mono hsz)) (show k < n by omega)
              clear y0 y1 y2 p0 p1 p2
              have HS := Lib.hid (show spL false (keyF (k + 1) f) = l ++ X.data.toList by rw [hstep, hb]; simp)
              clear hstep hb
              go_wp2_with fail
              refine (hTx _).mono ?_
              rintro e w3 ⟨rfl, hb3⟩
              have n3 := n2.trans (hb3.mono n2.size)
              have b3 := hbel.trans (n3.mono hsz)
              have z3 := b3.size
              have hown3 := hown.later n3
              go_wp2_with (at_builtin; go_must (refine appS Tryd.underlying22 Tryd.underlying9 hi hz0 hz1 hz2 rfl (.tmp 40) (.tmp 45) rfl w.heap.size (.slice (some ⟨g, 0, none⟩) l.length cap) l X w3 rfl rfl ⟨_, _, _, rfl⟩ hown3 (by omega) z3 ?_); intro g4 c4 w4 hown4 hbel4)
              go_roundw
              case rel => exact ⟨k + 1, g4, c4, l ++ X.data.toList, by omega, by go_num, by rw [List.length_append]; rfl, by rw [List.length_append]; show l.length + X.size ≤ _; omega, HS.out.symm, HO2.out, hown4, b3.trans hbel4⟩
              case measure => simp [intOf]; omega
            · have hb := hb1k.trans hgb
              rw [hgb] at hGp
              clear hb1k hgb
              go_wp2_with fail
              refine (hOk _).mono ?_
              rintro e w1 ⟨rfl, hb1⟩
              obtain ⟨e0, e1, e2⟩ := TokSl.at_k ha (hbel.trans (hb1.mono hsz)) (show k < n by omega)
              have x0 := lat_cell e0
              have x1 := lat_cell e1
              have x2 := lat_cell e2
              obtain ⟨p0, p1, p2⟩ := TokSl.at_k ha (hbel.trans (hb1.mono hsz)) (show k - 1 < n by omega)
              have y0 := lat_cell p0
              have y1 := lat_cell p1
              have y2 := lat_cell p2
              go_wp2_with fail
              refine region_lat (by kernel_rfl) (by kernel_rfl) ?_
              iterate 17 (go_big_quiet_step ((refine (hGp (lat w1 _)).mono ?_; rintro e w'' ⟨rfl, hb''⟩; exact ⟨rfl, lat_to hb''⟩)))
              refine wpQuiet_nil ?_
              rintro _ ⟨nq, rfl⟩
              have hl1 := lat_below w1 nq
              have n2 : Below wr.heap.size wr (lat w1 nq) := hb1.trans (hl1.mono hb1.size)
              clear x0 x1 x2
              generalize lat w1 nq = wq at n2 hl1 ⊢
              obtain ⟨d0, d1, d2⟩ := TokSl.at_k ha (hbel.trans (n2.mono hsz)) (show k < n by omega)
              clear y0 y1 y2 p0 p1 p2
              have HS := Lib.hid (show spL false (keyF (k + 1) f) = (l ++ [32]) ++ X.data.toList by rw [hstep, hb]; rfl)
              clear hstep hb
              have b2 := hbel.trans (n2.mono hsz)
              have z2 := b2.size
              have hown2 := hown.later n2
              go_wp2_with (at_builtin; go_must (refine appB Tryd.underlying22 hi hz0 hz1 hz2 rfl (.tmp 37) (.tmp 38) rfl w.heap.size (.slice (some ⟨g, 0, none⟩) l.length cap) l 32 _ wq rfl rfl hown2 rfl (by omega) z2 ?_); intro g5 c5 w5 hown5 hbel5; have b5 := b2.trans hbel5; obtain ⟨q0, q1, q2⟩ := (TokSl.at_k ha b5 (show k < n by omega)))
              have z5 := b5.size
              refine (hTx _).mono ?_
              rintro e w3 ⟨rfl, hb3⟩
              have b3 := b5.trans (hb3.mono z5)
              have z3 := b3.size
              have hown3 : OwnB 5 w3 w.heap.size (.slice (some ⟨g5, 0, none⟩) (l.length + 1) c5) (l ++ [32]) := OwnB.later hown5 hb3
              go_wp2_with (at_builtin; go_must (refine appS Tryd.underlying22 Tryd.underlying9 hi hz0 hz1 hz2 rfl (.tmp 40) (.tmp 45) rfl w.heap.size (.slice (some ⟨g5, 0, none⟩) (l.length + 1) c5) (l ++ [32]) X w3 rfl rfl ⟨_, _, _, rfl⟩ hown3 (by simp; omega) z3 ?_); intro g4 c4 w4 hown4 hbel4)
              go_roundw
              case rel => exact ⟨k + 1, g4, c4, l ++ [32] ++ X.data.toList, by omega, by go_num, by (have e : (l ++ [32] ++ X.data.toList).length = l.length + (X.size + 1) := by (rw [List.length_append, List.length_append]; show l.length + 1 + X.size = _; omega)); rw [e], by rw [List.length_append, List.length_append]; show l.length + 1 + X.size ≤ _; omega, HS.out.symm, HO2.out, hown4, b3.trans hbel4⟩
              case measure => simp [intOf]; omega
          · have hb : blankB true f k = true := by rw [hb1k]; rfl
            clear hb1k
            go_wp2_with fail
            refine (hOk _).mono ?_
            rintro e w1 ⟨rfl, hb1⟩
            obtain ⟨e0, e1, e2⟩ := TokSl.at_k ha (hbel.trans (hb1.mono hsz)) (show k < n by omega)
            have x0 := lat_cell e0
            have x1 := lat_cell e1
            have x2 := lat_cell e2
            go_wp2_with fail
            refine region_lat (by kernel_rfl) (by kernel_rfl) ?_
            iterate 17 (go_big_quiet_step (fail))
            refine wpQuiet_nil ?_
            rintro _ ⟨nq, rfl⟩
            have hl1 := lat_below w1 nq
            have n2 : Below wr.heap.size wr (lat w1 nq) := hb1.trans (hl1.mono hb1.size)
            clear x0 x1 x2
            generalize lat w1 nq = wq at n2 hl1 ⊢
            obtain ⟨d0, d1, d2⟩ := TokSl.at_k ha (hbel.trans (n2.mono hsz)) (show k < n by omega)
            have HS := Lib.hid (show spL true (keyF (k + 1) f) = (l ++ [32]) ++ X.data.toList by rw [hstep, hb]; rfl)
            clear hstep hb
            have b2 := hbel.trans (n2.mono hsz)
            have z2 := b2.size
            have hown2 := hown.later n2
            go_wp2_with (at_builtin; go_must (refine appB Tryd.underlying22 hi hz0 hz1 hz2 rfl (.tmp 37) (.tmp 38) rfl w.heap.size (.slice (some ⟨g, 0, none⟩) l.length cap) l 32 _ wq rfl rfl hown2 rfl (by omega) z2 ?_); intro g5 c5 w5 hown5 hbel5; have b5 := b2.trans hbel5; obtain ⟨q0, q1, q2⟩ := (TokSl.at_k ha b5 (show k < n by omega)))
            have z5 := b5.size
            refine (hTx _).mono ?_
            rintro e w3 ⟨rfl, hb3⟩
            have b3 := b5.trans (hb3.mono z5)
            have z3 := b3.size
            have hown3 : OwnB 5 w3 w.heap.size (.slice (some ⟨g5, 0, none⟩) (l.length + 1) c5) (l ++ [32]) := OwnB.later hown5 hb3
            go_wp2_with (at_builtin; go_must (refine appS Tryd.underlying22 Tryd.underlying9 hi hz0 hz1 hz2 rfl (.tmp 40) (.tmp 45) rfl w.heap.size (.slice (some ⟨g5, 0, none⟩) (l.length + 1) c5) (l ++ [32]) X w3 rfl rfl ⟨_, _, _, rfl⟩ hown3 (by simp; omega) z3 ?_); intro g4 c4 w4 hown4 hbel4)
            go_roundw
            case rel => exact ⟨k + 1, g4, c4, l ++ [32] ++ X.data.toList, by omega, by go_num, by (have e : (l ++ [32] ++ X.data.toList).length = l.length + (X.size + 1) := by (rw [List.length_append, List.length_append]; show l.length + 1 + X.size = _; omega)); rw [e], by rw [List.length_append, List.length_append]; show l.length + 1 + X.size ≤ _; omega, HS.out.symm, HO2.out, hown4, b3.trans hbel4⟩
            case measure => simp [intOf]; omega
    · have e : k = n := by omega
      subst e
      have hJ := @joinL_yes all k f HO.out
      rw [← HL.out] at hJ
      by_cases h2 : 2000 < l.length
      · rw [if_pos h2] at hJ
        have d : decide ((2000 : Int) < (l.length : Int)) = true := by simp; omega
        have HJ := Lib.hid hJ; clear hJ
        go_wp2_with fail
        go_ret
        exact ⟨by rw [HJ.out]; rfl, hbel⟩
      · rw [if_neg h2] at hJ
        have d : decide ((2000 : Int) < (l.length : Int)) = false := by simp; omega
        have HJ := Lib.hid hJ; clear hJ
        have hcv := OwnB.string (src := 22) (dst := 9) hown rfl Tryd.underlying22 Tryd.underlying5 Tryd.underlying9
        go_wp2_with fail
        go_ret
        exact ⟨by rw [HJ.out]; rfl, hbel⟩
set_option maxRecDepth 100000 in
set_option maxHeartbeats 400000 in
theorem spaced_spec (B : Nat) (a : Option Addr) (n ca : Nat) (f : Nat → Int × ByteArray × Int) (w : World) (ha : TokSl w B a n f) (hn : n ≤ 4000000) (hf : Hid (∀ j, j < n → (f j).2.1.size ≤ 9223372036854775807)) :
    Calls Tryd.prog 16 #[.slice a n ca] w (StrE (joinL false n f) w) := by
  have hJ := join_spec false B a n ca f w ha hn hf
  unfold StrE at hJ ⊢
  generalize (⟨(joinL false n f).toArray⟩ : ByteArray) = X at hJ ⊢
  go_enter Tryd.func16, Tryd.ntmps16
  go_wp2_with fail
  refine hJ.mono ?_
  rintro e w1 ⟨rfl, hb1⟩
  go_wp2_with fail
  go_ret
  exact ⟨rfl, hb1⟩
set_option maxRecDepth 100000 in
set_option maxHeartbeats 400000 in
theorem loose_spec (B : Nat) (a : Option Addr) (n ca : Nat) (f : Nat → Int × ByteArray × Int) (w : World) (ha : TokSl w B a n f) (hn : n ≤ 4000000) (hf : Hid (∀ j, j < n → (f j).2.1.size ≤ 9223372036854775807)) :
    Calls Tryd.prog 20 #[.slice a n ca] w (StrE (joinL true n f) w) := by
  have hJ := join_spec true B a n ca f w ha hn hf
  unfold StrE at hJ ⊢
  generalize (⟨(joinL true n f).toArray⟩ : ByteArray) = X at hJ ⊢
  go_enter Tryd.func20, Tryd.ntmps20
  go_wp2_with fail
  refine hJ.mono ?_
  rintro e w1 ⟨rfl, hb1⟩
  go_wp2_with fail
  go_ret
  exact ⟨rfl, hb1⟩
end Go.Proofs.YtcadoplfgclbjaaDoor

/- The contract of the model's Squeeze. -/
namespace Go.Proofs.YtcadoplfgclbjaaDoor
open Go.RowKit

/-- a text and a number come back -/
def SqzE (r : List UInt8 × Int) (w : World) (e : Ending) (w' : World) : Prop := e = .returned (.tuple #[.string ⟨r.1.toArray⟩, .int .i64 r.2]) ∧ Below w.heap.size w w'

set_option maxRecDepth 100000 in
set_option maxHeartbeats 1600000 in
theorem squeeze_spec (s : ByteArray) (w : World) (hs : s.size ≤ 9223372036854775807) :
    Calls Tryd.prog 22 #[.string s] w (SqzE (sqR (lexR s.data.toList)) w) := by
  have hn := rn_le s.data.toList
  have hsm := @lexR_texts s.data.toList
  have hL := fun w => lex_spec s w hs
  generalize lexR s.data.toList = r at hn hsm hL ⊢
  rcases r with p | L
  · have d : decide ((0 : Int) ≤ (p : Int)) = true := by simp
    go_enter Tryd.func22, Tryd.ntmps22
    go_wp2_with fail
    refine (hL _).mono ?_
    intro e w2 h2
    obtain ⟨a2, c2, rfl, r2, hb2⟩ := h2.row
    have hx : rx (.error p : Except Nat (List Tk)) = (p : Int) := rfl
    have hn0 : rn (.error p : Except Nat (List Tk)) = 0 := rfl
    rw [hx, hn0]
    clear hx hn0 h2 r2 hL hsm
    go_wp2_with fail
    go_ret2
    exact ⟨rfl, hb2⟩
  · have hf := hsm rfl
    have hnL : rn (.ok L : Except Nat (List Tk)) = L.length := rfl
    have hx : rx (.ok L : Except Nat (List Tk)) = -1 := rfl
    have hfL : rf (.ok L : Except Nat (List Tk)) = tokF L := rfl
    rw [hnL] at hn
    have hJ := fun B a c w (h : TokSl w B a L.length (tokF L)) => spaced_spec B a L.length c (tokF L) w h (by omega) (fun j hj => by have := hf j hj; omega)
    have HE : Hid (sqR (.ok L) = (joinL false L.length (tokF L), -1)) := rfl
    unfold StrE at hJ
    generalize joinL false L.length (tokF L) = J at hJ HE
    clear hsm hf
    go_enter Tryd.func22, Tryd.ntmps22
    go_wp2_with fail
    refine (hL _).mono ?_
    intro e w2 h2
    obtain ⟨a2, c2, rfl, r2, hb2⟩ := h2.row
    rw [hx, hnL]
    rw [hnL, hfL] at r2
    clear hx hnL hfL h2 hL
    have hJ2 := hJ _ _ c2 _ r2
    clear hJ r2
    go_wp2_with fail
    refine hJ2.mono ?_
    rintro e w3 ⟨rfl, hb3⟩
    have hb := hb2.trans (hb3.mono hb2.size)
    go_wp2_with fail
    go_ret2
    exact ⟨by rw [HE.out]; rfl, hb⟩
end Go.Proofs.YtcadoplfgclbjaaDoor
