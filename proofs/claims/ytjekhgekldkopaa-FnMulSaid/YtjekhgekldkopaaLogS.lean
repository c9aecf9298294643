
/- The contract of the model's logic. -/
import Derived.Test.YtjekhgekldkopaaCalcS0
namespace Go.Proofs.Ytjekhgekldkopaa
open Go.RowKit

theorem val_logic {k a : Int} {t : ByteArray} (h : valOk k a t.data.toList = true) (hk : kindIn k 3 = true) : (k = 0 ∧ a = 0 ∨ k = 3 ∧ a = 0 ∨ k = 3 ∧ a = 1) ∧ t = ⟨#[]⟩ := by
  unfold kindIn at hk
  unfold valOk at h
  rw [Bool.or_eq_true] at hk
  rcases hk with hk | hk
  · obtain rfl : k = 3 := by simpa using hk
    simp only [Int.reduceEq, if_false, if_true, Bool.and_eq_true, decide_eq_true_eq] at h
    exact ⟨by omega, ba_of (by rw [h.2])⟩
  · obtain rfl : k = 0 := by simpa using hk
    simp only [if_true, Bool.and_eq_true, decide_eq_true_eq] at h
    exact ⟨.inl ⟨rfl, h.1⟩, ba_of (by rw [h.2])⟩
set_option maxRecDepth 100000 in
set_option maxHeartbeats 8000000 in
theorem logic_spec (op : Int) (k a : Int) (t : ByteArray) (k' a' : Int) (t' : ByteArray) (w : World) (h1 : 1 ≤ op) (h2 : op ≤ 2) (hva : valOk k a t.data.toList = true) (hvb : valOk k' a' t'.data.toList = true) : Calls Try.prog 54 #[.int .i64 op, .agg #[.int .i64 k, .int .i64 a, .string t], .agg #[.int .i64 k', .int .i64 a', .string t']] w (CalcE (if kindIn k 3 && kindIn k' 3 then logicC op k a k' a' else errC 1) w) := by
  have hA := fun w => is_spec k a 3 t w
  have hB := fun w => is_spec k' a' 3 t' w
  cases hx : kindIn k 3
  · rw [hx] at hA
    clear hva hvb hB hx
    show Calls _ _ _ w (CalcE (errC 1) w)
    unfold errC
    go_enter Try.func54, Try.ntmps54
    go_wp2_with fail
    have H := fr_new w k a t k' a' t'
    generalize (((w.alloc (.cells #[.int .i64 k, .int .i64 a, .string t] 27)).alloc (.cells #[.int .i64 k', .int .i64 a', .string t'] 27)).alloc (.cells #[.int .i64 0, .int .i64 0, .string ⟨#[]⟩] 27)) = V at H ⊢
    obtain ⟨ca0, ca1, ca2⟩ := H.a0.cells
    refine (hA _).mono ?_
    rintro e w1 ⟨rfl, hbn1⟩
    replace H := H.next hbn1
    clear hbn1
    clear ca0 ca1 ca2
    obtain ⟨z0, z1, z2⟩ := H.r0.soft
    obtain ⟨g0, g1, g2⟩ := H.r0.cells
    obtain ⟨f0, f1, f2, hbF⟩ := H.fin (0) (0) (⟨#[]⟩)
    go_wp2_with fail
    rw [put_eq]
    generalize put _ (w.heap.size + 2) (0) (0) (⟨#[]⟩) = wf at f0 f1 f2 hbF ⊢
    refine bodyPost_ret (v := .tuple #[.agg #[.int .i64 (0), .int .i64 (0), .string (⟨#[]⟩)], .int .i64 (1)]) (by simp [results, Try.results54, go_sem, f0, f1, f2]) rfl ?_
    exact ⟨rfl, hbF⟩
  cases hy : kindIn k' 3
  · rw [hx] at hA
    rw [hy] at hB
    clear hva hvb hy hx
    show Calls _ _ _ w (CalcE (errC 1) w)
    unfold errC
    go_enter Try.func54, Try.ntmps54
    go_wp2_with fail
    have H := fr_new w k a t k' a' t'
    generalize (((w.alloc (.cells #[.int .i64 k, .int .i64 a, .string t] 27)).alloc (.cells #[.int .i64 k', .int .i64 a', .string t'] 27)).alloc (.cells #[.int .i64 0, .int .i64 0, .string ⟨#[]⟩] 27)) = V at H ⊢
    obtain ⟨ca0, ca1, ca2⟩ := H.a0.cells
    refine (hA _).mono ?_
    rintro e w1 ⟨rfl, hbn1⟩
    replace H := H.next hbn1
    clear hbn1
    clear ca0 ca1 ca2
    obtain ⟨cb0, cb1, cb2⟩ := H.b0.cells
    go_wp2_with fail
    refine (hB _).mono ?_
    rintro e w2 ⟨rfl, hbn2⟩
    replace H := H.next hbn2
    clear hbn2
    clear cb0 cb1 cb2
    obtain ⟨z0, z1, z2⟩ := H.r0.soft
    obtain ⟨g0, g1, g2⟩ := H.r0.cells
    obtain ⟨f0, f1, f2, hbF⟩ := H.fin (0) (0) (⟨#[]⟩)
    go_wp2_with fail
    rw [put_eq]
    generalize put _ (w.heap.size + 2) (0) (0) (⟨#[]⟩) = wf at f0 f1 f2 hbF ⊢
    refine bodyPost_ret (v := .tuple #[.agg #[.int .i64 (0), .int .i64 (0), .string (⟨#[]⟩)], .int .i64 (1)]) (by simp [results, Try.results54, go_sem, f0, f1, f2]) rfl ?_
    exact ⟨rfl, hbF⟩
  rw [hx] at hA
  rw [hy] at hB
  obtain ⟨hka, rfl⟩ := val_logic hva hx
  obtain ⟨hkb, rfl⟩ := val_logic hvb hy
  clear hva hvb hx hy
  have hop : op = 1 ∨ op = 2 := by omega
  clear h1 h2
  rcases hop with rfl | rfl <;> rcases hka with ⟨rfl, rfl⟩ | ⟨rfl, rfl⟩ | ⟨rfl, rfl⟩ <;> rcases hkb with ⟨rfl, rfl⟩ | ⟨rfl, rfl⟩ | ⟨rfl, rfl⟩
  · have hD := fun w => boolValue_spec true w
    go_enter Try.func54, Try.ntmps54
    go_wp2_with fail
    have H := fr_new w 0 0 ⟨#[]⟩ 0 0 ⟨#[]⟩
    generalize (((w.alloc (.cells #[.int .i64 0, .int .i64 0, .string ⟨#[]⟩] 27)).alloc (.cells #[.int .i64 0, .int .i64 0, .string ⟨#[]⟩] 27)).alloc (.cells #[.int .i64 0, .int .i64 0, .string ⟨#[]⟩] 27)) = V at H ⊢
    obtain ⟨ca0, ca1, ca2⟩ := H.a0.cells
    refine (hA _).mono ?_
    rintro e w1 ⟨rfl, hbn1⟩
    replace H := H.next hbn1
    clear hbn1
    clear ca0 ca1 ca2
    obtain ⟨cb0, cb1, cb2⟩ := H.b0.cells
    go_wp2_with fail
    refine (hB _).mono ?_
    rintro e w2 ⟨rfl, hbn2⟩
    replace H := H.next hbn2
    clear hbn2
    clear cb0 cb1 cb2
    go_wp2_with fail
    refine (hD _).mono ?_
    rintro e wd ⟨rfl, hbd⟩
    replace H := H.next hbd
    clear hbd hD
    have H3 := H.next ((Below.refl _ _).alloc (Nat.le_refl _) (.cells #[.int .i64 3, .int .i64 1, .string ⟨#[]⟩] 27))
    have hd : ValAt (wd.alloc (.cells #[.int .i64 3, .int .i64 1, .string ⟨#[]⟩] 27)) wd.heap.size 3 1 ⟨#[]⟩ := heap_alloc_new wd _
    obtain ⟨d0, d1, d2⟩ := hd.cells
    clear hd H
    obtain ⟨ca0, ca1, ca2⟩ := H3.a0.cells
    obtain ⟨cb0, cb1, cb2⟩ := H3.b0.cells
    have hNa := fun w => null_spec 0 0 ⟨#[]⟩ w
    have hNb := fun w => null_spec 0 0 ⟨#[]⟩ w
    go_wp2_with fail
    generalize wd.alloc (.cells #[.int .i64 3, .int .i64 1, .string ⟨#[]⟩] 27) = VD at H3 d0 d1 d2 ca0 ca1 ca2 cb0 cb1 cb2 ⊢
    have H := H3
    clear H3 d0 d1 d2
    refine (hNa _).mono ?_
    rintro e w3 ⟨rfl, hbn3⟩
    replace H := H.next hbn3
    clear hbn3
    clear ca0 ca1 ca2
    clear cb0 cb1 cb2
    obtain ⟨z0, z1, z2⟩ := H.r0.soft
    obtain ⟨g0, g1, g2⟩ := H.r0.cells
    obtain ⟨f0, f1, f2, hbF⟩ := H.fin (0) (0) (⟨#[]⟩)
    go_wp2_with fail
    rw [put_eq]
    generalize put _ (w.heap.size + 2) (0) (0) (⟨#[]⟩) = wf at f0 f1 f2 hbF ⊢
    refine bodyPost_ret (v := .tuple #[.agg #[.int .i64 (0), .int .i64 (0), .string (⟨#[]⟩)], .int .i64 (0)]) (by simp [results, Try.results54, go_sem, f0, f1, f2]) rfl ?_
    exact ⟨rfl, hbF⟩
  · have hD := fun w => boolValue_spec true w
    go_enter Try.func54, Try.ntmps54
    go_wp2_with fail
    have H := fr_new w 0 0 ⟨#[]⟩ 3 0 ⟨#[]⟩
    generalize (((w.alloc (.cells #[.int .i64 0, .int .i64 0, .string ⟨#[]⟩] 27)).alloc (.cells #[.int .i64 3, .int .i64 0, .string ⟨#[]⟩] 27)).alloc (.cells #[.int .i64 0, .int .i64 0, .string ⟨#[]⟩] 27)) = V at H ⊢
    obtain ⟨ca0, ca1, ca2⟩ := H.a0.cells
    refine (hA _).mono ?_
    rintro e w1 ⟨rfl, hbn1⟩
    replace H := H.next hbn1
    clear hbn1
    clear ca0 ca1 ca2
    obtain ⟨cb0, cb1, cb2⟩ := H.b0.cells
    go_wp2_with fail
    refine (hB _).mono ?_
    rintro e w2 ⟨rfl, hbn2⟩
    replace H := H.next hbn2
    clear hbn2
    clear cb0 cb1 cb2
    go_wp2_with fail
    refine (hD _).mono ?_
    rintro e wd ⟨rfl, hbd⟩
    replace H := H.next hbd
    clear hbd hD
    have H3 := H.next ((Below.refl _ _).alloc (Nat.le_refl _) (.cells #[.int .i64 3, .int .i64 1, .string ⟨#[]⟩] 27))
    have hd : ValAt (wd.alloc (.cells #[.int .i64 3, .int .i64 1, .string ⟨#[]⟩] 27)) wd.heap.size 3 1 ⟨#[]⟩ := heap_alloc_new wd _
    obtain ⟨d0, d1, d2⟩ := hd.cells
    clear hd H
    obtain ⟨ca0, ca1, ca2⟩ := H3.a0.cells
    obtain ⟨cb0, cb1, cb2⟩ := H3.b0.cells
    have hNa := fun w => null_spec 0 0 ⟨#[]⟩ w
    have hNb := fun w => null_spec 3 0 ⟨#[]⟩ w
    go_wp2_with fail
    generalize wd.alloc (.cells #[.int .i64 3, .int .i64 1, .string ⟨#[]⟩] 27) = VD at H3 d0 d1 d2 ca0 ca1 ca2 cb0 cb1 cb2 ⊢
    have H := H3
    clear H3 d0 d1 d2
    refine (hNa _).mono ?_
    rintro e w3 ⟨rfl, hbn3⟩
    replace H := H.next hbn3
    clear hbn3
    clear ca0 ca1 ca2
    clear cb0 cb1 cb2
    obtain ⟨z0, z1, z2⟩ := H.r0.soft
    obtain ⟨g0, g1, g2⟩ := H.r0.cells
    obtain ⟨f0, f1, f2, hbF⟩ := H.fin (0) (0) (⟨#[]⟩)
    go_wp2_with fail
    rw [put_eq]
    generalize put _ (w.heap.size + 2) (0) (0) (⟨#[]⟩) = wf at f0 f1 f2 hbF ⊢
    refine bodyPost_ret (v := .tuple #[.agg #[.int .i64 (0), .int .i64 (0), .string (⟨#[]⟩)], .int .i64 (0)]) (by simp [results, Try.results54, go_sem, f0, f1, f2]) rfl ?_
    exact ⟨rfl, hbF⟩
  · have hD := fun w => boolValue_spec true w
    go_enter Try.func54, Try.ntmps54
    go_wp2_with fail
    have H := fr_new w 0 0 ⟨#[]⟩ 3 1 ⟨#[]⟩
    generalize (((w.alloc (.cells #[.int .i64 0, .int .i64 0, .string ⟨#[]⟩] 27)).alloc (.cells #[.int .i64 3, .int .i64 1, .string ⟨#[]⟩] 27)).alloc (.cells #[.int .i64 0, .int .i64 0, .string ⟨#[]⟩] 27)) = V at H ⊢
    obtain ⟨ca0, ca1, ca2⟩ := H.a0.cells
    refine (hA _).mono ?_
    rintro e w1 ⟨rfl, hbn1⟩
    replace H := H.next hbn1
    clear hbn1
    clear ca0 ca1 ca2
    obtain ⟨cb0, cb1, cb2⟩ := H.b0.cells
    go_wp2_with fail
    refine (hB _).mono ?_
    rintro e w2 ⟨rfl, hbn2⟩
    replace H := H.next hbn2
    clear hbn2
    clear cb0 cb1 cb2
    go_wp2_with fail
    refine (hD _).mono ?_
    rintro e wd ⟨rfl, hbd⟩
    replace H := H.next hbd
    clear hbd hD
    have H3 := H.next ((Below.refl _ _).alloc (Nat.le_refl _) (.cells #[.int .i64 3, .int .i64 1, .string ⟨#[]⟩] 27))
    have hd : ValAt (wd.alloc (.cells #[.int .i64 3, .int .i64 1, .string ⟨#[]⟩] 27)) wd.heap.size 3 1 ⟨#[]⟩ := heap_alloc_new wd _
    obtain ⟨d0, d1, d2⟩ := hd.cells
    clear hd H
    obtain ⟨ca0, ca1, ca2⟩ := H3.a0.cells
    obtain ⟨cb0, cb1, cb2⟩ := H3.b0.cells
    obtain ⟨z0, z1, z2⟩ := H3.r0.soft
    obtain ⟨g0, g1, g2⟩ := H3.r0.cells
    obtain ⟨f0, f1, f2, hbF⟩ := H3.fin (3) (1) (⟨#[]⟩)
    go_wp2_with fail
    rw [put_eq]
    generalize put _ (w.heap.size + 2) (3) (1) (⟨#[]⟩) = wf at f0 f1 f2 hbF ⊢
    refine bodyPost_ret (v := .tuple #[.agg #[.int .i64 (3), .int .i64 (1), .string (⟨#[]⟩)], .int .i64 (0)]) (by simp [results, Try.results54, go_sem, f0, f1, f2]) rfl ?_
    exact ⟨rfl, hbF⟩
  · have hD := fun w => boolValue_spec true w
    go_enter Try.func54, Try.ntmps54
    go_wp2_with fail
    have H := fr_new w 3 0 ⟨#[]⟩ 0 0 ⟨#[]⟩
    generalize (((w.alloc (.cells #[.int .i64 3, .int .i64 0, .string ⟨#[]⟩] 27)).alloc (.cells #[.int .i64 0, .int .i64 0, .string ⟨#[]⟩] 27)).alloc (.cells #[.int .i64 0, .int .i64 0, .string ⟨#[]⟩] 27)) = V at H ⊢
    obtain ⟨ca0, ca1, ca2⟩ := H.a0.cells
    refine (hA _).mono ?_
    rintro e w1 ⟨rfl, hbn1⟩
    replace H := H.next hbn1
    clear hbn1
    clear ca0 ca1 ca2
    obtain ⟨cb0, cb1, cb2⟩ := H.b0.cells
    go_wp2_with fail
    refine (hB _).mono ?_
    rintro e w2 ⟨rfl, hbn2⟩
    replace H := H.next hbn2
    clear hbn2
    clear cb0 cb1 cb2
    go_wp2_with fail
    refine (hD _).mono ?_
    rintro e wd ⟨rfl, hbd⟩
    replace H := H.next hbd
    clear hbd hD
    have H3 := H.next ((Below.refl _ _).alloc (Nat.le_refl _) (.cells #[.int .i64 3, .int .i64 1, .string ⟨#[]⟩] 27))
    have hd : ValAt (wd.alloc (.cells #[.int .i64 3, .int .i64 1, .string ⟨#[]⟩] 27)) wd.heap.size 3 1 ⟨#[]⟩ := heap_alloc_new wd _
    obtain ⟨d0, d1, d2⟩ := hd.cells
    clear hd H
    obtain ⟨ca0, ca1, ca2⟩ := H3.a0.cells
    obtain ⟨cb0, cb1, cb2⟩ := H3.b0.cells
    have hNa := fun w => null_spec 3 0 ⟨#[]⟩ w
    have hNb := fun w => null_spec 0 0 ⟨#[]⟩ w
    go_wp2_with fail
    generalize wd.alloc (.cells #[.int .i64 3, .int .i64 1, .string ⟨#[]⟩] 27) = VD at H3 d0 d1 d2 ca0 ca1 ca2 cb0 cb1 cb2 ⊢
    have H := H3
    clear H3 d0 d1 d2
    refine (hNa _).mono ?_
    rintro e w3 ⟨rfl, hbn3⟩
    replace H := H.next hbn3
    clear hbn3
    clear ca0 ca1 ca2
    clear cb0 cb1 cb2
    obtain ⟨cb0, cb1, cb2⟩ := H.b0.cells
    go_wp2_with fail
    refine (hNb _).mono ?_
    rintro e w4 ⟨rfl, hbn4⟩
    replace H := H.next hbn4
    clear hbn4
    clear cb0 cb1 cb2
    obtain ⟨z0, z1, z2⟩ := H.r0.soft
    obtain ⟨g0, g1, g2⟩ := H.r0.cells
    obtain ⟨f0, f1, f2, hbF⟩ := H.fin (0) (0) (⟨#[]⟩)
    go_wp2_with fail
    rw [put_eq]
    generalize put _ (w.heap.size + 2) (0) (0) (⟨#[]⟩) = wf at f0 f1 f2 hbF ⊢
    refine bodyPost_ret (v := .tuple #[.agg #[.int .i64 (0), .int .i64 (0), .string (⟨#[]⟩)], .int .i64 (0)]) (by simp [results, Try.results54, go_sem, f0, f1, f2]) rfl ?_
    exact ⟨rfl, hbF⟩
  · have hD := fun w => boolValue_spec true w
    go_enter Try.func54, Try.ntmps54
    go_wp2_with fail
    have H := fr_new w 3 0 ⟨#[]⟩ 3 0 ⟨#[]⟩
    generalize (((w.alloc (.cells #[.int .i64 3, .int .i64 0, .string ⟨#[]⟩] 27)).alloc (.cells #[.int .i64 3, .int .i64 0, .string ⟨#[]⟩] 27)).alloc (.cells #[.int .i64 0, .int .i64 0, .string ⟨#[]⟩] 27)) = V at H ⊢
    obtain ⟨ca0, ca1, ca2⟩ := H.a0.cells
    refine (hA _).mono ?_
    rintro e w1 ⟨rfl, hbn1⟩
    replace H := H.next hbn1
    clear hbn1
    clear ca0 ca1 ca2
    obtain ⟨cb0, cb1, cb2⟩ := H.b0.cells
    go_wp2_with fail
    refine (hB _).mono ?_
    rintro e w2 ⟨rfl, hbn2⟩
    replace H := H.next hbn2
    clear hbn2
    clear cb0 cb1 cb2
    go_wp2_with fail
    refine (hD _).mono ?_
    rintro e wd ⟨rfl, hbd⟩
    replace H := H.next hbd
    clear hbd hD
    have H3 := H.next ((Below.refl _ _).alloc (Nat.le_refl _) (.cells #[.int .i64 3, .int .i64 1, .string ⟨#[]⟩] 27))
    have hd : ValAt (wd.alloc (.cells #[.int .i64 3, .int .i64 1, .string ⟨#[]⟩] 27)) wd.heap.size 3 1 ⟨#[]⟩ := heap_alloc_new wd _
    obtain ⟨d0, d1, d2⟩ := hd.cells
    clear hd H
    obtain ⟨ca0, ca1, ca2⟩ := H3.a0.cells
    obtain ⟨cb0, cb1, cb2⟩ := H3.b0.cells
    have hNa := fun w => null_spec 3 0 ⟨#[]⟩ w
    have hNb := fun w => null_spec 3 0 ⟨#[]⟩ w
    go_wp2_with fail
    generalize wd.alloc (.cells #[.int .i64 3, .int .i64 1, .string ⟨#[]⟩] 27) = VD at H3 d0 d1 d2 ca0 ca1 ca2 cb0 cb1 cb2 ⊢
    have H := H3
    clear H3 d0 d1 d2
    refine (hNa _).mono ?_
    rintro e w3 ⟨rfl, hbn3⟩
    replace H := H.next hbn3
    clear hbn3
    clear ca0 ca1 ca2
    clear cb0 cb1 cb2
    obtain ⟨cb0, cb1, cb2⟩ := H.b0.cells
    go_wp2_with fail
    refine (hNb _).mono ?_
    rintro e w4 ⟨rfl, hbn4⟩
    replace H := H.next hbn4
    clear hbn4
    clear cb0 cb1 cb2
    have hG := fun w => boolValue_spec false w
    go_wp2_with fail
    refine (hG _).mono ?_
    rintro e w5 ⟨rfl, hbn5⟩
    replace H := H.next hbn5
    clear hbn5
    obtain ⟨z0, z1, z2⟩ := H.r0.soft
    obtain ⟨g0, g1, g2⟩ := H.r0.cells
    obtain ⟨f0, f1, f2, hbF⟩ := H.fin (3) (0) (⟨#[]⟩)
    go_wp2_with fail
    rw [put_eq]
    generalize put _ (w.heap.size + 2) (3) (0) (⟨#[]⟩) = wf at f0 f1 f2 hbF ⊢
    refine bodyPost_ret (v := .tuple #[.agg #[.int .i64 (3), .int .i64 (0), .string (⟨#[]⟩)], .int .i64 (0)]) (by simp [results, Try.results54, go_sem, f0, f1, f2]) rfl ?_
    exact ⟨rfl, hbF⟩
  · have hD := fun w => boolValue_spec true w
    go_enter Try.func54, Try.ntmps54
    go_wp2_with fail
    have H := fr_new w 3 0 ⟨#[]⟩ 3 1 ⟨#[]⟩
    generalize (((w.alloc (.cells #[.int .i64 3, .int .i64 0, .string ⟨#[]⟩] 27)).alloc (.cells #[.int .i64 3, .int .i64 1, .string ⟨#[]⟩] 27)).alloc (.cells #[.int .i64 0, .int .i64 0, .string ⟨#[]⟩] 27)) = V at H ⊢
    obtain ⟨ca0, ca1, ca2⟩ := H.a0.cells
    refine (hA _).mono ?_
    rintro e w1 ⟨rfl, hbn1⟩
    replace H := H.next hbn1
    clear hbn1
    clear ca0 ca1 ca2
    obtain ⟨cb0, cb1, cb2⟩ := H.b0.cells
    go_wp2_with fail
    refine (hB _).mono ?_
    rintro e w2 ⟨rfl, hbn2⟩
    replace H := H.next hbn2
    clear hbn2
    clear cb0 cb1 cb2
    go_wp2_with fail
    refine (hD _).mono ?_
    rintro e wd ⟨rfl, hbd⟩
    replace H := H.next hbd
    clear hbd hD
    have H3 := H.next ((Below.refl _ _).alloc (Nat.le_refl _) (.cells #[.int .i64 3, .int .i64 1, .string ⟨#[]⟩] 27))
    have hd : ValAt (wd.alloc (.cells #[.int .i64 3, .int .i64 1, .string ⟨#[]⟩] 27)) wd.heap.size 3 1 ⟨#[]⟩ := heap_alloc_new wd _
    obtain ⟨d0, d1, d2⟩ := hd.cells
    clear hd H
    obtain ⟨ca0, ca1, ca2⟩ := H3.a0.cells
    obtain ⟨cb0, cb1, cb2⟩ := H3.b0.cells
    obtain ⟨z0, z1, z2⟩ := H3.r0.soft
    obtain ⟨g0, g1, g2⟩ := H3.r0.cells
    obtain ⟨f0, f1, f2, hbF⟩ := H3.fin (3) (1) (⟨#[]⟩)
    go_wp2_with fail
    rw [put_eq]
    generalize put _ (w.heap.size + 2) (3) (1) (⟨#[]⟩) = wf at f0 f1 f2 hbF ⊢
    refine bodyPost_ret (v := .tuple #[.agg #[.int .i64 (3), .int .i64 (1), .string (⟨#[]⟩)], .int .i64 (0)]) (by simp [results, Try.results54, go_sem, f0, f1, f2]) rfl ?_
    exact ⟨rfl, hbF⟩
  · have hD := fun w => boolValue_spec true w
    go_enter Try.func54, Try.ntmps54
    go_wp2_with fail
    have H := fr_new w 3 1 ⟨#[]⟩ 0 0 ⟨#[]⟩
    generalize (((w.alloc (.cells #[.int .i64 3, .int .i64 1, .string ⟨#[]⟩] 27)).alloc (.cells #[.int .i64 0, .int .i64 0, .string ⟨#[]⟩] 27)).alloc (.cells #[.int .i64 0, .int .i64 0, .string ⟨#[]⟩] 27)) = V at H ⊢
    obtain ⟨ca0, ca1, ca2⟩ := H.a0.cells
    refine (hA _).mono ?_
    rintro e w1 ⟨rfl, hbn1⟩
    replace H := H.next hbn1
    clear hbn1
    clear ca0 ca1 ca2
    obtain ⟨cb0, cb1, cb2⟩ := H.b0.cells
    go_wp2_with fail
    refine (hB _).mono ?_
    rintro e w2 ⟨rfl, hbn2⟩
    replace H := H.next hbn2
    clear hbn2
    clear cb0 cb1 cb2
    go_wp2_with fail
    refine (hD _).mono ?_
    rintro e wd ⟨rfl, hbd⟩
    replace H := H.next hbd
    clear hbd hD
    have H3 := H.next ((Below.refl _ _).alloc (Nat.le_refl _) (.cells #[.int .i64 3, .int .i64 1, .string ⟨#[]⟩] 27))
    have hd : ValAt (wd.alloc (.cells #[.int .i64 3, .int .i64 1, .string ⟨#[]⟩] 27)) wd.heap.size 3 1 ⟨#[]⟩ := heap_alloc_new wd _
    obtain ⟨d0, d1, d2⟩ := hd.cells
    clear hd H
    obtain ⟨ca0, ca1, ca2⟩ := H3.a0.cells
    obtain ⟨cb0, cb1, cb2⟩ := H3.b0.cells
    obtain ⟨z0, z1, z2⟩ := H3.r0.soft
    obtain ⟨g0, g1, g2⟩ := H3.r0.cells
    obtain ⟨f0, f1, f2, hbF⟩ := H3.fin (3) (1) (⟨#[]⟩)
    go_wp2_with fail
    rw [put_eq]
    generalize put _ (w.heap.size + 2) (3) (1) (⟨#[]⟩) = wf at f0 f1 f2 hbF ⊢
    refine bodyPost_ret (v := .tuple #[.agg #[.int .i64 (3), .int .i64 (1), .string (⟨#[]⟩)], .int .i64 (0)]) (by simp [results, Try.results54, go_sem, f0, f1, f2]) rfl ?_
    exact ⟨rfl, hbF⟩
  · have hD := fun w => boolValue_spec true w
    go_enter Try.func54, Try.ntmps54
    go_wp2_with fail
    have H := fr_new w 3 1 ⟨#[]⟩ 3 0 ⟨#[]⟩
    generalize (((w.alloc (.cells #[.int .i64 3, .int .i64 1, .string ⟨#[]⟩] 27)).alloc (.cells #[.int .i64 3, .int .i64 0, .string ⟨#[]⟩] 27)).alloc (.cells #[.int .i64 0, .int .i64 0, .string ⟨#[]⟩] 27)) = V at H ⊢
    obtain ⟨ca0, ca1, ca2⟩ := H.a0.cells
    refine (hA _).mono ?_
    rintro e w1 ⟨rfl, hbn1⟩
    replace H := H.next hbn1
    clear hbn1
    clear ca0 ca1 ca2
    obtain ⟨cb0, cb1, cb2⟩ := H.b0.cells
    go_wp2_with fail
    refine (hB _).mono ?_
    rintro e w2 ⟨rfl, hbn2⟩
    replace H := H.next hbn2
    clear hbn2
    clear cb0 cb1 cb2
    go_wp2_with fail
    refine (hD _).mono ?_
    rintro e wd ⟨rfl, hbd⟩
    replace H := H.next hbd
    clear hbd hD
    have H3 := H.next ((Below.refl _ _).alloc (Nat.le_refl _) (.cells #[.int .i64 3, .int .i64 1, .string ⟨#[]⟩] 27))
    have hd : ValAt (wd.alloc (.cells #[.int .i64 3, .int .i64 1, .string ⟨#[]⟩] 27)) wd.heap.size 3 1 ⟨#[]⟩ := heap_alloc_new wd _
    obtain ⟨d0, d1, d2⟩ := hd.cells
    clear hd H
    obtain ⟨ca0, ca1, ca2⟩ := H3.a0.cells
    obtain ⟨cb0, cb1, cb2⟩ := H3.b0.cells
    obtain ⟨z0, z1, z2⟩ := H3.r0.soft
    obtain ⟨g0, g1, g2⟩ := H3.r0.cells
    obtain ⟨f0, f1, f2, hbF⟩ := H3.fin (3) (1) (⟨#[]⟩)
    go_wp2_with fail
    rw [put_eq]
    generalize put _ (w.heap.size + 2) (3) (1) (⟨#[]⟩) = wf at f0 f1 f2 hbF ⊢
    refine bodyPost_ret (v := .tuple #[.agg #[.int .i64 (3), .int .i64 (1), .string (⟨#[]⟩)], .int .i64 (0)]) (by simp [results, Try.results54, go_sem, f0, f1, f2]) rfl ?_
    exact ⟨rfl, hbF⟩
  · have hD := fun w => boolValue_spec true w
    go_enter Try.func54, Try.ntmps54
    go_wp2_with fail
    have H := fr_new w 3 1 ⟨#[]⟩ 3 1 ⟨#[]⟩
    generalize (((w.alloc (.cells #[.int .i64 3, .int .i64 1, .string ⟨#[]⟩] 27)).alloc (.cells #[.int .i64 3, .int .i64 1, .string ⟨#[]⟩] 27)).alloc (.cells #[.int .i64 0, .int .i64 0, .string ⟨#[]⟩] 27)) = V at H ⊢
    obtain ⟨ca0, ca1, ca2⟩ := H.a0.cells
    refine (hA _).mono ?_
    rintro e w1 ⟨rfl, hbn1⟩
    replace H := H.next hbn1
    clear hbn1
    clear ca0 ca1 ca2
    obtain ⟨cb0, cb1, cb2⟩ := H.b0.cells
    go_wp2_with fail
    refine (hB _).mono ?_
    rintro e w2 ⟨rfl, hbn2⟩
    replace H := H.next hbn2
    clear hbn2
    clear cb0 cb1 cb2
    go_wp2_with fail
    refine (hD _).mono ?_
    rintro e wd ⟨rfl, hbd⟩
    replace H := H.next hbd
    clear hbd hD
    have H3 := H.next ((Below.refl _ _).alloc (Nat.le_refl _) (.cells #[.int .i64 3, .int .i64 1, .string ⟨#[]⟩] 27))
    have hd : ValAt (wd.alloc (.cells #[.int .i64 3, .int .i64 1, .string ⟨#[]⟩] 27)) wd.heap.size 3 1 ⟨#[]⟩ := heap_alloc_new wd _
    obtain ⟨d0, d1, d2⟩ := hd.cells
    clear hd H
    obtain ⟨ca0, ca1, ca2⟩ := H3.a0.cells
    obtain ⟨cb0, cb1, cb2⟩ := H3.b0.cells
    obtain ⟨z0, z1, z2⟩ := H3.r0.soft
    obtain ⟨g0, g1, g2⟩ := H3.r0.cells
    obtain ⟨f0, f1, f2, hbF⟩ := H3.fin (3) (1) (⟨#[]⟩)
    go_wp2_with fail
    rw [put_eq]
    generalize put _ (w.heap.size + 2) (3) (1) (⟨#[]⟩) = wf at f0 f1 f2 hbF ⊢
    refine bodyPost_ret (v := .tuple #[.agg #[.int .i64 (3), .int .i64 (1), .string (⟨#[]⟩)], .int .i64 (0)]) (by simp [results, Try.results54, go_sem, f0, f1, f2]) rfl ?_
    exact ⟨rfl, hbF⟩
  · have hD := fun w => boolValue_spec false w
    go_enter Try.func54, Try.ntmps54
    go_wp2_with fail
    have H := fr_new w 0 0 ⟨#[]⟩ 0 0 ⟨#[]⟩
    generalize (((w.alloc (.cells #[.int .i64 0, .int .i64 0, .string ⟨#[]⟩] 27)).alloc (.cells #[.int .i64 0, .int .i64 0, .string ⟨#[]⟩] 27)).alloc (.cells #[.int .i64 0, .int .i64 0, .string ⟨#[]⟩] 27)) = V at H ⊢
    obtain ⟨ca0, ca1, ca2⟩ := H.a0.cells
    refine (hA _).mono ?_
    rintro e w1 ⟨rfl, hbn1⟩
    replace H := H.next hbn1
    clear hbn1
    clear ca0 ca1 ca2
    obtain ⟨cb0, cb1, cb2⟩ := H.b0.cells
    go_wp2_with fail
    refine (hB _).mono ?_
    rintro e w2 ⟨rfl, hbn2⟩
    replace H := H.next hbn2
    clear hbn2
    clear cb0 cb1 cb2
    go_wp2_with fail
    refine (hD _).mono ?_
    rintro e wd ⟨rfl, hbd⟩
    replace H := H.next hbd
    clear hbd hD
    have H3 := H.next ((Below.refl _ _).alloc (Nat.le_refl _) (.cells #[.int .i64 3, .int .i64 0, .string ⟨#[]⟩] 27))
    have hd : ValAt (wd.alloc (.cells #[.int .i64 3, .int .i64 0, .string ⟨#[]⟩] 27)) wd.heap.size 3 0 ⟨#[]⟩ := heap_alloc_new wd _
    obtain ⟨d0, d1, d2⟩ := hd.cells
    clear hd H
    obtain ⟨ca0, ca1, ca2⟩ := H3.a0.cells
    obtain ⟨cb0, cb1, cb2⟩ := H3.b0.cells
    have hNa := fun w => null_spec 0 0 ⟨#[]⟩ w
    have hNb := fun w => null_spec 0 0 ⟨#[]⟩ w
    go_wp2_with fail
    generalize wd.alloc (.cells #[.int .i64 3, .int .i64 0, .string ⟨#[]⟩] 27) = VD at H3 d0 d1 d2 ca0 ca1 ca2 cb0 cb1 cb2 ⊢
    have H := H3
    clear H3 d0 d1 d2
    refine (hNa _).mono ?_
    rintro e w3 ⟨rfl, hbn3⟩
    replace H := H.next hbn3
    clear hbn3
    clear ca0 ca1 ca2
    clear cb0 cb1 cb2
    obtain ⟨z0, z1, z2⟩ := H.r0.soft
    obtain ⟨g0, g1, g2⟩ := H.r0.cells
    obtain ⟨f0, f1, f2, hbF⟩ := H.fin (0) (0) (⟨#[]⟩)
    go_wp2_with fail
    rw [put_eq]
    generalize put _ (w.heap.size + 2) (0) (0) (⟨#[]⟩) = wf at f0 f1 f2 hbF ⊢
    refine bodyPost_ret (v := .tuple #[.agg #[.int .i64 (0), .int .i64 (0), .string (⟨#[]⟩)], .int .i64 (0)]) (by simp [results, Try.results54, go_sem, f0, f1, f2]) rfl ?_
    exact ⟨rfl, hbF⟩
  · have hD := fun w => boolValue_spec false w
    go_enter Try.func54, Try.ntmps54
    go_wp2_with fail
    have H := fr_new w 0 0 ⟨#[]⟩ 3 0 ⟨#[]⟩
    generalize (((w.alloc (.cells #[.int .i64 0, .int .i64 0, .string ⟨#[]⟩] 27)).alloc (.cells #[.int .i64 3, .int .i64 0, .string ⟨#[]⟩] 27)).alloc (.cells #[.int .i64 0, .int .i64 0, .string ⟨#[]⟩] 27)) = V at H ⊢
    obtain ⟨ca0, ca1, ca2⟩ := H.a0.cells
    refine (hA _).mono ?_
    rintro e w1 ⟨rfl, hbn1⟩
    replace H := H.next hbn1
    clear hbn1
    clear ca0 ca1 ca2
    obtain ⟨cb0, cb1, cb2⟩ := H.b0.cells
    go_wp2_with fail
    refine (hB _).mono ?_
    rintro e w2 ⟨rfl, hbn2⟩
    replace H := H.next hbn2
    clear hbn2
    clear cb0 cb1 cb2
    go_wp2_with fail
    refine (hD _).mono ?_
    rintro e wd ⟨rfl, hbd⟩
    replace H := H.next hbd
    clear hbd hD
    have H3 := H.next ((Below.refl _ _).alloc (Nat.le_refl _) (.cells #[.int .i64 3, .int .i64 0, .string ⟨#[]⟩] 27))
    have hd : ValAt (wd.alloc (.cells #[.int .i64 3, .int .i64 0, .string ⟨#[]⟩] 27)) wd.heap.size 3 0 ⟨#[]⟩ := heap_alloc_new wd _
    obtain ⟨d0, d1, d2⟩ := hd.cells
    clear hd H
    obtain ⟨ca0, ca1, ca2⟩ := H3.a0.cells
    obtain ⟨cb0, cb1, cb2⟩ := H3.b0.cells
    obtain ⟨z0, z1, z2⟩ := H3.r0.soft
    obtain ⟨g0, g1, g2⟩ := H3.r0.cells
    obtain ⟨f0, f1, f2, hbF⟩ := H3.fin (3) (0) (⟨#[]⟩)
    go_wp2_with fail
    rw [put_eq]
    generalize put _ (w.heap.size + 2) (3) (0) (⟨#[]⟩) = wf at f0 f1 f2 hbF ⊢
    refine bodyPost_ret (v := .tuple #[.agg #[.int .i64 (3), .int .i64 (0), .string (⟨#[]⟩)], .int .i64 (0)]) (by simp [results, Try.results54, go_sem, f0, f1, f2]) rfl ?_
    exact ⟨rfl, hbF⟩
  · have hD := fun w => boolValue_spec false w
    go_enter Try.func54, Try.ntmps54
    go_wp2_with fail
    have H := fr_new w 0 0 ⟨#[]⟩ 3 1 ⟨#[]⟩
    generalize (((w.alloc (.cells #[.int .i64 0, .int .i64 0, .string ⟨#[]⟩] 27)).alloc (.cells #[.int .i64 3, .int .i64 1, .string ⟨#[]⟩] 27)).alloc (.cells #[.int .i64 0, .int .i64 0, .string ⟨#[]⟩] 27)) = V at H ⊢
    obtain ⟨ca0, ca1, ca2⟩ := H.a0.cells
    refine (hA _).mono ?_
    rintro e w1 ⟨rfl, hbn1⟩
    replace H := H.next hbn1
    clear hbn1
    clear ca0 ca1 ca2
    obtain ⟨cb0, cb1, cb2⟩ := H.b0.cells
    go_wp2_with fail
    refine (hB _).mono ?_
    rintro e w2 ⟨rfl, hbn2⟩
    replace H := H.next hbn2
    clear hbn2
    clear cb0 cb1 cb2
    go_wp2_with fail
    refine (hD _).mono ?_
    rintro e wd ⟨rfl, hbd⟩
    replace H := H.next hbd
    clear hbd hD
    have H3 := H.next ((Below.refl _ _).alloc (Nat.le_refl _) (.cells #[.int .i64 3, .int .i64 0, .string ⟨#[]⟩] 27))
    have hd : ValAt (wd.alloc (.cells #[.int .i64 3, .int .i64 0, .string ⟨#[]⟩] 27)) wd.heap.size 3 0 ⟨#[]⟩ := heap_alloc_new wd _
    obtain ⟨d0, d1, d2⟩ := hd.cells
    clear hd H
    obtain ⟨ca0, ca1, ca2⟩ := H3.a0.cells
    obtain ⟨cb0, cb1, cb2⟩ := H3.b0.cells
    have hNa := fun w => null_spec 0 0 ⟨#[]⟩ w
    have hNb := fun w => null_spec 3 1 ⟨#[]⟩ w
    go_wp2_with fail
    generalize wd.alloc (.cells #[.int .i64 3, .int .i64 0, .string ⟨#[]⟩] 27) = VD at H3 d0 d1 d2 ca0 ca1 ca2 cb0 cb1 cb2 ⊢
    have H := H3
    clear H3 d0 d1 d2
    refine (hNa _).mono ?_
    rintro e w3 ⟨rfl, hbn3⟩
    replace H := H.next hbn3
    clear hbn3
    clear ca0 ca1 ca2
    clear cb0 cb1 cb2
    obtain ⟨z0, z1, z2⟩ := H.r0.soft
    obtain ⟨g0, g1, g2⟩ := H.r0.cells
    obtain ⟨f0, f1, f2, hbF⟩ := H.fin (0) (0) (⟨#[]⟩)
    go_wp2_with fail
    rw [put_eq]
    generalize put _ (w.heap.size + 2) (0) (0) (⟨#[]⟩) = wf at f0 f1 f2 hbF ⊢
    refine bodyPost_ret (v := .tuple #[.agg #[.int .i64 (0), .int .i64 (0), .string (⟨#[]⟩)], .int .i64 (0)]) (by simp [results, Try.results54, go_sem, f0, f1, f2]) rfl ?_
    exact ⟨rfl, hbF⟩
  · have hD := fun w => boolValue_spec false w
    go_enter Try.func54, Try.ntmps54
    go_wp2_with fail
    have H := fr_new w 3 0 ⟨#[]⟩ 0 0 ⟨#[]⟩
    generalize (((w.alloc (.cells #[.int .i64 3, .int .i64 0, .string ⟨#[]⟩] 27)).alloc (.cells #[.int .i64 0, .int .i64 0, .string ⟨#[]⟩] 27)).alloc (.cells #[.int .i64 0, .int .i64 0, .string ⟨#[]⟩] 27)) = V at H ⊢
    obtain ⟨ca0, ca1, ca2⟩ := H.a0.cells
    refine (hA _).mono ?_
    rintro e w1 ⟨rfl, hbn1⟩
    replace H := H.next hbn1
    clear hbn1
    clear ca0 ca1 ca2
    obtain ⟨cb0, cb1, cb2⟩ := H.b0.cells
    go_wp2_with fail
    refine (hB _).mono ?_
    rintro e w2 ⟨rfl, hbn2⟩
    replace H := H.next hbn2
    clear hbn2
    clear cb0 cb1 cb2
    go_wp2_with fail
    refine (hD _).mono ?_
    rintro e wd ⟨rfl, hbd⟩
    replace H := H.next hbd
    clear hbd hD
    have H3 := H.next ((Below.refl _ _).alloc (Nat.le_refl _) (.cells #[.int .i64 3, .int .i64 0, .string ⟨#[]⟩] 27))
    have hd : ValAt (wd.alloc (.cells #[.int .i64 3, .int .i64 0, .string ⟨#[]⟩] 27)) wd.heap.size 3 0 ⟨#[]⟩ := heap_alloc_new wd _
    obtain ⟨d0, d1, d2⟩ := hd.cells
    clear hd H
    obtain ⟨ca0, ca1, ca2⟩ := H3.a0.cells
    obtain ⟨cb0, cb1, cb2⟩ := H3.b0.cells
    obtain ⟨z0, z1, z2⟩ := H3.r0.soft
    obtain ⟨g0, g1, g2⟩ := H3.r0.cells
    obtain ⟨f0, f1, f2, hbF⟩ := H3.fin (3) (0) (⟨#[]⟩)
    go_wp2_with fail
    rw [put_eq]
    generalize put _ (w.heap.size + 2) (3) (0) (⟨#[]⟩) = wf at f0 f1 f2 hbF ⊢
    refine bodyPost_ret (v := .tuple #[.agg #[.int .i64 (3), .int .i64 (0), .string (⟨#[]⟩)], .int .i64 (0)]) (by simp [results, Try.results54, go_sem, f0, f1, f2]) rfl ?_
    exact ⟨rfl, hbF⟩
  · have hD := fun w => boolValue_spec false w
    go_enter Try.func54, Try.ntmps54
    go_wp2_with fail
    have H := fr_new w 3 0 ⟨#[]⟩ 3 0 ⟨#[]⟩
    generalize (((w.alloc (.cells #[.int .i64 3, .int .i64 0, .string ⟨#[]⟩] 27)).alloc (.cells #[.int .i64 3, .int .i64 0, .string ⟨#[]⟩] 27)).alloc (.cells #[.int .i64 0, .int .i64 0, .string ⟨#[]⟩] 27)) = V at H ⊢
    obtain ⟨ca0, ca1, ca2⟩ := H.a0.cells
    refine (hA _).mono ?_
    rintro e w1 ⟨rfl, hbn1⟩
    replace H := H.next hbn1
    clear hbn1
    clear ca0 ca1 ca2
    obtain ⟨cb0, cb1, cb2⟩ := H.b0.cells
    go_wp2_with fail
    refine (hB _).mono ?_
    rintro e w2 ⟨rfl, hbn2⟩
    replace H := H.next hbn2
    clear hbn2
    clear cb0 cb1 cb2
    go_wp2_with fail
    refine (hD _).mono ?_
    rintro e wd ⟨rfl, hbd⟩
    replace H := H.next hbd
    clear hbd hD
    have H3 := H.next ((Below.refl _ _).alloc (Nat.le_refl _) (.cells #[.int .i64 3, .int .i64 0, .string ⟨#[]⟩] 27))
    have hd : ValAt (wd.alloc (.cells #[.int .i64 3, .int .i64 0, .string ⟨#[]⟩] 27)) wd.heap.size 3 0 ⟨#[]⟩ := heap_alloc_new wd _
    obtain ⟨d0, d1, d2⟩ := hd.cells
    clear hd H
    obtain ⟨ca0, ca1, ca2⟩ := H3.a0.cells
    obtain ⟨cb0, cb1, cb2⟩ := H3.b0.cells
    obtain ⟨z0, z1, z2⟩ := H3.r0.soft
    obtain ⟨g0, g1, g2⟩ := H3.r0.cells
    obtain ⟨f0, f1, f2, hbF⟩ := H3.fin (3) (0) (⟨#[]⟩)
    go_wp2_with fail
    rw [put_eq]
    generalize put _ (w.heap.size + 2) (3) (0) (⟨#[]⟩) = wf at f0 f1 f2 hbF ⊢
    refine bodyPost_ret (v := .tuple #[.agg #[.int .i64 (3), .int .i64 (0), .string (⟨#[]⟩)], .int .i64 (0)]) (by simp [results, Try.results54, go_sem, f0, f1, f2]) rfl ?_
    exact ⟨rfl, hbF⟩
  · have hD := fun w => boolValue_spec false w
    go_enter Try.func54, Try.ntmps54
    go_wp2_with fail
    have H := fr_new w 3 0 ⟨#[]⟩ 3 1 ⟨#[]⟩
    generalize (((w.alloc (.cells #[.int .i64 3, .int .i64 0, .string ⟨#[]⟩] 27)).alloc (.cells #[.int .i64 3, .int .i64 1, .string ⟨#[]⟩] 27)).alloc (.cells #[.int .i64 0, .int .i64 0, .string ⟨#[]⟩] 27)) = V at H ⊢
    obtain ⟨ca0, ca1, ca2⟩ := H.a0.cells
    refine (hA _).mono ?_
    rintro e w1 ⟨rfl, hbn1⟩
    replace H := H.next hbn1
    clear hbn1
    clear ca0 ca1 ca2
    obtain ⟨cb0, cb1, cb2⟩ := H.b0.cells
    go_wp2_with fail
    refine (hB _).mono ?_
    rintro e w2 ⟨rfl, hbn2⟩
    replace H := H.next hbn2
    clear hbn2
    clear cb0 cb1 cb2
    go_wp2_with fail
    refine (hD _).mono ?_
    rintro e wd ⟨rfl, hbd⟩
    replace H := H.next hbd
    clear hbd hD
    have H3 := H.next ((Below.refl _ _).alloc (Nat.le_refl _) (.cells #[.int .i64 3, .int .i64 0, .string ⟨#[]⟩] 27))
    have hd : ValAt (wd.alloc (.cells #[.int .i64 3, .int .i64 0, .string ⟨#[]⟩] 27)) wd.heap.size 3 0 ⟨#[]⟩ := heap_alloc_new wd _
    obtain ⟨d0, d1, d2⟩ := hd.cells
    clear hd H
    obtain ⟨ca0, ca1, ca2⟩ := H3.a0.cells
    obtain ⟨cb0, cb1, cb2⟩ := H3.b0.cells
    obtain ⟨z0, z1, z2⟩ := H3.r0.soft
    obtain ⟨g0, g1, g2⟩ := H3.r0.cells
    obtain ⟨f0, f1, f2, hbF⟩ := H3.fin (3) (0) (⟨#[]⟩)
    go_wp2_with fail
    rw [put_eq]
    generalize put _ (w.heap.size + 2) (3) (0) (⟨#[]⟩) = wf at f0 f1 f2 hbF ⊢
    refine bodyPost_ret (v := .tuple #[.agg #[.int .i64 (3), .int .i64 (0), .string (⟨#[]⟩)], .int .i64 (0)]) (by simp [results, Try.results54, go_sem, f0, f1, f2]) rfl ?_
    exact ⟨rfl, hbF⟩
  · have hD := fun w => boolValue_spec false w
    go_enter Try.func54, Try.ntmps54
    go_wp2_with fail
    have H := fr_new w 3 1 ⟨#[]⟩ 0 0 ⟨#[]⟩
    generalize (((w.alloc (.cells #[.int .i64 3, .int .i64 1, .string ⟨#[]⟩] 27)).alloc (.cells #[.int .i64 0, .int .i64 0, .string ⟨#[]⟩] 27)).alloc (.cells #[.int .i64 0, .int .i64 0, .string ⟨#[]⟩] 27)) = V at H ⊢
    obtain ⟨ca0, ca1, ca2⟩ := H.a0.cells
    refine (hA _).mono ?_
    rintro e w1 ⟨rfl, hbn1⟩
    replace H := H.next hbn1
    clear hbn1
    clear ca0 ca1 ca2
    obtain ⟨cb0, cb1, cb2⟩ := H.b0.cells
    go_wp2_with fail
    refine (hB _).mono ?_
    rintro e w2 ⟨rfl, hbn2⟩
    replace H := H.next hbn2
    clear hbn2
    clear cb0 cb1 cb2
    go_wp2_with fail
    refine (hD _).mono ?_
    rintro e wd ⟨rfl, hbd⟩
    replace H := H.next hbd
    clear hbd hD
    have H3 := H.next ((Below.refl _ _).alloc (Nat.le_refl _) (.cells #[.int .i64 3, .int .i64 0, .string ⟨#[]⟩] 27))
    have hd : ValAt (wd.alloc (.cells #[.int .i64 3, .int .i64 0, .string ⟨#[]⟩] 27)) wd.heap.size 3 0 ⟨#[]⟩ := heap_alloc_new wd _
    obtain ⟨d0, d1, d2⟩ := hd.cells
    clear hd H
    obtain ⟨ca0, ca1, ca2⟩ := H3.a0.cells
    obtain ⟨cb0, cb1, cb2⟩ := H3.b0.cells
    have hNa := fun w => null_spec 3 1 ⟨#[]⟩ w
    have hNb := fun w => null_spec 0 0 ⟨#[]⟩ w
    go_wp2_with fail
    generalize wd.alloc (.cells #[.int .i64 3, .int .i64 0, .string ⟨#[]⟩] 27) = VD at H3 d0 d1 d2 ca0 ca1 ca2 cb0 cb1 cb2 ⊢
    have H := H3
    clear H3 d0 d1 d2
    refine (hNa _).mono ?_
    rintro e w3 ⟨rfl, hbn3⟩
    replace H := H.next hbn3
    clear hbn3
    clear ca0 ca1 ca2
    clear cb0 cb1 cb2
    obtain ⟨cb0, cb1, cb2⟩ := H.b0.cells
    go_wp2_with fail
    refine (hNb _).mono ?_
    rintro e w4 ⟨rfl, hbn4⟩
    replace H := H.next hbn4
    clear hbn4
    clear cb0 cb1 cb2
    obtain ⟨z0, z1, z2⟩ := H.r0.soft
    obtain ⟨g0, g1, g2⟩ := H.r0.cells
    obtain ⟨f0, f1, f2, hbF⟩ := H.fin (0) (0) (⟨#[]⟩)
    go_wp2_with fail
    rw [put_eq]
    generalize put _ (w.heap.size + 2) (0) (0) (⟨#[]⟩) = wf at f0 f1 f2 hbF ⊢
    refine bodyPost_ret (v := .tuple #[.agg #[.int .i64 (0), .int .i64 (0), .string (⟨#[]⟩)], .int .i64 (0)]) (by simp [results, Try.results54, go_sem, f0, f1, f2]) rfl ?_
    exact ⟨rfl, hbF⟩
  · have hD := fun w => boolValue_spec false w
    go_enter Try.func54, Try.ntmps54
    go_wp2_with fail
    have H := fr_new w 3 1 ⟨#[]⟩ 3 0 ⟨#[]⟩
    generalize (((w.alloc (.cells #[.int .i64 3, .int .i64 1, .string ⟨#[]⟩] 27)).alloc (.cells #[.int .i64 3, .int .i64 0, .string ⟨#[]⟩] 27)).alloc (.cells #[.int .i64 0, .int .i64 0, .string ⟨#[]⟩] 27)) = V at H ⊢
    obtain ⟨ca0, ca1, ca2⟩ := H.a0.cells
    refine (hA _).mono ?_
    rintro e w1 ⟨rfl, hbn1⟩
    replace H := H.next hbn1
    clear hbn1
    clear ca0 ca1 ca2
    obtain ⟨cb0, cb1, cb2⟩ := H.b0.cells
    go_wp2_with fail
    refine (hB _).mono ?_
    rintro e w2 ⟨rfl, hbn2⟩
    replace H := H.next hbn2
    clear hbn2
    clear cb0 cb1 cb2
    go_wp2_with fail
    refine (hD _).mono ?_
    rintro e wd ⟨rfl, hbd⟩
    replace H := H.next hbd
    clear hbd hD
    have H3 := H.next ((Below.refl _ _).alloc (Nat.le_refl _) (.cells #[.int .i64 3, .int .i64 0, .string ⟨#[]⟩] 27))
    have hd : ValAt (wd.alloc (.cells #[.int .i64 3, .int .i64 0, .string ⟨#[]⟩] 27)) wd.heap.size 3 0 ⟨#[]⟩ := heap_alloc_new wd _
    obtain ⟨d0, d1, d2⟩ := hd.cells
    clear hd H
    obtain ⟨ca0, ca1, ca2⟩ := H3.a0.cells
    obtain ⟨cb0, cb1, cb2⟩ := H3.b0.cells
    obtain ⟨z0, z1, z2⟩ := H3.r0.soft
    obtain ⟨g0, g1, g2⟩ := H3.r0.cells
    obtain ⟨f0, f1, f2, hbF⟩ := H3.fin (3) (0) (⟨#[]⟩)
    go_wp2_with fail
    rw [put_eq]
    generalize put _ (w.heap.size + 2) (3) (0) (⟨#[]⟩) = wf at f0 f1 f2 hbF ⊢
    refine bodyPost_ret (v := .tuple #[.agg #[.int .i64 (3), .int .i64 (0), .string (⟨#[]⟩)], .int .i64 (0)]) (by simp [results, Try.results54, go_sem, f0, f1, f2]) rfl ?_
    exact ⟨rfl, hbF⟩
  · have hD := fun w => boolValue_spec false w
    go_enter Try.func54, Try.ntmps54
    go_wp2_with fail
    have H := fr_new w 3 1 ⟨#[]⟩ 3 1 ⟨#[]⟩
    generalize (((w.alloc (.cells #[.int .i64 3, .int .i64 1, .string ⟨#[]⟩] 27)).alloc (.cells #[.int .i64 3, .int .i64 1, .string ⟨#[]⟩] 27)).alloc (.cells #[.int .i64 0, .int .i64 0, .string ⟨#[]⟩] 27)) = V at H ⊢
    obtain ⟨ca0, ca1, ca2⟩ := H.a0.cells
    refine (hA _).mono ?_
    rintro e w1 ⟨rfl, hbn1⟩
    replace H := H.next hbn1
    clear hbn1
    clear ca0 ca1 ca2
    obtain ⟨cb0, cb1, cb2⟩ := H.b0.cells
    go_wp2_with fail
    refine (hB _).mono ?_
    rintro e w2 ⟨rfl, hbn2⟩
    replace H := H.next hbn2
    clear hbn2
    clear cb0 cb1 cb2
    go_wp2_with fail
    refine (hD _).mono ?_
    rintro e wd ⟨rfl, hbd⟩
    replace H := H.next hbd
    clear hbd hD
    have H3 := H.next ((Below.refl _ _).alloc (Nat.le_refl _) (.cells #[.int .i64 3, .int .i64 0, .string ⟨#[]⟩] 27))
    have hd : ValAt (wd.alloc (.cells #[.int .i64 3, .int .i64 0, .string ⟨#[]⟩] 27)) wd.heap.size 3 0 ⟨#[]⟩ := heap_alloc_new wd _
    obtain ⟨d0, d1, d2⟩ := hd.cells
    clear hd H
    obtain ⟨ca0, ca1, ca2⟩ := H3.a0.cells
    obtain ⟨cb0, cb1, cb2⟩ := H3.b0.cells
    have hNa := fun w => null_spec 3 1 ⟨#[]⟩ w
    have hNb := fun w => null_spec 3 1 ⟨#[]⟩ w
    go_wp2_with fail
    generalize wd.alloc (.cells #[.int .i64 3, .int .i64 0, .string ⟨#[]⟩] 27) = VD at H3 d0 d1 d2 ca0 ca1 ca2 cb0 cb1 cb2 ⊢
    have H := H3
    clear H3 d0 d1 d2
    refine (hNa _).mono ?_
    rintro e w3 ⟨rfl, hbn3⟩
    replace H := H.next hbn3
    clear hbn3
    clear ca0 ca1 ca2
    clear cb0 cb1 cb2
    obtain ⟨cb0, cb1, cb2⟩ := H.b0.cells
    go_wp2_with fail
    refine (hNb _).mono ?_
    rintro e w4 ⟨rfl, hbn4⟩
    replace H := H.next hbn4
    clear hbn4
    clear cb0 cb1 cb2
    have hG := fun w => boolValue_spec true w
    go_wp2_with fail
    refine (hG _).mono ?_
    rintro e w5 ⟨rfl, hbn5⟩
    replace H := H.next hbn5
    clear hbn5
    obtain ⟨z0, z1, z2⟩ := H.r0.soft
    obtain ⟨g0, g1, g2⟩ := H.r0.cells
    obtain ⟨f0, f1, f2, hbF⟩ := H.fin (3) (1) (⟨#[]⟩)
    go_wp2_with fail
    rw [put_eq]
    generalize put _ (w.heap.size + 2) (3) (1) (⟨#[]⟩) = wf at f0 f1 f2 hbF ⊢
    refine bodyPost_ret (v := .tuple #[.agg #[.int .i64 (3), .int .i64 (1), .string (⟨#[]⟩)], .int .i64 (0)]) (by simp [results, Try.results54, go_sem, f0, f1, f2]) rfl ?_
    exact ⟨rfl, hbF⟩
end Go.Proofs.Ytjekhgekldkopaa
