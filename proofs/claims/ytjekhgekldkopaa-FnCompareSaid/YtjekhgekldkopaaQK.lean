/- Joined texts: LogS NumS CalcB CalcS. -/
import Derived.Test.YtjekhgekldkopaaQJ
import Derived.Test.YtjekhgekldkopaaQH
/- The contract of the model's logic. -/
namespace Go.Proofs.Ytjekhgekldkopaa
open Go.RowKit

theorem val_logic {k a : Int} {t : ByteArray} (h : valOk k a t.data.toList = true) (hk : kindIn k 3 = true) : (k = 0 ∧ a = 0 ∨ k = 3 ∧ a = 0 ∨ k = 3 ∧ a = 1) ∧ t = ⟨#[]⟩ := by
  unfold kindIn at hk
  unfold valOk at h
  rw [Bool.or_eq_true] at hk
  rcases hk with hk | hk
  · obtain rfl : k = 3 := by simpa using hk
    simp only [Int.reduceEq, if_false, if_true, Bool.and_eq_true, decide_eq_true_eq] at h
    exact ⟨by omega, ba_of (by rw [h.2])⟩
  · obtain rfl : k = 0 := by simpa using hk
    simp only [if_true, Bool.and_eq_true, decide_eq_true_eq] at h
    exact ⟨.inl ⟨rfl, h.1⟩, ba_of (by rw [h.2])⟩
set_option maxRecDepth 100000 in
set_option maxHeartbeats 8000000 in
theorem logic_spec (op : Int) (k a : Int) (t : ByteArray) (k' a' : Int) (t' : ByteArray) (w : World) (h1 : 1 ≤ op) (h2 : op ≤ 2) (hva : valOk k a t.data.toList = true) (hvb : valOk k' a' t'.data.toList = true) : Calls Try.prog 54 #[.int .i64 op, .agg #[.int .i64 k, .int .i64 a, .string t], .agg #[.int .i64 k', .int .i64 a', .string t']] w (CalcE (if kindIn k 3 && kindIn k' 3 then logicC op k a k' a' else errC 1) w) := by
  have hA := fun w => is_spec k a 3 t w
  have hB := fun w => is_spec k' a' 3 t' w
  cases hx : kindIn k 3
  · rw [hx] at hA
    clear hva hvb hB hx
    show Calls _ _ _ w (CalcE (errC 1) w)
    unfold errC
    go_enter Try.func54, Try.ntmps54
    go_wp2_with fail
    have H := fr_new w k a t k' a' t'
    generalize (((w.alloc (.cells #[.int .i64 k, .int .i64 a, .string t] 27)).alloc (.cells #[.int .i64 k', .int .i64 a', .string t'] 27)).alloc (.cells #[.int .i64 0, .int .i64 0, .string ⟨#[]⟩] 27)) = V at H ⊢
    obtain ⟨ca0, ca1, ca2⟩ := H.a0.cells
    refine (hA _).mono ?_
    rintro e w1 ⟨rfl, hbn1⟩
    replace H := H.next hbn1
    clear hbn1
    clear ca0 ca1 ca2
    obtain ⟨z0, z1, z2⟩ := H.r0.soft
    obtain ⟨g0, g1, g2⟩ := H.r0.cells
    obtain ⟨f0, f1, f2, hbF⟩ := H.fin (0) (0) (⟨#[]⟩)
    go_wp2_with fail
    rw [put_eq]
    generalize put _ (w.heap.size + 2) (0) (0) (⟨#[]⟩) = wf at f0 f1 f2 hbF ⊢
    refine bodyPost_ret (v := .tuple #[.agg #[.int .i64 (0), .int .i64 (0), .string (⟨#[]⟩)], .int .i64 (1)]) (by simp [results, Try.results54, go_sem, f0, f1, f2]) rfl ?_
    exact ⟨rfl, hbF⟩
  cases hy : kindIn k' 3
  · rw [hx] at hA
    rw [hy] at hB
    clear hva hvb hy hx
    show Calls _ _ _ w (CalcE (errC 1) w)
    unfold errC
    go_enter Try.func54, Try.ntmps54
    go_wp2_with fail
    have H := fr_new w k a t k' a' t'
    generalize (((w.alloc (.cells #[.int .i64 k, .int .i64 a, .string t] 27)).alloc (.cells #[.int .i64 k', .int .i64 a', .string t'] 27)).alloc (.cells #[.int .i64 0, .int .i64 0, .string ⟨#[]⟩] 27)) = V at H ⊢
    obtain ⟨ca0, ca1, ca2⟩ := H.a0.cells
    refine (hA _).mono ?_
    rintro e w1 ⟨rfl, hbn1⟩
    replace H := H.next hbn1
    clear hbn1
    clear ca0 ca1 ca2
    obtain ⟨cb0, cb1, cb2⟩ := H.b0.cells
    go_wp2_with fail
    refine (hB _).mono ?_
    rintro e w2 ⟨rfl, hbn2⟩
    replace H := H.next hbn2
    clear hbn2
    clear cb0 cb1 cb2
    obtain ⟨z0, z1, z2⟩ := H.r0.soft
    obtain ⟨g0, g1, g2⟩ := H.r0.cells
    obtain ⟨f0, f1, f2, hbF⟩ := H.fin (0) (0) (⟨#[]⟩)
    go_wp2_with fail
    rw [put_eq]
    generalize put _ (w.heap.size + 2) (0) (0) (⟨#[]⟩) = wf at f0 f1 f2 hbF ⊢
    refine bodyPost_ret (v := .tuple #[.agg #[.int .i64 (0), .int .i64 (0), .string (⟨#[]⟩)], .int .i64 (1)]) (by simp [results, Try.results54, go_sem, f0, f1, f2]) rfl ?_
    exact ⟨rfl, hbF⟩
  rw [hx] at hA
  rw [hy] at hB
  obtain ⟨hka, rfl⟩ := val_logic hva hx
  obtain ⟨hkb, rfl⟩ := val_logic hvb hy
  clear hva hvb hx hy
  have hop : op = 1 ∨ op = 2 := by omega
  clear h1 h2
  rcases hop with rfl | rfl <;> rcases hka with ⟨rfl, rfl⟩ | ⟨rfl, rfl⟩ | ⟨rfl, rfl⟩ <;> rcases hkb with ⟨rfl, rfl⟩ | ⟨rfl, rfl⟩ | ⟨rfl, rfl⟩
  · have hD := fun w => boolValue_spec true w
    go_enter Try.func54, Try.ntmps54
    go_wp2_with fail
    have H := fr_new w 0 0 ⟨#[]⟩ 0 0 ⟨#[]⟩
    generalize (((w.alloc (.cells #[.int .i64 0, .int .i64 0, .string ⟨#[]⟩] 27)).alloc (.cells #[.int .i64 0, .int .i64 0, .string ⟨#[]⟩] 27)).alloc (.cells #[.int .i64 0, .int .i64 0, .string ⟨#[]⟩] 27)) = V at H ⊢
    obtain ⟨ca0, ca1, ca2⟩ := H.a0.cells
    refine (hA _).mono ?_
    rintro e w1 ⟨rfl, hbn1⟩
    replace H := H.next hbn1
    clear hbn1
    clear ca0 ca1 ca2
    obtain ⟨cb0, cb1, cb2⟩ := H.b0.cells
    go_wp2_with fail
    refine (hB _).mono ?_
    rintro e w2 ⟨rfl, hbn2⟩
    replace H := H.next hbn2
    clear hbn2
    clear cb0 cb1 cb2
    go_wp2_with fail
    refine (hD _).mono ?_
    rintro e wd ⟨rfl, hbd⟩
    replace H := H.next hbd
    clear hbd hD
    have H3 := H.next ((Below.refl _ _).alloc (Nat.le_refl _) (.cells #[.int .i64 3, .int .i64 1, .string ⟨#[]⟩] 27))
    have hd : ValAt (wd.alloc (.cells #[.int .i64 3, .int .i64 1, .string ⟨#[]⟩] 27)) wd.heap.size 3 1 ⟨#[]⟩ := heap_alloc_new wd _
    obtain ⟨d0, d1, d2⟩ := hd.cells
    clear hd H
    obtain ⟨ca0, ca1, ca2⟩ := H3.a0.cells
    obtain ⟨cb0, cb1, cb2⟩ := H3.b0.cells
    have hNa := fun w => null_spec 0 0 ⟨#[]⟩ w
    have hNb := fun w => null_spec 0 0 ⟨#[]⟩ w
    go_wp2_with fail
    generalize wd.alloc (.cells #[.int .i64 3, .int .i64 1, .string ⟨#[]⟩] 27) = VD at H3 d0 d1 d2 ca0 ca1 ca2 cb0 cb1 cb2 ⊢
    have H := H3
    clear H3 d0 d1 d2
    refine (hNa _).mono ?_
    rintro e w3 ⟨rfl, hbn3⟩
    replace H := H.next hbn3
    clear hbn3
    clear ca0 ca1 ca2
    clear cb0 cb1 cb2
    obtain ⟨z0, z1, z2⟩ := H.r0.soft
    obtain ⟨g0, g1, g2⟩ := H.r0.cells
    obtain ⟨f0, f1, f2, hbF⟩ := H.fin (0) (0) (⟨#[]⟩)
    go_wp2_with fail
    rw [put_eq]
    generalize put _ (w.heap.size + 2) (0) (0) (⟨#[]⟩) = wf at f0 f1 f2 hbF ⊢
    refine bodyPost_ret (v := .tuple #[.agg #[.int .i64 (0), .int .i64 (0), .string (⟨#[]⟩)], .int .i64 (0)]) (by simp [results, Try.results54, go_sem, f0, f1, f2]) rfl ?_
    exact ⟨rfl, hbF⟩
  · have hD := fun w => boolValue_spec true w
    go_enter Try.func54, Try.ntmps54
    go_wp2_with fail
    have H := fr_new w 0 0 ⟨#[]⟩ 3 0 ⟨#[]⟩
    generalize (((w.alloc (.cells #[.int .i64 0, .int .i64 0, .string ⟨#[]⟩] 27)).alloc (.cells #[.int .i64 3, .int .i64 0, .string ⟨#[]⟩] 27)).alloc (.cells #[.int .i64 0, .int .i64 0, .string ⟨#[]⟩] 27)) = V at H ⊢
    obtain ⟨ca0, ca1, ca2⟩ := H.a0.cells
    refine (hA _).mono ?_
    rintro e w1 ⟨rfl, hbn1⟩
    replace H := H.next hbn1
    clear hbn1
    clear ca0 ca1 ca2
    obtain ⟨cb0, cb1, cb2⟩ := H.b0.cells
    go_wp2_with fail
    refine (hB _).mono ?_
    rintro e w2 ⟨rfl, hbn2⟩
    replace H := H.next hbn2
    clear hbn2
    clear cb0 cb1 cb2
    go_wp2_with fail
    refine (hD _).mono ?_
    rintro e wd ⟨rfl, hbd⟩
    replace H := H.next hbd
    clear hbd hD
    have H3 := H.next ((Below.refl _ _).alloc (Nat.le_refl _) (.cells #[.int .i64 3, .int .i64 1, .string ⟨#[]⟩] 27))
    have hd : ValAt (wd.alloc (.cells #[.int .i64 3, .int .i64 1, .string ⟨#[]⟩] 27)) wd.heap.size 3 1 ⟨#[]⟩ := heap_alloc_new wd _
    obtain ⟨d0, d1, d2⟩ := hd.cells
    clear hd H
    obtain ⟨ca0, ca1, ca2⟩ := H3.a0.cells
    obtain ⟨cb0, cb1, cb2⟩ := H3.b0.cells
    have hNa := fun w => null_spec 0 0 ⟨#[]⟩ w
    have hNb := fun w => null_spec 3 0 ⟨#[]⟩ w
    go_wp2_with fail
    generalize wd.alloc (.cells #[.int .i64 3, .int .i64 1, .string ⟨#[]⟩] 27) = VD at H3 d0 d1 d2 ca0 ca1 ca2 cb0 cb1 cb2 ⊢
    have H := H3
    clear H3 d0 d1 d2
    refine (hNa _).mono ?_
    rintro e w3 ⟨rfl, hbn3⟩
    replace H := H.next hbn3
    clear hbn3
    clear ca0 ca1 ca2
    clear cb0 cb1 cb2
    obtain ⟨z0, z1, z2⟩ := H.r0.soft
    obtain ⟨g0, g1, g2⟩ := H.r0.cells
    obtain ⟨f0, f1, f2, hbF⟩ := H.fin (0) (0) (⟨#[]⟩)
    go_wp2_with fail
    rw [put_eq]
    generalize put _ (w.heap.size + 2) (0) (0) (⟨#[]⟩) = wf at f0 f1 f2 hbF ⊢
    refine bodyPost_ret (v := .tuple #[.agg #[.int .i64 (0), .int .i64 (0), .string (⟨#[]⟩)], .int .i64 (0)]) (by simp [results, Try.results54, go_sem, f0, f1, f2]) rfl ?_
    exact ⟨rfl, hbF⟩
  · have hD := fun w => boolValue_spec true w
    go_enter Try.func54, Try.ntmps54
    go_wp2_with fail
    have H := fr_new w 0 0 ⟨#[]⟩ 3 1 ⟨#[]⟩
    generalize (((w.alloc (.cells #[.int .i64 0, .int .i64 0, .string ⟨#[]⟩] 27)).alloc (.cells #[.int .i64 3, .int .i64 1, .string ⟨#[]⟩] 27)).alloc (.cells #[.int .i64 0, .int .i64 0, .string ⟨#[]⟩] 27)) = V at H ⊢
    obtain ⟨ca0, ca1, ca2⟩ := H.a0.cells
    refine (hA _).mono ?_
    rintro e w1 ⟨rfl, hbn1⟩
    replace H := H.next hbn1
    clear hbn1
    clear ca0 ca1 ca2
    obtain ⟨cb0, cb1, cb2⟩ := H.b0.cells
    go_wp2_with fail
    refine (hB _).mono ?_
    rintro e w2 ⟨rfl, hbn2⟩
    replace H := H.next hbn2
    clear hbn2
    clear cb0 cb1 cb2
    go_wp2_with fail
    refine (hD _).mono ?_
    rintro e wd ⟨rfl, hbd⟩
    replace H := H.next hbd
    clear hbd hD
    have H3 := H.next ((Below.refl _ _).alloc (Nat.le_refl _) (.cells #[.int .i64 3, .int .i64 1, .string ⟨#[]⟩] 27))
    have hd : ValAt (wd.alloc (.cells #[.int .i64 3, .int .i64 1, .string ⟨#[]⟩] 27)) wd.heap.size 3 1 ⟨#[]⟩ := heap_alloc_new wd _
    obtain ⟨d0, d1, d2⟩ := hd.cells
    clear hd H
    obtain ⟨ca0, ca1, ca2⟩ := H3.a0.cells
    obtain ⟨cb0, cb1, cb2⟩ := H3.b0.cells
    obtain ⟨z0, z1, z2⟩ := H3.r0.soft
    obtain ⟨g0, g1, g2⟩ := H3.r0.cells
    obtain ⟨f0, f1, f2, hbF⟩ := H3.fin (3) (1) (⟨#[]⟩)
    go_wp2_with fail
    rw [put_eq]
    generalize put _ (w.heap.size + 2) (3) (1) (⟨#[]⟩) = wf at f0 f1 f2 hbF ⊢
    refine bodyPost_ret (v := .tuple #[.agg #[.int .i64 (3), .int .i64 (1), .string (⟨#[]⟩)], .int .i64 (0)]) (by simp [results, Try.results54, go_sem, f0, f1, f2]) rfl ?_
    exact ⟨rfl, hbF⟩
  · have hD := fun w => boolValue_spec true w
    go_enter Try.func54, Try.ntmps54
    go_wp2_with fail
    have H := fr_new w 3 0 ⟨#[]⟩ 0 0 ⟨#[]⟩
    generalize (((w.alloc (.cells #[.int .i64 3, .int .i64 0, .string ⟨#[]⟩] 27)).alloc (.cells #[.int .i64 0, .int .i64 0, .string ⟨#[]⟩] 27)).alloc (.cells #[.int .i64 0, .int .i64 0, .string ⟨#[]⟩] 27)) = V at H ⊢
    obtain ⟨ca0, ca1, ca2⟩ := H.a0.cells
    refine (hA _).mono ?_
    rintro e w1 ⟨rfl, hbn1⟩
    replace H := H.next hbn1
    clear hbn1
    clear ca0 ca1 ca2
    obtain ⟨cb0, cb1, cb2⟩ := H.b0.cells
    go_wp2_with fail
    refine (hB _).mono ?_
    rintro e w2 ⟨rfl, hbn2⟩
    replace H := H.next hbn2
    clear hbn2
    clear cb0 cb1 cb2
    go_wp2_with fail
    refine (hD _).mono ?_
    rintro e wd ⟨rfl, hbd⟩
    replace H := H.next hbd
    clear hbd hD
    have H3 := H.next ((Below.refl _ _).alloc (Nat.le_refl _) (.cells #[.int .i64 3, .int .i64 1, .string ⟨#[]⟩] 27))
    have hd : ValAt (wd.alloc (.cells #[.int .i64 3, .int .i64 1, .string ⟨#[]⟩] 27)) wd.heap.size 3 1 ⟨#[]⟩ := heap_alloc_new wd _
    obtain ⟨d0, d1, d2⟩ := hd.cells
    clear hd H
    obtain ⟨ca0, ca1, ca2⟩ := H3.a0.cells
    obtain ⟨cb0, cb1, cb2⟩ := H3.b0.cells
    have hNa := fun w => null_spec 3 0 ⟨#[]⟩ w
    have hNb := fun w => null_spec 0 0 ⟨#[]⟩ w
    go_wp2_with fail
    generalize wd.alloc (.cells #[.int .i64 3, .int .i64 1, .string ⟨#[]⟩] 27) = VD at H3 d0 d1 d2 ca0 ca1 ca2 cb0 cb1 cb2 ⊢
    have H := H3
    clear H3 d0 d1 d2
    refine (hNa _).mono ?_
    rintro e w3 ⟨rfl, hbn3⟩
    replace H := H.next hbn3
    clear hbn3
    clear ca0 ca1 ca2
    clear cb0 cb1 cb2
    obtain ⟨cb0, cb1, cb2⟩ := H.b0.cells
    go_wp2_with fail
    refine (hNb _).mono ?_
    rintro e w4 ⟨rfl, hbn4⟩
    replace H := H.next hbn4
    clear hbn4
    clear cb0 cb1 cb2
    obtain ⟨z0, z1, z2⟩ := H.r0.soft
    obtain ⟨g0, g1, g2⟩ := H.r0.cells
    obtain ⟨f0, f1, f2, hbF⟩ := H.fin (0) (0) (⟨#[]⟩)
    go_wp2_with fail
    rw [put_eq]
    generalize put _ (w.heap.size + 2) (0) (0) (⟨#[]⟩) = wf at f0 f1 f2 hbF ⊢
    refine bodyPost_ret (v := .tuple #[.agg #[.int .i64 (0), .int .i64 (0), .string (⟨#[]⟩)], .int .i64 (0)]) (by simp [results, Try.results54, go_sem, f0, f1, f2]) rfl ?_
    exact ⟨rfl, hbF⟩
  · have hD := fun w => boolValue_spec true w
    go_enter Try.func54, Try.ntmps54
    go_wp2_with fail
    have H := fr_new w 3 0 ⟨#[]⟩ 3 0 ⟨#[]⟩
    generalize (((w.alloc (.cells #[.int .i64 3, .int .i64 0, .string ⟨#[]⟩] 27)).alloc (.cells #[.int .i64 3, .int .i64 0, .string ⟨#[]⟩] 27)).alloc (.cells #[.int .i64 0, .int .i64 0, .string ⟨#[]⟩] 27)) = V at H ⊢
    obtain ⟨ca0, ca1, ca2⟩ := H.a0.cells
    refine (hA _).mono ?_
    rintro e w1 ⟨rfl, hbn1⟩
    replace H := H.next hbn1
    clear hbn1
    clear ca0 ca1 ca2
    obtain ⟨cb0, cb1, cb2⟩ := H.b0.cells
    go_wp2_with fail
    refine (hB _).mono ?_
    rintro e w2 ⟨rfl, hbn2⟩
    replace H := H.next hbn2
    clear hbn2
    clear cb0 cb1 cb2
    go_wp2_with fail
    refine (hD _).mono ?_
    rintro e wd ⟨rfl, hbd⟩
    replace H := H.next hbd
    clear hbd hD
    have H3 := H.next ((Below.refl _ _).alloc (Nat.le_refl _) (.cells #[.int .i64 3, .int .i64 1, .string ⟨#[]⟩] 27))
    have hd : ValAt (wd.alloc (.cells #[.int .i64 3, .int .i64 1, .string ⟨#[]⟩] 27)) wd.heap.size 3 1 ⟨#[]⟩ := heap_alloc_new wd _
    obtain ⟨d0, d1, d2⟩ := hd.cells
    clear hd H
    obtain ⟨ca0, ca1, ca2⟩ := H3.a0.cells
    obtain ⟨cb0, cb1, cb2⟩ := H3.b0.cells
    have hNa := fun w => null_spec 3 0 ⟨#[]⟩ w
    have hNb := fun w => null_spec 3 0 ⟨#[]⟩ w
    go_wp2_with fail
    generalize wd.alloc (.cells #[.int .i64 3, .int .i64 1, .string ⟨#[]⟩] 27) = VD at H3 d0 d1 d2 ca0 ca1 ca2 cb0 cb1 cb2 ⊢
    have H := H3
    clear H3 d0 d1 d2
    refine (hNa _).mono ?_
    rintro e w3 ⟨rfl, hbn3⟩
    replace H := H.next hbn3
    clear hbn3
    clear ca0 ca1 ca2
    clear cb0 cb1 cb2
    obtain ⟨cb0, cb1, cb2⟩ := H.b0.cells
    go_wp2_with fail
    refine (hNb _).mono ?_
    rintro e w4 ⟨rfl, hbn4⟩
    replace H := H.next hbn4
    clear hbn4
    clear cb0 cb1 cb2
    have hG := fun w => boolValue_spec false w
    go_wp2_with fail
    refine (hG _).mono ?_
    rintro e w5 ⟨rfl, hbn5⟩
    replace H := H.next hbn5
    clear hbn5
    obtain ⟨z0, z1, z2⟩ := H.r0.soft
    obtain ⟨g0, g1, g2⟩ := H.r0.cells
    obtain ⟨f0, f1, f2, hbF⟩ := H.fin (3) (0) (⟨#[]⟩)
    go_wp2_with fail
    rw [put_eq]
    generalize put _ (w.heap.size + 2) (3) (0) (⟨#[]⟩) = wf at f0 f1 f2 hbF ⊢
    refine bodyPost_ret (v := .tuple #[.agg #[.int .i64 (3), .int .i64 (0), .string (⟨#[]⟩)], .int .i64 (0)]) (by simp [results, Try.results54, go_sem, f0, f1, f2]) rfl ?_
    exact ⟨rfl, hbF⟩
  · have hD := fun w => boolValue_spec true w
    go_enter Try.func54, Try.ntmps54
    go_wp2_with fail
    have H := fr_new w 3 0 ⟨#[]⟩ 3 1 ⟨#[]⟩
    generalize (((w.alloc (.cells #[.int .i64 3, .int .i64 0, .string ⟨#[]⟩] 27)).alloc (.cells #[.int .i64 3, .int .i64 1, .string ⟨#[]⟩] 27)).alloc (.cells #[.int .i64 0, .int .i64 0, .string ⟨#[]⟩] 27)) = V at H ⊢
    obtain ⟨ca0, ca1, ca2⟩ := H.a0.cells
    refine (hA _).mono ?_
    rintro e w1 ⟨rfl, hbn1⟩
    replace H := H.next hbn1
    clear hbn1
    clear ca0 ca1 ca2
    obtain ⟨cb0, cb1, cb2⟩ := H.b0.cells
    go_wp2_with fail
    refine (hB _).mono ?_
    rintro e w2 ⟨rfl, hbn2⟩
    replace H := H.next hbn2
    clear hbn2
    clear cb0 cb1 cb2
    go_wp2_with fail
    refine (hD _).mono ?_
    rintro e wd ⟨rfl, hbd⟩
    replace H := H.next hbd
    clear hbd hD
    have H3 := H.next ((Below.refl _ _).alloc (Nat.le_refl _) (.cells #[.int .i64 3, .int .i64 1, .string ⟨#[]⟩] 27))
    have hd : ValAt (wd.alloc (.cells #[.int .i64 3, .int .i64 1, .string ⟨#[]⟩] 27)) wd.heap.size 3 1 ⟨#[]⟩ := heap_alloc_new wd _
    obtain ⟨d0, d1, d2⟩ := hd.cells
    clear hd H
    obtain ⟨ca0, ca1, ca2⟩ := H3.a0.cells
    obtain ⟨cb0, cb1, cb2⟩ := H3.b0.cells
    obtain ⟨z0, z1, z2⟩ := H3.r0.soft
    obtain ⟨g0, g1, g2⟩ := H3.r0.cells
    obtain ⟨f0, f1, f2, hbF⟩ := H3.fin (3) (1) (⟨#[]⟩)
    go_wp2_with fail
    rw [put_eq]
    generalize put _ (w.heap.size + 2) (3) (1) (⟨#[]⟩) = wf at f0 f1 f2 hbF ⊢
    refine bodyPost_ret (v := .tuple #[.agg #[.int .i64 (3), .int .i64 (1), .string (⟨#[]⟩)], .int .i64 (0)]) (by simp [results, Try.results54, go_sem, f0, f1, f2]) rfl ?_
    exact ⟨rfl, hbF⟩
  · have hD := fun w => boolValue_spec true w
    go_enter Try.func54, Try.ntmps54
    go_wp2_with fail
    have H := fr_new w 3 1 ⟨#[]⟩ 0 0 ⟨#[]⟩
    generalize (((w.alloc (.cells #[.int .i64 3, .int .i64 1, .string ⟨#[]⟩] 27)).alloc (.cells #[.int .i64 0, .int .i64 0, .string ⟨#[]⟩] 27)).alloc (.cells #[.int .i64 0, .int .i64 0, .string ⟨#[]⟩] 27)) = V at H ⊢
    obtain ⟨ca0, ca1, ca2⟩ := H.a0.cells
    refine (hA _).mono ?_
    rintro e w1 ⟨rfl, hbn1⟩
    replace H := H.next hbn1
    clear hbn1
    clear ca0 ca1 ca2
    obtain ⟨cb0, cb1, cb2⟩ := H.b0.cells
    go_wp2_with fail
    refine (hB _).mono ?_
    rintro e w2 ⟨rfl, hbn2⟩
    replace H := H.next hbn2
    clear hbn2
    clear cb0 cb1 cb2
    go_wp2_with fail
    refine (hD _).mono ?_
    rintro e wd ⟨rfl, hbd⟩
    replace H := H.next hbd
    clear hbd hD
    have H3 := H.next ((Below.refl _ _).alloc (Nat.le_refl _) (.cells #[.int .i64 3, .int .i64 1, .string ⟨#[]⟩] 27))
    have hd : ValAt (wd.alloc (.cells #[.int .i64 3, .int .i64 1, .string ⟨#[]⟩] 27)) wd.heap.size 3 1 ⟨#[]⟩ := heap_alloc_new wd _
    obtain ⟨d0, d1, d2⟩ := hd.cells
    clear hd H
    obtain ⟨ca0, ca1, ca2⟩ := H3.a0.cells
    obtain ⟨cb0, cb1, cb2⟩ := H3.b0.cells
    obtain ⟨z0, z1, z2⟩ := H3.r0.soft
    obtain ⟨g0, g1, g2⟩ := H3.r0.cells
    obtain ⟨f0, f1, f2, hbF⟩ := H3.fin (3) (1) (⟨#[]⟩)
    go_wp2_with fail
    rw [put_eq]
    generalize put _ (w.heap.size + 2) (3) (1) (⟨#[]⟩) = wf at f0 f1 f2 hbF ⊢
    refine bodyPost_ret (v := .tuple #[.agg #[.int .i64 (3), .int .i64 (1), .string (⟨#[]⟩)], .int .i64 (0)]) (by simp [results, Try.results54, go_sem, f0, f1, f2]) rfl ?_
    exact ⟨rfl, hbF⟩
  · have hD := fun w => boolValue_spec true w
    go_enter Try.func54, Try.ntmps54
    go_wp2_with fail
    have H := fr_new w 3 1 ⟨#[]⟩ 3 0 ⟨#[]⟩
    generalize (((w.alloc (.cells #[.int .i64 3, .int .i64 1, .string ⟨#[]⟩] 27)).alloc (.cells #[.int .i64 3, .int .i64 0, .string ⟨#[]⟩] 27)).alloc (.cells #[.int .i64 0, .int .i64 0, .string ⟨#[]⟩] 27)) = V at H ⊢
    obtain ⟨ca0, ca1, ca2⟩ := H.a0.cells
    refine (hA _).mono ?_
    rintro e w1 ⟨rfl, hbn1⟩
    replace H := H.next hbn1
    clear hbn1
    clear ca0 ca1 ca2
    obtain ⟨cb0, cb1, cb2⟩ := H.b0.cells
    go_wp2_with fail
    refine (hB _).mono ?_
    rintro e w2 ⟨rfl, hbn2⟩
    replace H := H.next hbn2
    clear hbn2
    clear cb0 cb1 cb2
    go_wp2_with fail
    refine (hD _).mono ?_
    rintro e wd ⟨rfl, hbd⟩
    replace H := H.next hbd
    clear hbd hD
    have H3 := H.next ((Below.refl _ _).alloc (Nat.le_refl _) (.cells #[.int .i64 3, .int .i64 1, .string ⟨#[]⟩] 27))
    have hd : ValAt (wd.alloc (.cells #[.int .i64 3, .int .i64 1, .string ⟨#[]⟩] 27)) wd.heap.size 3 1 ⟨#[]⟩ := heap_alloc_new wd _
    obtain ⟨d0, d1, d2⟩ := hd.cells
    clear hd H
    obtain ⟨ca0, ca1, ca2⟩ := H3.a0.cells
    obtain ⟨cb0, cb1, cb2⟩ := H3.b0.cells
    obtain ⟨z0, z1, z2⟩ := H3.r0.soft
    obtain ⟨g0, g1, g2⟩ := H3.r0.cells
    obtain ⟨f0, f1, f2, hbF⟩ := H3.fin (3) (1) (⟨#[]⟩)
    go_wp2_with fail
    rw [put_eq]
    generalize put _ (w.heap.size + 2) (3) (1) (⟨#[]⟩) = wf at f0 f1 f2 hbF ⊢
    refine bodyPost_ret (v := .tuple #[.agg #[.int .i64 (3), .int .i64 (1), .string (⟨#[]⟩)], .int .i64 (0)]) (by simp [results, Try.results54, go_sem, f0, f1, f2]) rfl ?_
    exact ⟨rfl, hbF⟩
  · have hD := fun w => boolValue_spec true w
    go_enter Try.func54, Try.ntmps54
    go_wp2_with fail
    have H := fr_new w 3 1 ⟨#[]⟩ 3 1 ⟨#[]⟩
    generalize (((w.alloc (.cells #[.int .i64 3, .int .i64 1, .string ⟨#[]⟩] 27)).alloc (.cells #[.int .i64 3, .int .i64 1, .string ⟨#[]⟩] 27)).alloc (.cells #[.int .i64 0, .int .i64 0, .string ⟨#[]⟩] 27)) = V at H ⊢
    obtain ⟨ca0, ca1, ca2⟩ := H.a0.cells
    refine (hA _).mono ?_
    rintro e w1 ⟨rfl, hbn1⟩
    replace H := H.next hbn1
    clear hbn1
    clear ca0 ca1 ca2
    obtain ⟨cb0, cb1, cb2⟩ := H.b0.cells
    go_wp2_with fail
    refine (hB _).mono ?_
    rintro e w2 ⟨rfl, hbn2⟩
    replace H := H.next hbn2
    clear hbn2
    clear cb0 cb1 cb2
    go_wp2_with fail
    refine (hD _).mono ?_
    rintro e wd ⟨rfl, hbd⟩
    replace H := H.next hbd
    clear hbd hD
    have H3 := H.next ((Below.refl _ _).alloc (Nat.le_refl _) (.cells #[.int .i64 3, .int .i64 1, .string ⟨#[]⟩] 27))
    have hd : ValAt (wd.alloc (.cells #[.int .i64 3, .int .i64 1, .string ⟨#[]⟩] 27)) wd.heap.size 3 1 ⟨#[]⟩ := heap_alloc_new wd _
    obtain ⟨d0, d1, d2⟩ := hd.cells
    clear hd H
    obtain ⟨ca0, ca1, ca2⟩ := H3.a0.cells
    obtain ⟨cb0, cb1, cb2⟩ := H3.b0.cells
    obtain ⟨z0, z1, z2⟩ := H3.r0.soft
    obtain ⟨g0, g1, g2⟩ := H3.r0.cells
    obtain ⟨f0, f1, f2, hbF⟩ := H3.fin (3) (1) (⟨#[]⟩)
    go_wp2_with fail
    rw [put_eq]
    generalize put _ (w.heap.size + 2) (3) (1) (⟨#[]⟩) = wf at f0 f1 f2 hbF ⊢
    refine bodyPost_ret (v := .tuple #[.agg #[.int .i64 (3), .int .i64 (1), .string (⟨#[]⟩)], .int .i64 (0)]) (by simp [results, Try.results54, go_sem, f0, f1, f2]) rfl ?_
    exact ⟨rfl, hbF⟩
  · have hD := fun w => boolValue_spec false w
    go_enter Try.func54, Try.ntmps54
    go_wp2_with fail
    have H := fr_new w 0 0 ⟨#[]⟩ 0 0 ⟨#[]⟩
    generalize (((w.alloc (.cells #[.int .i64 0, .int .i64 0, .string ⟨#[]⟩] 27)).alloc (.cells #[.int .i64 0, .int .i64 0, .string ⟨#[]⟩] 27)).alloc (.cells #[.int .i64 0, .int .i64 0, .string ⟨#[]⟩] 27)) = V at H ⊢
    obtain ⟨ca0, ca1, ca2⟩ := H.a0.cells
    refine (hA _).mono ?_
    rintro e w1 ⟨rfl, hbn1⟩
    replace H := H.next hbn1
    clear hbn1
    clear ca0 ca1 ca2
    obtain ⟨cb0, cb1, cb2⟩ := H.b0.cells
    go_wp2_with fail
    refine (hB _).mono ?_
    rintro e w2 ⟨rfl, hbn2⟩
    replace H := H.next hbn2
    clear hbn2
    clear cb0 cb1 cb2
    go_wp2_with fail
    refine (hD _).mono ?_
    rintro e wd ⟨rfl, hbd⟩
    replace H := H.next hbd
    clear hbd hD
    have H3 := H.next ((Below.refl _ _).alloc (Nat.le_refl _) (.cells #[.int .i64 3, .int .i64 0, .string ⟨#[]⟩] 27))
    have hd : ValAt (wd.alloc (.cells #[.int .i64 3, .int .i64 0, .string ⟨#[]⟩] 27)) wd.heap.size 3 0 ⟨#[]⟩ := heap_alloc_new wd _
    obtain ⟨d0, d1, d2⟩ := hd.cells
    clear hd H
    obtain ⟨ca0, ca1, ca2⟩ := H3.a0.cells
    obtain ⟨cb0, cb1, cb2⟩ := H3.b0.cells
    have hNa := fun w => null_spec 0 0 ⟨#[]⟩ w
    have hNb := fun w => null_spec 0 0 ⟨#[]⟩ w
    go_wp2_with fail
    generalize wd.alloc (.cells #[.int .i64 3, .int .i64 0, .string ⟨#[]⟩] 27) = VD at H3 d0 d1 d2 ca0 ca1 ca2 cb0 cb1 cb2 ⊢
    have H := H3
    clear H3 d0 d1 d2
    refine (hNa _).mono ?_
    rintro e w3 ⟨rfl, hbn3⟩
    replace H := H.next hbn3
    clear hbn3
    clear ca0 ca1 ca2
    clear cb0 cb1 cb2
    obtain ⟨z0, z1, z2⟩ := H.r0.soft
    obtain ⟨g0, g1, g2⟩ := H.r0.cells
    obtain ⟨f0, f1, f2, hbF⟩ := H.fin (0) (0) (⟨#[]⟩)
    go_wp2_with fail
    rw [put_eq]
    generalize put _ (w.heap.size + 2) (0) (0) (⟨#[]⟩) = wf at f0 f1 f2 hbF ⊢
    refine bodyPost_ret (v := .tuple #[.agg #[.int .i64 (0), .int .i64 (0), .string (⟨#[]⟩)], .int .i64 (0)]) (by simp [results, Try.results54, go_sem, f0, f1, f2]) rfl ?_
    exact ⟨rfl, hbF⟩
  · have hD := fun w => boolValue_spec false w
    go_enter Try.func54, Try.ntmps54
    go_wp2_with fail
    have H := fr_new w 0 0 ⟨#[]⟩ 3 0 ⟨#[]⟩
    generalize (((w.alloc (.cells #[.int .i64 0, .int .i64 0, .string ⟨#[]⟩] 27)).alloc (.cells #[.int .i64 3, .int .i64 0, .string ⟨#[]⟩] 27)).alloc (.cells #[.int .i64 0, .int .i64 0, .string ⟨#[]⟩] 27)) = V at H ⊢
    obtain ⟨ca0, ca1, ca2⟩ := H.a0.cells
    refine (hA _).mono ?_
    rintro e w1 ⟨rfl, hbn1⟩
    replace H := H.next hbn1
    clear hbn1
    clear ca0 ca1 ca2
    obtain ⟨cb0, cb1, cb2⟩ := H.b0.cells
    go_wp2_with fail
    refine (hB _).mono ?_
    rintro e w2 ⟨rfl, hbn2⟩
    replace H := H.next hbn2
    clear hbn2
    clear cb0 cb1 cb2
    go_wp2_with fail
    refine (hD _).mono ?_
    rintro e wd ⟨rfl, hbd⟩
    replace H := H.next hbd
    clear hbd hD
    have H3 := H.next ((Below.refl _ _).alloc (Nat.le_refl _) (.cells #[.int .i64 3, .int .i64 0, .string ⟨#[]⟩] 27))
    have hd : ValAt (wd.alloc (.cells #[.int .i64 3, .int .i64 0, .string ⟨#[]⟩] 27)) wd.heap.size 3 0 ⟨#[]⟩ := heap_alloc_new wd _
    obtain ⟨d0, d1, d2⟩ := hd.cells
    clear hd H
    obtain ⟨ca0, ca1, ca2⟩ := H3.a0.cells
    obtain ⟨cb0, cb1, cb2⟩ := H3.b0.cells
    obtain ⟨z0, z1, z2⟩ := H3.r0.soft
    obtain ⟨g0, g1, g2⟩ := H3.r0.cells
    obtain ⟨f0, f1, f2, hbF⟩ := H3.fin (3) (0) (⟨#[]⟩)
    go_wp2_with fail
    rw [put_eq]
    generalize put _ (w.heap.size + 2) (3) (0) (⟨#[]⟩) = wf at f0 f1 f2 hbF ⊢
    refine bodyPost_ret (v := .tuple #[.agg #[.int .i64 (3), .int .i64 (0), .string (⟨#[]⟩)], .int .i64 (0)]) (by simp [results, Try.results54, go_sem, f0, f1, f2]) rfl ?_
    exact ⟨rfl, hbF⟩
  · have hD := fun w => boolValue_spec false w
    go_enter Try.func54, Try.ntmps54
    go_wp2_with fail
    have H := fr_new w 0 0 ⟨#[]⟩ 3 1 ⟨#[]⟩
    generalize (((w.alloc (.cells #[.int .i64 0, .int .i64 0, .string ⟨#[]⟩] 27)).alloc (.cells #[.int .i64 3, .int .i64 1, .string ⟨#[]⟩] 27)).alloc (.cells #[.int .i64 0, .int .i64 0, .string ⟨#[]⟩] 27)) = V at H ⊢
    obtain ⟨ca0, ca1, ca2⟩ := H.a0.cells
    refine (hA _).mono ?_
    rintro e w1 ⟨rfl, hbn1⟩
    replace H := H.next hbn1
    clear hbn1
    clear ca0 ca1 ca2
    obtain ⟨cb0, cb1, cb2⟩ := H.b0.cells
    go_wp2_with fail
    refine (hB _).mono ?_
    rintro e w2 ⟨rfl, hbn2⟩
    replace H := H.next hbn2
    clear hbn2
    clear cb0 cb1 cb2
    go_wp2_with fail
    refine (hD _).mono ?_
    rintro e wd ⟨rfl, hbd⟩
    replace H := H.next hbd
    clear hbd hD
    have H3 := H.next ((Below.refl _ _).alloc (Nat.le_refl _) (.cells #[.int .i64 3, .int .i64 0, .string ⟨#[]⟩] 27))
    have hd : ValAt (wd.alloc (.cells #[.int .i64 3, .int .i64 0, .string ⟨#[]⟩] 27)) wd.heap.size 3 0 ⟨#[]⟩ := heap_alloc_new wd _
    obtain ⟨d0, d1, d2⟩ := hd.cells
    clear hd H
    obtain ⟨ca0, ca1, ca2⟩ := H3.a0.cells
    obtain ⟨cb0, cb1, cb2⟩ := H3.b0.cells
    have hNa := fun w => null_spec 0 0 ⟨#[]⟩ w
    have hNb := fun w => null_spec 3 1 ⟨#[]⟩ w
    go_wp2_with fail
    generalize wd.alloc (.cells #[.int .i64 3, .int .i64 0, .string ⟨#[]⟩] 27) = VD at H3 d0 d1 d2 ca0 ca1 ca2 cb0 cb1 cb2 ⊢
    have H := H3
    clear H3 d0 d1 d2
    refine (hNa _).mono ?_
    rintro e w3 ⟨rfl, hbn3⟩
    replace H := H.next hbn3
    clear hbn3
    clear ca0 ca1 ca2
    clear cb0 cb1 cb2
    obtain ⟨z0, z1, z2⟩ := H.r0.soft
    obtain ⟨g0, g1, g2⟩ := H.r0.cells
    obtain ⟨f0, f1, f2, hbF⟩ := H.fin (0) (0) (⟨#[]⟩)
    go_wp2_with fail
    rw [put_eq]
    generalize put _ (w.heap.size + 2) (0) (0) (⟨#[]⟩) = wf at f0 f1 f2 hbF ⊢
    refine bodyPost_ret (v := .tuple #[.agg #[.int .i64 (0), .int .i64 (0), .string (⟨#[]⟩)], .int .i64 (0)]) (by simp [results, Try.results54, go_sem, f0, f1, f2]) rfl ?_
    exact ⟨rfl, hbF⟩
  · have hD := fun w => boolValue_spec false w
    go_enter Try.func54, Try.ntmps54
    go_wp2_with fail
    have H := fr_new w 3 0 ⟨#[]⟩ 0 0 ⟨#[]⟩
    generalize (((w.alloc (.cells #[.int .i64 3, .int .i64 0, .string ⟨#[]⟩] 27)).alloc (.cells #[.int .i64 0, .int .i64 0, .string ⟨#[]⟩] 27)).alloc (.cells #[.int .i64 0, .int .i64 0, .string ⟨#[]⟩] 27)) = V at H ⊢
    obtain ⟨ca0, ca1, ca2⟩ := H.a0.cells
    refine (hA _).mono ?_
    rintro e w1 ⟨rfl, hbn1⟩
    replace H := H.next hbn1
    clear hbn1
    clear ca0 ca1 ca2
    obtain ⟨cb0, cb1, cb2⟩ := H.b0.cells
    go_wp2_with fail
    refine (hB _).mono ?_
    rintro e w2 ⟨rfl, hbn2⟩
    replace H := H.next hbn2
    clear hbn2
    clear cb0 cb1 cb2
    go_wp2_with fail
    refine (hD _).mono ?_
    rintro e wd ⟨rfl, hbd⟩
    replace H := H.next hbd
    clear hbd hD
    have H3 := H.next ((Below.refl _ _).alloc (Nat.le_refl _) (.cells #[.int .i64 3, .int .i64 0, .string ⟨#[]⟩] 27))
    have hd : ValAt (wd.alloc (.cells #[.int .i64 3, .int .i64 0, .string ⟨#[]⟩] 27)) wd.heap.size 3 0 ⟨#[]⟩ := heap_alloc_new wd _
    obtain ⟨d0, d1, d2⟩ := hd.cells
    clear hd H
    obtain ⟨ca0, ca1, ca2⟩ := H3.a0.cells
    obtain ⟨cb0, cb1, cb2⟩ := H3.b0.cells
    obtain ⟨z0, z1, z2⟩ := H3.r0.soft
    obtain ⟨g0, g1, g2⟩ := H3.r0.cells
    obtain ⟨f0, f1, f2, hbF⟩ := H3.fin (3) (0) (⟨#[]⟩)
    go_wp2_with fail
    rw [put_eq]
    generalize put _ (w.heap.size + 2) (3) (0) (⟨#[]⟩) = wf at f0 f1 f2 hbF ⊢
    refine bodyPost_ret (v := .tuple #[.agg #[.int .i64 (3), .int .i64 (0), .string (⟨#[]⟩)], .int .i64 (0)]) (by simp [results, Try.results54, go_sem, f0, f1, f2]) rfl ?_
    exact ⟨rfl, hbF⟩
  · have hD := fun w => boolValue_spec false w
    go_enter Try.func54, Try.ntmps54
    go_wp2_with fail
    have H := fr_new w 3 0 ⟨#[]⟩ 3 0 ⟨#[]⟩
    generalize (((w.alloc (.cells #[.int .i64 3, .int .i64 0, .string ⟨#[]⟩] 27)).alloc (.cells #[.int .i64 3, .int .i64 0, .string ⟨#[]⟩] 27)).alloc (.cells #[.int .i64 0, .int .i64 0, .string ⟨#[]⟩] 27)) = V at H ⊢
    obtain ⟨ca0, ca1, ca2⟩ := H.a0.cells
    refine (hA _).mono ?_
    rintro e w1 ⟨rfl, hbn1⟩
    replace H := H.next hbn1
    clear hbn1
    clear ca0 ca1 ca2
    obtain ⟨cb0, cb1, cb2⟩ := H.b0.cells
    go_wp2_with fail
    refine (hB _).mono ?_
    rintro e w2 ⟨rfl, hbn2⟩
    replace H := H.next hbn2
    clear hbn2
    clear cb0 cb1 cb2
    go_wp2_with fail
    refine (hD _).mono ?_
    rintro e wd ⟨rfl, hbd⟩
    replace H := H.next hbd
    clear hbd hD
    have H3 := H.next ((Below.refl _ _).alloc (Nat.le_refl _) (.cells #[.int .i64 3, .int .i64 0, .string ⟨#[]⟩] 27))
    have hd : ValAt (wd.alloc (.cells #[.int .i64 3, .int .i64 0, .string ⟨#[]⟩] 27)) wd.heap.size 3 0 ⟨#[]⟩ := heap_alloc_new wd _
    obtain ⟨d0, d1, d2⟩ := hd.cells
    clear hd H
    obtain ⟨ca0, ca1, ca2⟩ := H3.a0.cells
    obtain ⟨cb0, cb1, cb2⟩ := H3.b0.cells
    obtain ⟨z0, z1, z2⟩ := H3.r0.soft
    obtain ⟨g0, g1, g2⟩ := H3.r0.cells
    obtain ⟨f0, f1, f2, hbF⟩ := H3.fin (3) (0) (⟨#[]⟩)
    go_wp2_with fail
    rw [put_eq]
    generalize put _ (w.heap.size + 2) (3) (0) (⟨#[]⟩) = wf at f0 f1 f2 hbF ⊢
    refine bodyPost_ret (v := .tuple #[.agg #[.int .i64 (3), .int .i64 (0), .string (⟨#[]⟩)], .int .i64 (0)]) (by simp [results, Try.results54, go_sem, f0, f1, f2]) rfl ?_
    exact ⟨rfl, hbF⟩
  · have hD := fun w => boolValue_spec false w
    go_enter Try.func54, Try.ntmps54
    go_wp2_with fail
    have H := fr_new w 3 0 ⟨#[]⟩ 3 1 ⟨#[]⟩
    generalize (((w.alloc (.cells #[.int .i64 3, .int .i64 0, .string ⟨#[]⟩] 27)).alloc (.cells #[.int .i64 3, .int .i64 1, .string ⟨#[]⟩] 27)).alloc (.cells #[.int .i64 0, .int .i64 0, .string ⟨#[]⟩] 27)) = V at H ⊢
    obtain ⟨ca0, ca1, ca2⟩ := H.a0.cells
    refine (hA _).mono ?_
    rintro e w1 ⟨rfl, hbn1⟩
    replace H := H.next hbn1
    clear hbn1
    clear ca0 ca1 ca2
    obtain ⟨cb0, cb1, cb2⟩ := H.b0.cells
    go_wp2_with fail
    refine (hB _).mono ?_
    rintro e w2 ⟨rfl, hbn2⟩
    replace H := H.next hbn2
    clear hbn2
    clear cb0 cb1 cb2
    go_wp2_with fail
    refine (hD _).mono ?_
    rintro e wd ⟨rfl, hbd⟩
    replace H := H.next hbd
    clear hbd hD
    have H3 := H.next ((Below.refl _ _).alloc (Nat.le_refl _) (.cells #[.int .i64 3, .int .i64 0, .string ⟨#[]⟩] 27))
    have hd : ValAt (wd.alloc (.cells #[.int .i64 3, .int .i64 0, .string ⟨#[]⟩] 27)) wd.heap.size 3 0 ⟨#[]⟩ := heap_alloc_new wd _
    obtain ⟨d0, d1, d2⟩ := hd.cells
    clear hd H
    obtain ⟨ca0, ca1, ca2⟩ := H3.a0.cells
    obtain ⟨cb0, cb1, cb2⟩ := H3.b0.cells
    obtain ⟨z0, z1, z2⟩ := H3.r0.soft
    obtain ⟨g0, g1, g2⟩ := H3.r0.cells
    obtain ⟨f0, f1, f2, hbF⟩ := H3.fin (3) (0) (⟨#[]⟩)
    go_wp2_with fail
    rw [put_eq]
    generalize put _ (w.heap.size + 2) (3) (0) (⟨#[]⟩) = wf at f0 f1 f2 hbF ⊢
    refine bodyPost_ret (v := .tuple #[.agg #[.int .i64 (3), .int .i64 (0), .string (⟨#[]⟩)], .int .i64 (0)]) (by simp [results, Try.results54, go_sem, f0, f1, f2]) rfl ?_
    exact ⟨rfl, hbF⟩
  · have hD := fun w => boolValue_spec false w
    go_enter Try.func54, Try.ntmps54
    go_wp2_with fail
    have H := fr_new w 3 1 ⟨#[]⟩ 0 0 ⟨#[]⟩
    generalize (((w.alloc (.cells #[.int .i64 3, .int .i64 1, .string ⟨#[]⟩] 27)).alloc (.cells #[.int .i64 0, .int .i64 0, .string ⟨#[]⟩] 27)).alloc (.cells #[.int .i64 0, .int .i64 0, .string ⟨#[]⟩] 27)) = V at H ⊢
    obtain ⟨ca0, ca1, ca2⟩ := H.a0.cells
    refine (hA _).mono ?_
    rintro e w1 ⟨rfl, hbn1⟩
    replace H := H.next hbn1
    clear hbn1
    clear ca0 ca1 ca2
    obtain ⟨cb0, cb1, cb2⟩ := H.b0.cells
    go_wp2_with fail
    refine (hB _).mono ?_
    rintro e w2 ⟨rfl, hbn2⟩
    replace H := H.next hbn2
    clear hbn2
    clear cb0 cb1 cb2
    go_wp2_with fail
    refine (hD _).mono ?_
    rintro e wd ⟨rfl, hbd⟩
    replace H := H.next hbd
    clear hbd hD
    have H3 := H.next ((Below.refl _ _).alloc (Nat.le_refl _) (.cells #[.int .i64 3, .int .i64 0, .string ⟨#[]⟩] 27))
    have hd : ValAt (wd.alloc (.cells #[.int .i64 3, .int .i64 0, .string ⟨#[]⟩] 27)) wd.heap.size 3 0 ⟨#[]⟩ := heap_alloc_new wd _
    obtain ⟨d0, d1, d2⟩ := hd.cells
    clear hd H
    obtain ⟨ca0, ca1, ca2⟩ := H3.a0.cells
    obtain ⟨cb0, cb1, cb2⟩ := H3.b0.cells
    have hNa := fun w => null_spec 3 1 ⟨#[]⟩ w
    have hNb := fun w => null_spec 0 0 ⟨#[]⟩ w
    go_wp2_with fail
    generalize wd.alloc (.cells #[.int .i64 3, .int .i64 0, .string ⟨#[]⟩] 27) = VD at H3 d0 d1 d2 ca0 ca1 ca2 cb0 cb1 cb2 ⊢
    have H := H3
    clear H3 d0 d1 d2
    refine (hNa _).mono ?_
    rintro e w3 ⟨rfl, hbn3⟩
    replace H := H.next hbn3
    clear hbn3
    clear ca0 ca1 ca2
    clear cb0 cb1 cb2
    obtain ⟨cb0, cb1, cb2⟩ := H.b0.cells
    go_wp2_with fail
    refine (hNb _).mono ?_
    rintro e w4 ⟨rfl, hbn4⟩
    replace H := H.next hbn4
    clear hbn4
    clear cb0 cb1 cb2
    obtain ⟨z0, z1, z2⟩ := H.r0.soft
    obtain ⟨g0, g1, g2⟩ := H.r0.cells
    obtain ⟨f0, f1, f2, hbF⟩ := H.fin (0) (0) (⟨#[]⟩)
    go_wp2_with fail
    rw [put_eq]
    generalize put _ (w.heap.size + 2) (0) (0) (⟨#[]⟩) = wf at f0 f1 f2 hbF ⊢
    refine bodyPost_ret (v := .tuple #[.agg #[.int .i64 (0), .int .i64 (0), .string (⟨#[]⟩)], .int .i64 (0)]) (by simp [results, Try.results54, go_sem, f0, f1, f2]) rfl ?_
    exact ⟨rfl, hbF⟩
  · have hD := fun w => boolValue_spec false w
    go_enter Try.func54, Try.ntmps54
    go_wp2_with fail
    have H := fr_new w 3 1 ⟨#[]⟩ 3 0 ⟨#[]⟩
    generalize (((w.alloc (.cells #[.int .i64 3, .int .i64 1, .string ⟨#[]⟩] 27)).alloc (.cells #[.int .i64 3, .int .i64 0, .string ⟨#[]⟩] 27)).alloc (.cells #[.int .i64 0, .int .i64 0, .string ⟨#[]⟩] 27)) = V at H ⊢
    obtain ⟨ca0, ca1, ca2⟩ := H.a0.cells
    refine (hA _).mono ?_
    rintro e w1 ⟨rfl, hbn1⟩
    replace H := H.next hbn1
    clear hbn1
    clear ca0 ca1 ca2
    obtain ⟨cb0, cb1, cb2⟩ := H.b0.cells
    go_wp2_with fail
    refine (hB _).mono ?_
    rintro e w2 ⟨rfl, hbn2⟩
    replace H := H.next hbn2
    clear hbn2
    clear cb0 cb1 cb2
    go_wp2_with fail
    refine (hD _).mono ?_
    rintro e wd ⟨rfl, hbd⟩
    replace H := H.next hbd
    clear hbd hD
    have H3 := H.next ((Below.refl _ _).alloc (Nat.le_refl _) (.cells #[.int .i64 3, .int .i64 0, .string ⟨#[]⟩] 27))
    have hd : ValAt (wd.alloc (.cells #[.int .i64 3, .int .i64 0, .string ⟨#[]⟩] 27)) wd.heap.size 3 0 ⟨#[]⟩ := heap_alloc_new wd _
    obtain ⟨d0, d1, d2⟩ := hd.cells
    clear hd H
    obtain ⟨ca0, ca1, ca2⟩ := H3.a0.cells
    obtain ⟨cb0, cb1, cb2⟩ := H3.b0.cells
    obtain ⟨z0, z1, z2⟩ := H3.r0.soft
    obtain ⟨g0, g1, g2⟩ := H3.r0.cells
    obtain ⟨f0, f1, f2, hbF⟩ := H3.fin (3) (0) (⟨#[]⟩)
    go_wp2_with fail
    rw [put_eq]
    generalize put _ (w.heap.size + 2) (3) (0) (⟨#[]⟩) = wf at f0 f1 f2 hbF ⊢
    refine bodyPost_ret (v := .tuple #[.agg #[.int .i64 (3), .int .i64 (0), .string (⟨#[]⟩)], .int .i64 (0)]) (by simp [results, Try.results54, go_sem, f0, f1, f2]) rfl ?_
    exact ⟨rfl, hbF⟩
  · have hD := fun w => boolValue_spec false w
    go_enter Try.func54, Try.ntmps54
    go_wp2_with fail
    have H := fr_new w 3 1 ⟨#[]⟩ 3 1 ⟨#[]⟩
    generalize (((w.alloc (.cells #[.int .i64 3, .int .i64 1, .string ⟨#[]⟩] 27)).alloc (.cells #[.int .i64 3, .int .i64 1, .string ⟨#[]⟩] 27)).alloc (.cells #[.int .i64 0, .int .i64 0, .string ⟨#[]⟩] 27)) = V at H ⊢
    obtain ⟨ca0, ca1, ca2⟩ := H.a0.cells
    refine (hA _).mono ?_
    rintro e w1 ⟨rfl, hbn1⟩
    replace H := H.next hbn1
    clear hbn1
    clear ca0 ca1 ca2
    obtain ⟨cb0, cb1, cb2⟩ := H.b0.cells
    go_wp2_with fail
    refine (hB _).mono ?_
    rintro e w2 ⟨rfl, hbn2⟩
    replace H := H.next hbn2
    clear hbn2
    clear cb0 cb1 cb2
    go_wp2_with fail
    refine (hD _).mono ?_
    rintro e wd ⟨rfl, hbd⟩
    replace H := H.next hbd
    clear hbd hD
    have H3 := H.next ((Below.refl _ _).alloc (Nat.le_refl _) (.cells #[.int .i64 3, .int .i64 0, .string ⟨#[]⟩] 27))
    have hd : ValAt (wd.alloc (.cells #[.int .i64 3, .int .i64 0, .string ⟨#[]⟩] 27)) wd.heap.size 3 0 ⟨#[]⟩ := heap_alloc_new wd _
    obtain ⟨d0, d1, d2⟩ := hd.cells
    clear hd H
    obtain ⟨ca0, ca1, ca2⟩ := H3.a0.cells
    obtain ⟨cb0, cb1, cb2⟩ := H3.b0.cells
    have hNa := fun w => null_spec 3 1 ⟨#[]⟩ w
    have hNb := fun w => null_spec 3 1 ⟨#[]⟩ w
    go_wp2_with fail
    generalize wd.alloc (.cells #[.int .i64 3, .int .i64 0, .string ⟨#[]⟩] 27) = VD at H3 d0 d1 d2 ca0 ca1 ca2 cb0 cb1 cb2 ⊢
    have H := H3
    clear H3 d0 d1 d2
    refine (hNa _).mono ?_
    rintro e w3 ⟨rfl, hbn3⟩
    replace H := H.next hbn3
    clear hbn3
    clear ca0 ca1 ca2
    clear cb0 cb1 cb2
    obtain ⟨cb0, cb1, cb2⟩ := H.b0.cells
    go_wp2_with fail
    refine (hNb _).mono ?_
    rintro e w4 ⟨rfl, hbn4⟩
    replace H := H.next hbn4
    clear hbn4
    clear cb0 cb1 cb2
    have hG := fun w => boolValue_spec true w
    go_wp2_with fail
    refine (hG _).mono ?_
    rintro e w5 ⟨rfl, hbn5⟩
    replace H := H.next hbn5
    clear hbn5
    obtain ⟨z0, z1, z2⟩ := H.r0.soft
    obtain ⟨g0, g1, g2⟩ := H.r0.cells
    obtain ⟨f0, f1, f2, hbF⟩ := H.fin (3) (1) (⟨#[]⟩)
    go_wp2_with fail
    rw [put_eq]
    generalize put _ (w.heap.size + 2) (3) (1) (⟨#[]⟩) = wf at f0 f1 f2 hbF ⊢
    refine bodyPost_ret (v := .tuple #[.agg #[.int .i64 (3), .int .i64 (1), .string (⟨#[]⟩)], .int .i64 (0)]) (by simp [results, Try.results54, go_sem, f0, f1, f2]) rfl ?_
    exact ⟨rfl, hbF⟩
end Go.Proofs.Ytjekhgekldkopaa

/- Contracts of the model's quotients. -/
namespace Go.Proofs.Ytjekhgekldkopaa
open Go.RowKit

theorem CR.eta (r : CR) : ∃ k n t c, r = ⟨k, n, t, c⟩ := ⟨r.k, r.n, r.t, r.c, rfl⟩
theorem tdiv_m1 (a : Int) : a.tdiv (-1) = 0 - a := by rw [Int.tdiv_neg, Int.tdiv_one]; omega
theorem tmod_m1 (a : Int) : a.tmod (-1) = 0 := by
  have := Int.tdiv_mul_add_tmod a (-1)
  rw [tdiv_m1] at this
  omega
theorem tmod_fits {a b : Int} (hb : b ≠ 0) (h0 : -9223372036854775808 ≤ b) (h1 : b ≤ 9223372036854775807) : -9223372036854775808 ≤ a.tmod b ∧ a.tmod b ≤ 9223372036854775807 := by
  have h : (a.tmod b).natAbs < b.natAbs := by
    rw [Int.natAbs_tmod]
    exact Nat.mod_lt _ (by omega)
  omega
set_option maxRecDepth 100000 in
set_option maxHeartbeats 4000000 in
theorem divide_spec (op a b : Int) (w : World) (h1 : 13 ≤ op) (h2 : op ≤ 14) (ha0 : -9223372036854775808 ≤ a) (ha1 : a ≤ 9223372036854775807) (hb0 : -9223372036854775808 ≤ b) (hb1 : b ≤ 9223372036854775807) : Calls Try.prog 59 #[.int .i64 op, .int .i64 a, .int .i64 b] w (CalcE (numOpC op a b) w) := by
  have hO : numOpC op a b = if b = 0 then errC 3 else if op = 13 then numC (a.tdiv b) else numC (a.tmod b) := by unfold numOpC; rw [if_neg (by omega), if_neg (by omega), if_neg (by omega)]
  rw [hO]
  clear hO
  by_cases hb : b = 0
  · subst hb
    rw [if_pos rfl]
    unfold errC
    go_enter Try.func59, Try.ntmps59
    have H := fr1_new w
    obtain ⟨f0, f1, f2⟩ := H.r0.cells
    have hbF := H.b
    go_wp2_with fail
    generalize w.alloc (.cells #[.int .i64 0, .int .i64 0, .string ⟨#[]⟩] 27) = wf at f0 f1 f2 hbF ⊢
    refine bodyPost_ret (v := .tuple #[.agg #[.int .i64 (0), .int .i64 (0), .string (⟨#[]⟩)], .int .i64 (3)]) (by simp [results, Try.results59, go_sem, f0, f1, f2]) rfl ?_
    exact ⟨rfl, hbF⟩
  rw [if_neg hb]
  have qb : (b == 0) = false := by simpa using hb
  by_cases h13 : op = 13
  · subst h13
    rw [if_pos rfl]
    by_cases hm : b = -1
    · subst hm
      rw [tdiv_m1]
      have hN := fun w => subNum_spec 0 a w (by omega) (by omega) ha0 ha1
      have hC := fun w => numC_spec (0 - a) w
      unfold NumR at hN
      generalize outI (0 - a) = x at hN hC
      generalize fits (0 - a) = c at hN hC
      obtain ⟨rk, rn, rt, rc, hR⟩ := CR.eta (numC (0 - a))
      rw [hR] at hC ⊢
      clear hR
      go_enter Try.func59, Try.ntmps59
      go_wp2_with fail
      have H := fr1_new w
      generalize w.alloc (.cells #[.int .i64 0, .int .i64 0, .string ⟨#[]⟩] 27) = V at H ⊢
      refine (hN _).mono ?_
      rintro e w1 ⟨rfl, rfl⟩
      go_wp2_with fail
      refine (hC _).mono ?_
      rintro e w7 ⟨rfl, hbn7⟩
      replace H := H.next hbn7
      clear hbn7
      obtain ⟨z0, z1, z2⟩ := H.r0.soft
      obtain ⟨g0, g1, g2⟩ := H.r0.cells
      obtain ⟨f0, f1, f2, hbF⟩ := H.fin (rk) (rn) (rt)
      go_wp2_with fail
      rw [put_eq]
      generalize put _ (w.heap.size) (rk) (rn) (rt) = wf at f0 f1 f2 hbF ⊢
      refine bodyPost_ret (v := .tuple #[.agg #[.int .i64 (rk), .int .i64 (rn), .string (rt)], .int .i64 (rc)]) (by simp [results, Try.results59, go_sem, f0, f1, f2]) rfl ?_
      exact ⟨rfl, hbF⟩
    have qm : (b == -1) = false := by simpa using hm
    obtain ⟨q0, q1⟩ := quo_fits ⟨ha0, ha1⟩ hb hm
    rw [numC_yes (fits_iff.2 ⟨q0, q1⟩)]
    have hI := fun w => intValue_spec (a.tdiv b) w
    go_enter Try.func59, Try.ntmps59
    go_wp2_with fail
    have H := fr1_new w
    generalize w.alloc (.cells #[.int .i64 0, .int .i64 0, .string ⟨#[]⟩] 27) = V at H ⊢
    refine (hI _).mono ?_
    rintro e w1 ⟨rfl, hbn1⟩
    replace H := H.next hbn1
    clear hbn1
    obtain ⟨z0, z1, z2⟩ := H.r0.soft
    obtain ⟨g0, g1, g2⟩ := H.r0.cells
    obtain ⟨f0, f1, f2, hbF⟩ := H.fin (1) (a.tdiv b) (⟨#[]⟩)
    go_wp2_with fail
    rw [put_eq]
    generalize put _ (w.heap.size) (1) (a.tdiv b) (⟨#[]⟩) = wf at f0 f1 f2 hbF ⊢
    refine bodyPost_ret (v := .tuple #[.agg #[.int .i64 (1), .int .i64 (a.tdiv b), .string (⟨#[]⟩)], .int .i64 (0)]) (by simp [results, Try.results59, go_sem, f0, f1, f2]) rfl ?_
    exact ⟨rfl, hbF⟩
  obtain rfl : op = 14 := by omega
  rw [if_neg h13]
  by_cases hm : b = -1
  · subst hm
    rw [tmod_m1, numC_yes (fits_iff.2 (by omega))]
    have hI := fun w => intValue_spec 0 w
    go_enter Try.func59, Try.ntmps59
    go_wp2_with fail
    have H := fr1_new w
    generalize w.alloc (.cells #[.int .i64 0, .int .i64 0, .string ⟨#[]⟩] 27) = V at H ⊢
    refine (hI _).mono ?_
    rintro e w1 ⟨rfl, hbn1⟩
    replace H := H.next hbn1
    clear hbn1
    obtain ⟨z0, z1, z2⟩ := H.r0.soft
    obtain ⟨g0, g1, g2⟩ := H.r0.cells
    obtain ⟨f0, f1, f2, hbF⟩ := H.fin (1) (0) (⟨#[]⟩)
    go_wp2_with fail
    rw [put_eq]
    generalize put _ (w.heap.size) (1) (0) (⟨#[]⟩) = wf at f0 f1 f2 hbF ⊢
    refine bodyPost_ret (v := .tuple #[.agg #[.int .i64 (1), .int .i64 (0), .string (⟨#[]⟩)], .int .i64 (0)]) (by simp [results, Try.results59, go_sem, f0, f1, f2]) rfl ?_
    exact ⟨rfl, hbF⟩
  have qm : (b == -1) = false := by simpa using hm
  obtain ⟨q0, q1⟩ := tmod_fits (a := a) hb hb0 hb1
  rw [numC_yes (fits_iff.2 ⟨q0, q1⟩)]
  have hI := fun w => intValue_spec (a.tmod b) w
  go_enter Try.func59, Try.ntmps59
  go_wp2_with fail
  have H := fr1_new w
  generalize w.alloc (.cells #[.int .i64 0, .int .i64 0, .string ⟨#[]⟩] 27) = V at H ⊢
  refine (hI _).mono ?_
  rintro e w1 ⟨rfl, hbn1⟩
  replace H := H.next hbn1
  clear hbn1
  obtain ⟨z0, z1, z2⟩ := H.r0.soft
  obtain ⟨g0, g1, g2⟩ := H.r0.cells
  obtain ⟨f0, f1, f2, hbF⟩ := H.fin (1) (a.tmod b) (⟨#[]⟩)
  go_wp2_with fail
  rw [put_eq]
  generalize put _ (w.heap.size) (1) (a.tmod b) (⟨#[]⟩) = wf at f0 f1 f2 hbF ⊢
  refine bodyPost_ret (v := .tuple #[.agg #[.int .i64 (1), .int .i64 (a.tmod b), .string (⟨#[]⟩)], .int .i64 (0)]) (by simp [results, Try.results59, go_sem, f0, f1, f2]) rfl ?_
  exact ⟨rfl, hbF⟩
end Go.Proofs.Ytjekhgekldkopaa

/- What Calc gives, case by case. -/
namespace Go.Proofs.Ytjekhgekldkopaa
open Go.RowKit

theorem calc_bad {op k a : Int} {t : ByteArray} {k' a' : Int} {t' : ByteArray} (h : (decide (1 ≤ op) && decide (op ≤ 14)) = false ∨ valOk k a t.data.toList = false ∨ valOk k' a' t'.data.toList = false ∨ fitsOp op k k' = false) : calcC op k a t k' a' t' = errC 1 := by
  unfold calcC
  rw [if_neg]
  rcases h with h | h | h | h <;> rw [h] <;> simp
theorem calc_good {op k a : Int} {t : ByteArray} {k' a' : Int} {t' : ByteArray} (h0 : 1 ≤ op) (h1 : op ≤ 14) (h2 : valOk k a t.data.toList = true) (h3 : valOk k' a' t'.data.toList = true) (h4 : fitsOp op k k' = true) : calcC op k a t k' a' t' =
    if op ≤ 2 then logicC op k a k' a'
    else if (k == 0) || (k' == 0) then nullC
    else if op ≤ 8 then boolC (holdsB op (ordV (k, a, t.data.toList) (k', a', t'.data.toList)))
    else if op = 9 then catC t t'
    else numOpC op a a' := by
  unfold calcC
  rw [if_pos (by rw [h2, h3, h4, decide_eq_true h0, decide_eq_true h1]; rfl)]
theorem text_small {k a : Int} {t : ByteArray} (h : valOk k a t.data.toList = true) : t.size ≤ 200 := by
  have hs : t.size = t.data.toList.length := rfl
  unfold valOk at h
  split at h
  · simp only [Bool.and_eq_true, decide_eq_true_eq] at h; rw [hs, h.2]; simp
  · split at h
    · simp only [decide_eq_true_eq] at h; rw [hs, h]; simp
    · split at h
      · simp only [Bool.and_eq_true, decide_eq_true_eq] at h; omega
      · split at h
        · simp only [Bool.and_eq_true, decide_eq_true_eq] at h; rw [hs, h.2]; simp
        · cases h
end Go.Proofs.Ytjekhgekldkopaa

/- The contract of the model's Calc. -/
namespace Go.Proofs.Ytjekhgekldkopaa
open Go.RowKit

set_option maxRecDepth 100000 in
set_option maxHeartbeats 8000000 in
theorem calc_spec (op : Int) (k a : Int) (t : ByteArray) (k' a' : Int) (t' : ByteArray) (w : World) (ht : t.size ≤ 9223372036854775807) (ht' : t'.size ≤ 9223372036854775807) (ha0 : -9223372036854775808 ≤ a) (ha1 : a ≤ 9223372036854775807) (hb0 : -9223372036854775808 ≤ a') (hb1 : a' ≤ 9223372036854775807) : Calls Try.prog 19 #[.int .i64 op, .agg #[.int .i64 k, .int .i64 a, .string t], .agg #[.int .i64 k', .int .i64 a', .string t']] w (CalcE (calcC op k a t k' a' t') w) := by
  have hV := fun w => valueOk_spec k a t w ht
  have hW := fun w => valueOk_spec k' a' t' w ht'
  have hI := fun w => in_any op 1 14 (decide (1 ≤ op) && decide (op ≤ 14)) w (by rw [Bool.decide_and])
  cases hop : (decide (1 ≤ op) && decide (op ≤ 14))
  · rw [calc_bad (.inl hop)]
    rw [hop] at hI
    clear hop hV hW
    unfold errC
    go_enter Try.func19, Try.ntmps19
    go_wp2_with fail
    have H := fr_new w k a t k' a' t'
    generalize (((w.alloc (.cells #[.int .i64 k, .int .i64 a, .string t] 27)).alloc (.cells #[.int .i64 k', .int .i64 a', .string t'] 27)).alloc (.cells #[.int .i64 0, .int .i64 0, .string ⟨#[]⟩] 27)) = V at H ⊢
    refine (hI _).mono ?_
    rintro e w0 ⟨rfl, rfl⟩
    obtain ⟨z0, z1, z2⟩ := H.r0.soft
    obtain ⟨g0, g1, g2⟩ := H.r0.cells
    obtain ⟨f0, f1, f2, hbF⟩ := H.fin (0) (0) (⟨#[]⟩)
    go_wp2_with fail
    rw [put_eq]
    generalize put _ (w.heap.size + 2) (0) (0) (⟨#[]⟩) = wf at f0 f1 f2 hbF ⊢
    refine bodyPost_ret (v := .tuple #[.agg #[.int .i64 (0), .int .i64 (0), .string (⟨#[]⟩)], .int .i64 (1)]) (by simp [results, Try.results19, go_sem, f0, f1, f2]) rfl ?_
    exact ⟨rfl, hbF⟩
  have hop0 : 1 ≤ op ∧ op ≤ 14 := by simpa using hop
  obtain ⟨h1, h14⟩ := hop0
  rw [hop] at hI
  clear hop
  cases hva : valOk k a t.data.toList
  · rw [calc_bad (.inr (.inl hva))]
    rw [hva] at hV
    clear hva hW
    unfold errC
    go_enter Try.func19, Try.ntmps19
    go_wp2_with fail
    have H := fr_new w k a t k' a' t'
    generalize (((w.alloc (.cells #[.int .i64 k, .int .i64 a, .string t] 27)).alloc (.cells #[.int .i64 k', .int .i64 a', .string t'] 27)).alloc (.cells #[.int .i64 0, .int .i64 0, .string ⟨#[]⟩] 27)) = V at H ⊢
    refine (hI _).mono ?_
    rintro e w0 ⟨rfl, rfl⟩
    obtain ⟨ca0, ca1, ca2⟩ := H.a0.cells
    go_wp2_with fail
    refine (hV _).mono ?_
    rintro e w1 ⟨rfl, hbn1⟩
    replace H := H.next hbn1
    clear hbn1
    clear ca0 ca1 ca2
    obtain ⟨z0, z1, z2⟩ := H.r0.soft
    obtain ⟨g0, g1, g2⟩ := H.r0.cells
    obtain ⟨f0, f1, f2, hbF⟩ := H.fin (0) (0) (⟨#[]⟩)
    go_wp2_with fail
    rw [put_eq]
    generalize put _ (w.heap.size + 2) (0) (0) (⟨#[]⟩) = wf at f0 f1 f2 hbF ⊢
    refine bodyPost_ret (v := .tuple #[.agg #[.int .i64 (0), .int .i64 (0), .string (⟨#[]⟩)], .int .i64 (1)]) (by simp [results, Try.results19, go_sem, f0, f1, f2]) rfl ?_
    exact ⟨rfl, hbF⟩
  cases hvb : valOk k' a' t'.data.toList
  · rw [calc_bad (.inr (.inr (.inl hvb)))]
    rw [hva] at hV
    rw [hvb] at hW
    clear hva hvb
    unfold errC
    go_enter Try.func19, Try.ntmps19
    go_wp2_with fail
    have H := fr_new w k a t k' a' t'
    generalize (((w.alloc (.cells #[.int .i64 k, .int .i64 a, .string t] 27)).alloc (.cells #[.int .i64 k', .int .i64 a', .string t'] 27)).alloc (.cells #[.int .i64 0, .int .i64 0, .string ⟨#[]⟩] 27)) = V at H ⊢
    refine (hI _).mono ?_
    rintro e w0 ⟨rfl, rfl⟩
    obtain ⟨ca0, ca1, ca2⟩ := H.a0.cells
    go_wp2_with fail
    refine (hV _).mono ?_
    rintro e w1 ⟨rfl, hbn1⟩
    replace H := H.next hbn1
    clear hbn1
    clear ca0 ca1 ca2
    obtain ⟨cb0, cb1, cb2⟩ := H.b0.cells
    go_wp2_with fail
    refine (hW _).mono ?_
    rintro e w2 ⟨rfl, hbn2⟩
    replace H := H.next hbn2
    clear hbn2
    clear cb0 cb1 cb2
    obtain ⟨z0, z1, z2⟩ := H.r0.soft
    obtain ⟨g0, g1, g2⟩ := H.r0.cells
    obtain ⟨f0, f1, f2, hbF⟩ := H.fin (0) (0) (⟨#[]⟩)
    go_wp2_with fail
    rw [put_eq]
    generalize put _ (w.heap.size + 2) (0) (0) (⟨#[]⟩) = wf at f0 f1 f2 hbF ⊢
    refine bodyPost_ret (v := .tuple #[.agg #[.int .i64 (0), .int .i64 (0), .string (⟨#[]⟩)], .int .i64 (1)]) (by simp [results, Try.results19, go_sem, f0, f1, f2]) rfl ?_
    exact ⟨rfl, hbF⟩
  have hva2 := hva
  have hvb2 := hvb
  rw [hva] at hV
  rw [hvb] at hW
  by_cases h2 : op ≤ 2
  · have hL := fun w => logic_spec op k a t k' a' t' w h1 h2 hva hvb
    have hR : calcC op k a t k' a' t' = if kindIn k 3 && kindIn k' 3 then logicC op k a k' a' else errC 1 := by
      have hf : fitsOp op k k' = (kindIn k 3 && kindIn k' 3) := by unfold fitsOp; rw [if_pos h2]
      cases hx : (kindIn k 3 && kindIn k' 3)
      · rw [calc_bad (.inr (.inr (.inr (by rw [hf]; exact hx))))]; rfl
      · rw [calc_good h1 h14 hva hvb (by rw [hf]; exact hx), if_pos h2]; rfl
    rw [hR]
    clear hR hva hvb hva2 hvb2
    have d3 : decide (op ≤ 2) = true := by simpa using h2
    obtain ⟨rk, rn, rt, rc, hE⟩ := CR.eta (if kindIn k 3 && kindIn k' 3 then logicC op k a k' a' else errC 1)
    rw [hE] at hL ⊢
    clear hE
    go_enter Try.func19, Try.ntmps19
    go_wp2_with fail
    have H := fr_new w k a t k' a' t'
    generalize (((w.alloc (.cells #[.int .i64 k, .int .i64 a, .string t] 27)).alloc (.cells #[.int .i64 k', .int .i64 a', .string t'] 27)).alloc (.cells #[.int .i64 0, .int .i64 0, .string ⟨#[]⟩] 27)) = V at H ⊢
    refine (hI _).mono ?_
    rintro e w0 ⟨rfl, rfl⟩
    obtain ⟨ca0, ca1, ca2⟩ := H.a0.cells
    go_wp2_with fail
    refine (hV _).mono ?_
    rintro e w1 ⟨rfl, hbn1⟩
    replace H := H.next hbn1
    clear hbn1
    clear ca0 ca1 ca2
    obtain ⟨cb0, cb1, cb2⟩ := H.b0.cells
    go_wp2_with fail
    refine (hW _).mono ?_
    rintro e w2 ⟨rfl, hbn2⟩
    replace H := H.next hbn2
    clear hbn2
    clear cb0 cb1 cb2
    obtain ⟨ca0, ca1, ca2⟩ := H.a0.cells
    obtain ⟨cb0, cb1, cb2⟩ := H.b0.cells
    go_wp2_with fail
    refine (hL _).mono ?_
    rintro e w7 ⟨rfl, hbn7⟩
    replace H := H.next hbn7
    clear hbn7
    clear ca0 ca1 ca2
    clear cb0 cb1 cb2
    obtain ⟨z0, z1, z2⟩ := H.r0.soft
    obtain ⟨g0, g1, g2⟩ := H.r0.cells
    obtain ⟨f0, f1, f2, hbF⟩ := H.fin (rk) (rn) (rt)
    go_wp2_with fail
    rw [put_eq]
    generalize put _ (w.heap.size + 2) (rk) (rn) (rt) = wf at f0 f1 f2 hbF ⊢
    refine bodyPost_ret (v := .tuple #[.agg #[.int .i64 (rk), .int .i64 (rn), .string (rt)], .int .i64 (rc)]) (by simp [results, Try.results19, go_sem, f0, f1, f2]) rfl ?_
    exact ⟨rfl, hbF⟩
  have d3 : decide (op ≤ 2) = false := by simpa using h2
  have hT := fun w => types_spec op k a t k' a' t' w (by omega) h14
  cases hf : fitsOp op k k'
  · rw [calc_bad (.inr (.inr (.inr hf)))]
    rw [hf] at hT
    clear hf hva hvb hva2 hvb2
    unfold errC
    go_enter Try.func19, Try.ntmps19
    go_wp2_with fail
    have H := fr_new w k a t k' a' t'
    generalize (((w.alloc (.cells #[.int .i64 k, .int .i64 a, .string t] 27)).alloc (.cells #[.int .i64 k', .int .i64 a', .string t'] 27)).alloc (.cells #[.int .i64 0, .int .i64 0, .string ⟨#[]⟩] 27)) = V at H ⊢
    refine (hI _).mono ?_
    rintro e w0 ⟨rfl, rfl⟩
    obtain ⟨ca0, ca1, ca2⟩ := H.a0.cells
    go_wp2_with fail
    refine (hV _).mono ?_
    rintro e w1 ⟨rfl, hbn1⟩
    replace H := H.next hbn1
    clear hbn1
    clear ca0 ca1 ca2
    obtain ⟨cb0, cb1, cb2⟩ := H.b0.cells
    go_wp2_with fail
    refine (hW _).mono ?_
    rintro e w2 ⟨rfl, hbn2⟩
    replace H := H.next hbn2
    clear hbn2
    clear cb0 cb1 cb2
    obtain ⟨ca0, ca1, ca2⟩ := H.a0.cells
    obtain ⟨cb0, cb1, cb2⟩ := H.b0.cells
    go_wp2_with fail
    refine (hT _).mono ?_
    rintro e w3 ⟨rfl, hbn3⟩
    replace H := H.next hbn3
    clear hbn3
    clear ca0 ca1 ca2
    clear cb0 cb1 cb2
    obtain ⟨z0, z1, z2⟩ := H.r0.soft
    obtain ⟨g0, g1, g2⟩ := H.r0.cells
    obtain ⟨f0, f1, f2, hbF⟩ := H.fin (0) (0) (⟨#[]⟩)
    go_wp2_with fail
    rw [put_eq]
    generalize put _ (w.heap.size + 2) (0) (0) (⟨#[]⟩) = wf at f0 f1 f2 hbF ⊢
    refine bodyPost_ret (v := .tuple #[.agg #[.int .i64 (0), .int .i64 (0), .string (⟨#[]⟩)], .int .i64 (1)]) (by simp [results, Try.results19, go_sem, f0, f1, f2]) rfl ?_
    exact ⟨rfl, hbF⟩
  have hR := calc_good h1 h14 hva hvb hf
  rw [hf] at hT
  clear hva hvb
  rw [if_neg h2] at hR
  clear hf
  have hNa := fun w => null_spec k a t w
  have hNb := fun w => null_spec k' a' t' w
  cases hk : (k == 0)
  case true =>
    rw [hk] at hNa hR
    rw [hR]
    clear hR hva2 hvb2 hNb
    show Calls _ _ _ w (CalcE nullC w)
    unfold nullC
    go_enter Try.func19, Try.ntmps19
    go_wp2_with fail
    have H := fr_new w k a t k' a' t'
    generalize (((w.alloc (.cells #[.int .i64 k, .int .i64 a, .string t] 27)).alloc (.cells #[.int .i64 k', .int .i64 a', .string t'] 27)).alloc (.cells #[.int .i64 0, .int .i64 0, .string ⟨#[]⟩] 27)) = V at H ⊢
    refine (hI _).mono ?_
    rintro e w0 ⟨rfl, rfl⟩
    obtain ⟨ca0, ca1, ca2⟩ := H.a0.cells
    go_wp2_with fail
    refine (hV _).mono ?_
    rintro e w1 ⟨rfl, hbn1⟩
    replace H := H.next hbn1
    clear hbn1
    clear ca0 ca1 ca2
    obtain ⟨cb0, cb1, cb2⟩ := H.b0.cells
    go_wp2_with fail
    refine (hW _).mono ?_
    rintro e w2 ⟨rfl, hbn2⟩
    replace H := H.next hbn2
    clear hbn2
    clear cb0 cb1 cb2
    obtain ⟨ca0, ca1, ca2⟩ := H.a0.cells
    obtain ⟨cb0, cb1, cb2⟩ := H.b0.cells
    go_wp2_with fail
    refine (hT _).mono ?_
    rintro e w3 ⟨rfl, hbn3⟩
    replace H := H.next hbn3
    clear hbn3
    clear ca0 ca1 ca2
    clear cb0 cb1 cb2
    obtain ⟨ca0, ca1, ca2⟩ := H.a0.cells
    go_wp2_with fail
    refine (hNa _).mono ?_
    rintro e w4 ⟨rfl, hbn4⟩
    replace H := H.next hbn4
    clear hbn4
    clear ca0 ca1 ca2
    obtain ⟨z0, z1, z2⟩ := H.r0.soft
    obtain ⟨g0, g1, g2⟩ := H.r0.cells
    obtain ⟨f0, f1, f2, hbF⟩ := H.fin (0) (0) (⟨#[]⟩)
    go_wp2_with fail
    rw [put_eq]
    generalize put _ (w.heap.size + 2) (0) (0) (⟨#[]⟩) = wf at f0 f1 f2 hbF ⊢
    refine bodyPost_ret (v := .tuple #[.agg #[.int .i64 (0), .int .i64 (0), .string (⟨#[]⟩)], .int .i64 (0)]) (by simp [results, Try.results19, go_sem, f0, f1, f2]) rfl ?_
    exact ⟨rfl, hbF⟩
  cases hk' : (k' == 0)
  case true =>
    rw [hk] at hNa hR
    rw [hk'] at hNb hR
    rw [hR]
    clear hR hva2 hvb2
    show Calls _ _ _ w (CalcE nullC w)
    unfold nullC
    go_enter Try.func19, Try.ntmps19
    go_wp2_with fail
    have H := fr_new w k a t k' a' t'
    generalize (((w.alloc (.cells #[.int .i64 k, .int .i64 a, .string t] 27)).alloc (.cells #[.int .i64 k', .int .i64 a', .string t'] 27)).alloc (.cells #[.int .i64 0, .int .i64 0, .string ⟨#[]⟩] 27)) = V at H ⊢
    refine (hI _).mono ?_
    rintro e w0 ⟨rfl, rfl⟩
    obtain ⟨ca0, ca1, ca2⟩ := H.a0.cells
    go_wp2_with fail
    refine (hV _).mono ?_
    rintro e w1 ⟨rfl, hbn1⟩
    replace H := H.next hbn1
    clear hbn1
    clear ca0 ca1 ca2
    obtain ⟨cb0, cb1, cb2⟩ := H.b0.cells
    go_wp2_with fail
    refine (hW _).mono ?_
    rintro e w2 ⟨rfl, hbn2⟩
    replace H := H.next hbn2
    clear hbn2
    clear cb0 cb1 cb2
    obtain ⟨ca0, ca1, ca2⟩ := H.a0.cells
    obtain ⟨cb0, cb1, cb2⟩ := H.b0.cells
    go_wp2_with fail
    refine (hT _).mono ?_
    rintro e w3 ⟨rfl, hbn3⟩
    replace H := H.next hbn3
    clear hbn3
    clear ca0 ca1 ca2
    clear cb0 cb1 cb2
    obtain ⟨ca0, ca1, ca2⟩ := H.a0.cells
    go_wp2_with fail
    refine (hNa _).mono ?_
    rintro e w4 ⟨rfl, hbn4⟩
    replace H := H.next hbn4
    clear hbn4
    clear ca0 ca1 ca2
    obtain ⟨cb0, cb1, cb2⟩ := H.b0.cells
    go_wp2_with fail
    refine (hNb _).mono ?_
    rintro e w5 ⟨rfl, hbn5⟩
    replace H := H.next hbn5
    clear hbn5
    clear cb0 cb1 cb2
    obtain ⟨z0, z1, z2⟩ := H.r0.soft
    obtain ⟨g0, g1, g2⟩ := H.r0.cells
    obtain ⟨f0, f1, f2, hbF⟩ := H.fin (0) (0) (⟨#[]⟩)
    go_wp2_with fail
    rw [put_eq]
    generalize put _ (w.heap.size + 2) (0) (0) (⟨#[]⟩) = wf at f0 f1 f2 hbF ⊢
    refine bodyPost_ret (v := .tuple #[.agg #[.int .i64 (0), .int .i64 (0), .string (⟨#[]⟩)], .int .i64 (0)]) (by simp [results, Try.results19, go_sem, f0, f1, f2]) rfl ?_
    exact ⟨rfl, hbF⟩
  rw [hk] at hNa
  rw [hk'] at hNb
  rw [hk, hk', if_neg (by decide)] at hR
  clear hk hk'
  by_cases h8 : op ≤ 8
  · rw [if_pos h8] at hR
    have h3 : 3 ≤ op := by omega
    have hO := fun w => order_spec k a t k' a' t' w
    have hX := ordV_range (k, a, t.data.toList) (k', a', t'.data.toList)
    rw [hR]
    clear hR hva2 hvb2
    generalize ordV (k, a, t.data.toList) (k', a', t'.data.toList) = x at hO hX ⊢
    have hM := fun w => compare_spec op x w h3 h8 hX
    generalize holdsB op x = y at hM ⊢
    have hB := fun w => boolValue_spec y w
    unfold boolC
    generalize (if y then (1 : Int) else 0) = z at hB ⊢
    clear hX
    go_enter Try.func19, Try.ntmps19
    go_wp2_with fail
    have H := fr_new w k a t k' a' t'
    generalize (((w.alloc (.cells #[.int .i64 k, .int .i64 a, .string t] 27)).alloc (.cells #[.int .i64 k', .int .i64 a', .string t'] 27)).alloc (.cells #[.int .i64 0, .int .i64 0, .string ⟨#[]⟩] 27)) = V at H ⊢
    refine (hI _).mono ?_
    rintro e w0 ⟨rfl, rfl⟩
    obtain ⟨ca0, ca1, ca2⟩ := H.a0.cells
    go_wp2_with fail
    refine (hV _).mono ?_
    rintro e w1 ⟨rfl, hbn1⟩
    replace H := H.next hbn1
    clear hbn1
    clear ca0 ca1 ca2
    obtain ⟨cb0, cb1, cb2⟩ := H.b0.cells
    go_wp2_with fail
    refine (hW _).mono ?_
    rintro e w2 ⟨rfl, hbn2⟩
    replace H := H.next hbn2
    clear hbn2
    clear cb0 cb1 cb2
    obtain ⟨ca0, ca1, ca2⟩ := H.a0.cells
    obtain ⟨cb0, cb1, cb2⟩ := H.b0.cells
    go_wp2_with fail
    refine (hT _).mono ?_
    rintro e w3 ⟨rfl, hbn3⟩
    replace H := H.next hbn3
    clear hbn3
    clear ca0 ca1 ca2
    clear cb0 cb1 cb2
    obtain ⟨ca0, ca1, ca2⟩ := H.a0.cells
    go_wp2_with fail
    refine (hNa _).mono ?_
    rintro e w4 ⟨rfl, hbn4⟩
    replace H := H.next hbn4
    clear hbn4
    clear ca0 ca1 ca2
    obtain ⟨cb0, cb1, cb2⟩ := H.b0.cells
    go_wp2_with fail
    refine (hNb _).mono ?_
    rintro e w5 ⟨rfl, hbn5⟩
    replace H := H.next hbn5
    clear hbn5
    clear cb0 cb1 cb2
    obtain ⟨ca0, ca1, ca2⟩ := H.a0.cells
    obtain ⟨cb0, cb1, cb2⟩ := H.b0.cells
    go_wp2_with fail
    refine (hO _).mono ?_
    rintro e w6 ⟨rfl, hbn6⟩
    replace H := H.next hbn6
    clear hbn6
    clear ca0 ca1 ca2
    clear cb0 cb1 cb2
    go_wp2_with fail
    refine (hM _).mono ?_
    rintro e wm ⟨rfl, rfl⟩
    go_wp2_with fail
    refine (hB _).mono ?_
    rintro e w8 ⟨rfl, hbn8⟩
    replace H := H.next hbn8
    clear hbn8
    obtain ⟨z0, z1, z2⟩ := H.r0.soft
    obtain ⟨g0, g1, g2⟩ := H.r0.cells
    obtain ⟨f0, f1, f2, hbF⟩ := H.fin (3) (z) (⟨#[]⟩)
    go_wp2_with fail
    rw [put_eq]
    generalize put _ (w.heap.size + 2) (3) (z) (⟨#[]⟩) = wf at f0 f1 f2 hbF ⊢
    refine bodyPost_ret (v := .tuple #[.agg #[.int .i64 (3), .int .i64 (z), .string (⟨#[]⟩)], .int .i64 (0)]) (by simp [results, Try.results19, go_sem, f0, f1, f2]) rfl ?_
    exact ⟨rfl, hbF⟩
  rw [if_neg h8] at hR
  by_cases h9 : op = 9
  · subst h9
    rw [if_pos rfl] at hR
    have hs := text_small hva2
    have hs' := text_small hvb2
    rw [hR]
    clear hR hva2 hvb2 h8 h2
    unfold catC
    by_cases hl : t.size + t'.size ≤ 200
    · rw [if_pos hl]
      have hd : decide (200 < (t.size : Int) + (t'.size : Int)) = false := by simp; omega
      have hX := fun w => textValue_spec (t ++ t') w
      clear hl
      go_enter Try.func19, Try.ntmps19
      go_wp2_with fail
      have H := fr_new w k a t k' a' t'
      generalize (((w.alloc (.cells #[.int .i64 k, .int .i64 a, .string t] 27)).alloc (.cells #[.int .i64 k', .int .i64 a', .string t'] 27)).alloc (.cells #[.int .i64 0, .int .i64 0, .string ⟨#[]⟩] 27)) = V at H ⊢
      refine (hI _).mono ?_
      rintro e w0 ⟨rfl, rfl⟩
      obtain ⟨ca0, ca1, ca2⟩ := H.a0.cells
      go_wp2_with fail
      refine (hV _).mono ?_
      rintro e w1 ⟨rfl, hbn1⟩
      replace H := H.next hbn1
      clear hbn1
      clear ca0 ca1 ca2
      obtain ⟨cb0, cb1, cb2⟩ := H.b0.cells
      go_wp2_with fail
      refine (hW _).mono ?_
      rintro e w2 ⟨rfl, hbn2⟩
      replace H := H.next hbn2
      clear hbn2
      clear cb0 cb1 cb2
      obtain ⟨ca0, ca1, ca2⟩ := H.a0.cells
      obtain ⟨cb0, cb1, cb2⟩ := H.b0.cells
      go_wp2_with fail
      refine (hT _).mono ?_
      rintro e w3 ⟨rfl, hbn3⟩
      replace H := H.next hbn3
      clear hbn3
      clear ca0 ca1 ca2
      clear cb0 cb1 cb2
      obtain ⟨ca0, ca1, ca2⟩ := H.a0.cells
      go_wp2_with fail
      refine (hNa _).mono ?_
      rintro e w4 ⟨rfl, hbn4⟩
      replace H := H.next hbn4
      clear hbn4
      clear ca0 ca1 ca2
      obtain ⟨cb0, cb1, cb2⟩ := H.b0.cells
      go_wp2_with fail
      refine (hNb _).mono ?_
      rintro e w5 ⟨rfl, hbn5⟩
      replace H := H.next hbn5
      clear hbn5
      clear cb0 cb1 cb2
      obtain ⟨ca0, ca1, ca2⟩ := H.a0.cells
      obtain ⟨cb0, cb1, cb2⟩ := H.b0.cells
      go_wp2_with fail
      refine (hX _).mono ?_
      rintro e w6 ⟨rfl, hbn6⟩
      replace H := H.next hbn6
      clear hbn6
      clear ca0 ca1 ca2
      clear cb0 cb1 cb2
      obtain ⟨z0, z1, z2⟩ := H.r0.soft
      obtain ⟨g0, g1, g2⟩ := H.r0.cells
      obtain ⟨f0, f1, f2, hbF⟩ := H.fin (2) (0) (t ++ t')
      go_wp2_with fail
      rw [put_eq]
      generalize put _ (w.heap.size + 2) (2) (0) (t ++ t') = wf at f0 f1 f2 hbF ⊢
      refine bodyPost_ret (v := .tuple #[.agg #[.int .i64 (2), .int .i64 (0), .string (t ++ t')], .int .i64 (0)]) (by simp [results, Try.results19, go_sem, f0, f1, f2]) rfl ?_
      exact ⟨rfl, hbF⟩
    · rw [if_neg hl]
      have hd : decide (200 < (t.size : Int) + (t'.size : Int)) = true := by simp; omega
      unfold errC
      clear hl
      go_enter Try.func19, Try.ntmps19
      go_wp2_with fail
      have H := fr_new w k a t k' a' t'
      generalize (((w.alloc (.cells #[.int .i64 k, .int .i64 a, .string t] 27)).alloc (.cells #[.int .i64 k', .int .i64 a', .string t'] 27)).alloc (.cells #[.int .i64 0, .int .i64 0, .string ⟨#[]⟩] 27)) = V at H ⊢
      refine (hI _).mono ?_
      rintro e w0 ⟨rfl, rfl⟩
      obtain ⟨ca0, ca1, ca2⟩ := H.a0.cells
      go_wp2_with fail
      refine (hV _).mono ?_
      rintro e w1 ⟨rfl, hbn1⟩
      replace H := H.next hbn1
      clear hbn1
      clear ca0 ca1 ca2
      obtain ⟨cb0, cb1, cb2⟩ := H.b0.cells
      go_wp2_with fail
      refine (hW _).mono ?_
      rintro e w2 ⟨rfl, hbn2⟩
      replace H := H.next hbn2
      clear hbn2
      clear cb0 cb1 cb2
      obtain ⟨ca0, ca1, ca2⟩ := H.a0.cells
      obtain ⟨cb0, cb1, cb2⟩ := H.b0.cells
      go_wp2_with fail
      refine (hT _).mono ?_
      rintro e w3 ⟨rfl, hbn3⟩
      replace H := H.next hbn3
      clear hbn3
      clear ca0 ca1 ca2
      clear cb0 cb1 cb2
      obtain ⟨ca0, ca1, ca2⟩ := H.a0.cells
      go_wp2_with fail
      refine (hNa _).mono ?_
      rintro e w4 ⟨rfl, hbn4⟩
      replace H := H.next hbn4
      clear hbn4
      clear ca0 ca1 ca2
      obtain ⟨cb0, cb1, cb2⟩ := H.b0.cells
      go_wp2_with fail
      refine (hNb _).mono ?_
      rintro e w5 ⟨rfl, hbn5⟩
      replace H := H.next hbn5
      clear hbn5
      clear cb0 cb1 cb2
      obtain ⟨ca0, ca1, ca2⟩ := H.a0.cells
      obtain ⟨cb0, cb1, cb2⟩ := H.b0.cells
      obtain ⟨z0, z1, z2⟩ := H.r0.soft
      obtain ⟨g0, g1, g2⟩ := H.r0.cells
      obtain ⟨f0, f1, f2, hbF⟩ := H.fin (0) (0) (⟨#[]⟩)
      go_wp2_with fail
      rw [put_eq]
      generalize put _ (w.heap.size + 2) (0) (0) (⟨#[]⟩) = wf at f0 f1 f2 hbF ⊢
      refine bodyPost_ret (v := .tuple #[.agg #[.int .i64 (0), .int .i64 (0), .string (⟨#[]⟩)], .int .i64 (2)]) (by simp [results, Try.results19, go_sem, f0, f1, f2]) rfl ?_
      exact ⟨rfl, hbF⟩
  have q9 : (op == 9) = false := by simpa using h9
  rw [if_neg h9] at hR
  clear hva2 hvb2
  by_cases h10 : op = 10
  · subst h10
    have hE1 : numOpC 10 a a' = numC (a + a') := rfl
    rw [hR, hE1]
    clear hR hE1
    have hN := fun w => addNum_spec a a' w ha0 ha1 hb0 hb1
    have hX := fun w => numC_spec (a + a') w
    unfold NumR at hN
    generalize outI (a + a') = x at hN hX
    generalize fits (a + a') = c at hN hX
    obtain ⟨rk, rn, rt, rc, hE⟩ := CR.eta (numC (a + a'))
    rw [hE] at hX ⊢
    clear hE
    go_enter Try.func19, Try.ntmps19
    go_wp2_with fail
    have H := fr_new w k a t k' a' t'
    generalize (((w.alloc (.cells #[.int .i64 k, .int .i64 a, .string t] 27)).alloc (.cells #[.int .i64 k', .int .i64 a', .string t'] 27)).alloc (.cells #[.int .i64 0, .int .i64 0, .string ⟨#[]⟩] 27)) = V at H ⊢
    refine (hI _).mono ?_
    rintro e w0 ⟨rfl, rfl⟩
    obtain ⟨ca0, ca1, ca2⟩ := H.a0.cells
    go_wp2_with fail
    refine (hV _).mono ?_
    rintro e w1 ⟨rfl, hbn1⟩
    replace H := H.next hbn1
    clear hbn1
    clear ca0 ca1 ca2
    obtain ⟨cb0, cb1, cb2⟩ := H.b0.cells
    go_wp2_with fail
    refine (hW _).mono ?_
    rintro e w2 ⟨rfl, hbn2⟩
    replace H := H.next hbn2
    clear hbn2
    clear cb0 cb1 cb2
    obtain ⟨ca0, ca1, ca2⟩ := H.a0.cells
    obtain ⟨cb0, cb1, cb2⟩ := H.b0.cells
    go_wp2_with fail
    refine (hT _).mono ?_
    rintro e w3 ⟨rfl, hbn3⟩
    replace H := H.next hbn3
    clear hbn3
    clear ca0 ca1 ca2
    clear cb0 cb1 cb2
    obtain ⟨ca0, ca1, ca2⟩ := H.a0.cells
    go_wp2_with fail
    refine (hNa _).mono ?_
    rintro e w4 ⟨rfl, hbn4⟩
    replace H := H.next hbn4
    clear hbn4
    clear ca0 ca1 ca2
    obtain ⟨cb0, cb1, cb2⟩ := H.b0.cells
    go_wp2_with fail
    refine (hNb _).mono ?_
    rintro e w5 ⟨rfl, hbn5⟩
    replace H := H.next hbn5
    clear hbn5
    clear cb0 cb1 cb2
    obtain ⟨ca0, ca1, ca2⟩ := H.a0.cells
    obtain ⟨cb0, cb1, cb2⟩ := H.b0.cells
    go_wp2_with fail
    refine (hN _).mono ?_
    rintro e w6 ⟨rfl, rfl⟩
    go_wp2_with fail
    refine (hX _).mono ?_
    rintro e w7 ⟨rfl, hbn7⟩
    replace H := H.next hbn7
    clear hbn7
    clear ca0 ca1 ca2
    clear cb0 cb1 cb2
    obtain ⟨z0, z1, z2⟩ := H.r0.soft
    obtain ⟨g0, g1, g2⟩ := H.r0.cells
    obtain ⟨f0, f1, f2, hbF⟩ := H.fin (rk) (rn) (rt)
    go_wp2_with fail
    rw [put_eq]
    generalize put _ (w.heap.size + 2) (rk) (rn) (rt) = wf at f0 f1 f2 hbF ⊢
    refine bodyPost_ret (v := .tuple #[.agg #[.int .i64 (rk), .int .i64 (rn), .string (rt)], .int .i64 (rc)]) (by simp [results, Try.results19, go_sem, f0, f1, f2]) rfl ?_
    exact ⟨rfl, hbF⟩
  have q10 : (op == 10) = false := by simpa using h10
  by_cases h11 : op = 11
  · subst h11
    have hE1 : numOpC 11 a a' = numC (a - a') := rfl
    rw [hR, hE1]
    clear hR hE1
    have hN := fun w => subNum_spec a a' w ha0 ha1 hb0 hb1
    have hX := fun w => numC_spec (a - a') w
    unfold NumR at hN
    generalize outI (a - a') = x at hN hX
    generalize fits (a - a') = c at hN hX
    obtain ⟨rk, rn, rt, rc, hE⟩ := CR.eta (numC (a - a'))
    rw [hE] at hX ⊢
    clear hE
    go_enter Try.func19, Try.ntmps19
    go_wp2_with fail
    have H := fr_new w k a t k' a' t'
    generalize (((w.alloc (.cells #[.int .i64 k, .int .i64 a, .string t] 27)).alloc (.cells #[.int .i64 k', .int .i64 a', .string t'] 27)).alloc (.cells #[.int .i64 0, .int .i64 0, .string ⟨#[]⟩] 27)) = V at H ⊢
    refine (hI _).mono ?_
    rintro e w0 ⟨rfl, rfl⟩
    obtain ⟨ca0, ca1, ca2⟩ := H.a0.cells
    go_wp2_with fail
    refine (hV _).mono ?_
    rintro e w1 ⟨rfl, hbn1⟩
    replace H := H.next hbn1
    clear hbn1
    clear ca0 ca1 ca2
    obtain ⟨cb0, cb1, cb2⟩ := H.b0.cells
    go_wp2_with fail
    refine (hW _).mono ?_
    rintro e w2 ⟨rfl, hbn2⟩
    replace H := H.next hbn2
    clear hbn2
    clear cb0 cb1 cb2
    obtain ⟨ca0, ca1, ca2⟩ := H.a0.cells
    obtain ⟨cb0, cb1, cb2⟩ := H.b0.cells
    go_wp2_with fail
    refine (hT _).mono ?_
    rintro e w3 ⟨rfl, hbn3⟩
    replace H := H.next hbn3
    clear hbn3
    clear ca0 ca1 ca2
    clear cb0 cb1 cb2
    obtain ⟨ca0, ca1, ca2⟩ := H.a0.cells
    go_wp2_with fail
    refine (hNa _).mono ?_
    rintro e w4 ⟨rfl, hbn4⟩
    replace H := H.next hbn4
    clear hbn4
    clear ca0 ca1 ca2
    obtain ⟨cb0, cb1, cb2⟩ := H.b0.cells
    go_wp2_with fail
    refine (hNb _).mono ?_
    rintro e w5 ⟨rfl, hbn5⟩
    replace H := H.next hbn5
    clear hbn5
    clear cb0 cb1 cb2
    obtain ⟨ca0, ca1, ca2⟩ := H.a0.cells
    obtain ⟨cb0, cb1, cb2⟩ := H.b0.cells
    go_wp2_with fail
    refine (hN _).mono ?_
    rintro e w6 ⟨rfl, rfl⟩
    go_wp2_with fail
    refine (hX _).mono ?_
    rintro e w7 ⟨rfl, hbn7⟩
    replace H := H.next hbn7
    clear hbn7
    clear ca0 ca1 ca2
    clear cb0 cb1 cb2
    obtain ⟨z0, z1, z2⟩ := H.r0.soft
    obtain ⟨g0, g1, g2⟩ := H.r0.cells
    obtain ⟨f0, f1, f2, hbF⟩ := H.fin (rk) (rn) (rt)
    go_wp2_with fail
    rw [put_eq]
    generalize put _ (w.heap.size + 2) (rk) (rn) (rt) = wf at f0 f1 f2 hbF ⊢
    refine bodyPost_ret (v := .tuple #[.agg #[.int .i64 (rk), .int .i64 (rn), .string (rt)], .int .i64 (rc)]) (by simp [results, Try.results19, go_sem, f0, f1, f2]) rfl ?_
    exact ⟨rfl, hbF⟩
  have q11 : (op == 11) = false := by simpa using h11
  by_cases h12 : op = 12
  · subst h12
    have hE1 : numOpC 12 a a' = numC (a * a') := rfl
    rw [hR, hE1]
    clear hR hE1
    have hN := fun w => mulNum_spec a a' w ha0 ha1 hb0 hb1
    have hX := fun w => numC_spec (a * a') w
    unfold NumR at hN
    generalize outI (a * a') = x at hN hX
    generalize fits (a * a') = c at hN hX
    obtain ⟨rk, rn, rt, rc, hE⟩ := CR.eta (numC (a * a'))
    rw [hE] at hX ⊢
    clear hE
    go_enter Try.func19, Try.ntmps19
    go_wp2_with fail
    have H := fr_new w k a t k' a' t'
    generalize (((w.alloc (.cells #[.int .i64 k, .int .i64 a, .string t] 27)).alloc (.cells #[.int .i64 k', .int .i64 a', .string t'] 27)).alloc (.cells #[.int .i64 0, .int .i64 0, .string ⟨#[]⟩] 27)) = V at H ⊢
    refine (hI _).mono ?_
    rintro e w0 ⟨rfl, rfl⟩
    obtain ⟨ca0, ca1, ca2⟩ := H.a0.cells
    go_wp2_with fail
    refine (hV _).mono ?_
    rintro e w1 ⟨rfl, hbn1⟩
    replace H := H.next hbn1
    clear hbn1
    clear ca0 ca1 ca2
    obtain ⟨cb0, cb1, cb2⟩ := H.b0.cells
    go_wp2_with fail
    refine (hW _).mono ?_
    rintro e w2 ⟨rfl, hbn2⟩
    replace H := H.next hbn2
    clear hbn2
    clear cb0 cb1 cb2
    obtain ⟨ca0, ca1, ca2⟩ := H.a0.cells
    obtain ⟨cb0, cb1, cb2⟩ := H.b0.cells
    go_wp2_with fail
    refine (hT _).mono ?_
    rintro e w3 ⟨rfl, hbn3⟩
    replace H := H.next hbn3
    clear hbn3
    clear ca0 ca1 ca2
    clear cb0 cb1 cb2
    obtain ⟨ca0, ca1, ca2⟩ := H.a0.cells
    go_wp2_with fail
    refine (hNa _).mono ?_
    rintro e w4 ⟨rfl, hbn4⟩
    replace H := H.next hbn4
    clear hbn4
    clear ca0 ca1 ca2
    obtain ⟨cb0, cb1, cb2⟩ := H.b0.cells
    go_wp2_with fail
    refine (hNb _).mono ?_
    rintro e w5 ⟨rfl, hbn5⟩
    replace H := H.next hbn5
    clear hbn5
    clear cb0 cb1 cb2
    obtain ⟨ca0, ca1, ca2⟩ := H.a0.cells
    obtain ⟨cb0, cb1, cb2⟩ := H.b0.cells
    go_wp2_with fail
    refine (hN _).mono ?_
    rintro e w6 ⟨rfl, rfl⟩
    go_wp2_with fail
    refine (hX _).mono ?_
    rintro e w7 ⟨rfl, hbn7⟩
    replace H := H.next hbn7
    clear hbn7
    clear ca0 ca1 ca2
    clear cb0 cb1 cb2
    obtain ⟨z0, z1, z2⟩ := H.r0.soft
    obtain ⟨g0, g1, g2⟩ := H.r0.cells
    obtain ⟨f0, f1, f2, hbF⟩ := H.fin (rk) (rn) (rt)
    go_wp2_with fail
    rw [put_eq]
    generalize put _ (w.heap.size + 2) (rk) (rn) (rt) = wf at f0 f1 f2 hbF ⊢
    refine bodyPost_ret (v := .tuple #[.agg #[.int .i64 (rk), .int .i64 (rn), .string (rt)], .int .i64 (rc)]) (by simp [results, Try.results19, go_sem, f0, f1, f2]) rfl ?_
    exact ⟨rfl, hbF⟩
  have q12 : (op == 12) = false := by simpa using h12
  have hX := fun w => divide_spec op a a' w (by omega) h14 ha0 ha1 hb0 hb1
  rw [hR]
  clear hR
  obtain ⟨rk, rn, rt, rc, hE⟩ := CR.eta (numOpC op a a')
  rw [hE] at hX ⊢
  clear hE
  rcases (show op = 13 ∨ op = 14 by omega) with rfl | rfl
  all_goals
    go_enter Try.func19, Try.ntmps19
    go_wp2_with fail
    have H := fr_new w k a t k' a' t'
    generalize (((w.alloc (.cells #[.int .i64 k, .int .i64 a, .string t] 27)).alloc (.cells #[.int .i64 k', .int .i64 a', .string t'] 27)).alloc (.cells #[.int .i64 0, .int .i64 0, .string ⟨#[]⟩] 27)) = V at H ⊢
    refine (hI _).mono ?_
    rintro e w0 ⟨rfl, rfl⟩
    obtain ⟨ca0, ca1, ca2⟩ := H.a0.cells
    go_wp2_with fail
    refine (hV _).mono ?_
    rintro e w1 ⟨rfl, hbn1⟩
    replace H := H.next hbn1
    clear hbn1
    clear ca0 ca1 ca2
    obtain ⟨cb0, cb1, cb2⟩ := H.b0.cells
    go_wp2_with fail
    refine (hW _).mono ?_
    rintro e w2 ⟨rfl, hbn2⟩
    replace H := H.next hbn2
    clear hbn2
    clear cb0 cb1 cb2
    obtain ⟨ca0, ca1, ca2⟩ := H.a0.cells
    obtain ⟨cb0, cb1, cb2⟩ := H.b0.cells
    go_wp2_with fail
    refine (hT _).mono ?_
    rintro e w3 ⟨rfl, hbn3⟩
    replace H := H.next hbn3
    clear hbn3
    clear ca0 ca1 ca2
    clear cb0 cb1 cb2
    obtain ⟨ca0, ca1, ca2⟩ := H.a0.cells
    go_wp2_with fail
    refine (hNa _).mono ?_
    rintro e w4 ⟨rfl, hbn4⟩
    replace H := H.next hbn4
    clear hbn4
    clear ca0 ca1 ca2
    obtain ⟨cb0, cb1, cb2⟩ := H.b0.cells
    go_wp2_with fail
    refine (hNb _).mono ?_
    rintro e w5 ⟨rfl, hbn5⟩
    replace H := H.next hbn5
    clear hbn5
    clear cb0 cb1 cb2
    obtain ⟨ca0, ca1, ca2⟩ := H.a0.cells
    obtain ⟨cb0, cb1, cb2⟩ := H.b0.cells
    go_wp2_with fail
    refine (hX _).mono ?_
    rintro e w7 ⟨rfl, hbn7⟩
    replace H := H.next hbn7
    clear hbn7
    clear ca0 ca1 ca2
    clear cb0 cb1 cb2
    obtain ⟨z0, z1, z2⟩ := H.r0.soft
    obtain ⟨g0, g1, g2⟩ := H.r0.cells
    obtain ⟨f0, f1, f2, hbF⟩ := H.fin (rk) (rn) (rt)
    go_wp2_with fail
    rw [put_eq]
    generalize put _ (w.heap.size + 2) (rk) (rn) (rt) = wf at f0 f1 f2 hbF ⊢
    refine bodyPost_ret (v := .tuple #[.agg #[.int .i64 (rk), .int .i64 (rn), .string (rt)], .int .i64 (rc)]) (by simp [results, Try.results19, go_sem, f0, f1, f2]) rfl ?_
    exact ⟨rfl, hbF⟩
end Go.Proofs.Ytjekhgekldkopaa
