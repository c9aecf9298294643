
/- The contract of the program's connectives. -/
import Derived.Test.YtjekhgekldkopaaCalcI0
import Derived.Test.YtjekhgekldkopaaLogS
namespace Go.Proofs.Ytjekhgekldkopaa
open Go.RowKit

set_option maxRecDepth 100000 in
set_option maxHeartbeats 8000000 in
theorem logic_impl (op : Int) (k a : Int) (t : ByteArray) (k' a' : Int) (t' : ByteArray) (w : World) (h1 : 1 ≤ op) (h2 : op ≤ 2) (hva : valOk k a t.data.toList = true) (hvb : valOk k' a' t'.data.toList = true) (hx : kindIn k 3 = true) (hy : kindIn k' 3 = true) : Calls Try.prog 45 #[.int .i64 op, .agg #[.int .i64 k, .int .i64 a, .string t], .agg #[.int .i64 k', .int .i64 a', .string t']] w (CopyV (logicC op k a k' a').k (logicC op k a k' a').n (logicC op k a k' a').t w) := by
  obtain ⟨hka, rfl⟩ := val_logic hva hx
  obtain ⟨hkb, rfl⟩ := val_logic hvb hy
  clear hva hvb hx hy
  have hop : op = 1 ∨ op = 2 := by omega
  clear h1 h2
  rcases hop with rfl | rfl <;> rcases hka with ⟨rfl, rfl⟩ | ⟨rfl, rfl⟩ | ⟨rfl, rfl⟩ <;> rcases hkb with ⟨rfl, rfl⟩ | ⟨rfl, rfl⟩ | ⟨rfl, rfl⟩
  · have hD := fun w => boolValue_implC true w
    go_enter Try.func45, Try.ntmps45
    go_wp2_with fail
    have H := fr_new w 0 0 ⟨#[]⟩ 0 0 ⟨#[]⟩
    generalize (((w.alloc (.cells #[.int .i64 0, .int .i64 0, .string ⟨#[]⟩] 27)).alloc (.cells #[.int .i64 0, .int .i64 0, .string ⟨#[]⟩] 27)).alloc (.cells #[.int .i64 0, .int .i64 0, .string ⟨#[]⟩] 27)) = V at H ⊢
    refine (hD _).mono ?_
    rintro e wd ⟨rfl, hbd⟩
    replace H := H.next hbd
    clear hbd hD
    have H3 := H.next ((Below.refl _ _).alloc (Nat.le_refl _) (.cells #[.int .i64 3, .int .i64 1, .string ⟨#[]⟩] 27))
    have hd : ValAt (wd.alloc (.cells #[.int .i64 3, .int .i64 1, .string ⟨#[]⟩] 27)) wd.heap.size 3 1 ⟨#[]⟩ := heap_alloc_new wd _
    obtain ⟨d0, d1, d2⟩ := hd.cells
    clear hd H
    obtain ⟨ca0, ca1, ca2⟩ := H3.a0.cells
    obtain ⟨cb0, cb1, cb2⟩ := H3.b0.cells
    have hNa := fun w => null_impl 0 0 ⟨#[]⟩ w
    have hNb := fun w => null_impl 0 0 ⟨#[]⟩ w
    go_wp2_with fail
    generalize wd.alloc (.cells #[.int .i64 3, .int .i64 1, .string ⟨#[]⟩] 27) = VD at H3 d0 d1 d2 ca0 ca1 ca2 cb0 cb1 cb2 ⊢
    have H := H3
    clear H3 d0 d1 d2
    refine (hNa _).mono ?_
    rintro e w3 ⟨rfl, hbn3⟩
    replace H := H.next hbn3
    clear hbn3
    clear ca0 ca1 ca2
    clear cb0 cb1 cb2
    obtain ⟨z0, z1, z2⟩ := H.r0.soft
    obtain ⟨g0, g1, g2⟩ := H.r0.cells
    obtain ⟨f0, f1, f2, hbF⟩ := H.fin (0) (0) (⟨#[]⟩)
    go_wp2_with fail
    rw [put_eq]
    generalize put _ (w.heap.size + 2) (0) (0) (⟨#[]⟩) = wf at f0 f1 f2 hbF ⊢
    refine bodyPost_ret (v := .agg #[.int .i64 (0), .int .i64 (0), .string (⟨#[]⟩)]) (by simp [results, Try.results45, go_sem, f0, f1, f2]) rfl ?_
    exact ⟨rfl, hbF⟩
  · have hD := fun w => boolValue_implC true w
    go_enter Try.func45, Try.ntmps45
    go_wp2_with fail
    have H := fr_new w 0 0 ⟨#[]⟩ 3 0 ⟨#[]⟩
    generalize (((w.alloc (.cells #[.int .i64 0, .int .i64 0, .string ⟨#[]⟩] 27)).alloc (.cells #[.int .i64 3, .int .i64 0, .string ⟨#[]⟩] 27)).alloc (.cells #[.int .i64 0, .int .i64 0, .string ⟨#[]⟩] 27)) = V at H ⊢
    refine (hD _).mono ?_
    rintro e wd ⟨rfl, hbd⟩
    replace H := H.next hbd
    clear hbd hD
    have H3 := H.next ((Below.refl _ _).alloc (Nat.le_refl _) (.cells #[.int .i64 3, .int .i64 1, .string ⟨#[]⟩] 27))
    have hd : ValAt (wd.alloc (.cells #[.int .i64 3, .int .i64 1, .string ⟨#[]⟩] 27)) wd.heap.size 3 1 ⟨#[]⟩ := heap_alloc_new wd _
    obtain ⟨d0, d1, d2⟩ := hd.cells
    clear hd H
    obtain ⟨ca0, ca1, ca2⟩ := H3.a0.cells
    obtain ⟨cb0, cb1, cb2⟩ := H3.b0.cells
    have hNa := fun w => null_impl 0 0 ⟨#[]⟩ w
    have hNb := fun w => null_impl 3 0 ⟨#[]⟩ w
    go_wp2_with fail
    generalize wd.alloc (.cells #[.int .i64 3, .int .i64 1, .string ⟨#[]⟩] 27) = VD at H3 d0 d1 d2 ca0 ca1 ca2 cb0 cb1 cb2 ⊢
    have H := H3
    clear H3 d0 d1 d2
    refine (hNa _).mono ?_
    rintro e w3 ⟨rfl, hbn3⟩
    replace H := H.next hbn3
    clear hbn3
    clear ca0 ca1 ca2
    clear cb0 cb1 cb2
    obtain ⟨z0, z1, z2⟩ := H.r0.soft
    obtain ⟨g0, g1, g2⟩ := H.r0.cells
    obtain ⟨f0, f1, f2, hbF⟩ := H.fin (0) (0) (⟨#[]⟩)
    go_wp2_with fail
    rw [put_eq]
    generalize put _ (w.heap.size + 2) (0) (0) (⟨#[]⟩) = wf at f0 f1 f2 hbF ⊢
    refine bodyPost_ret (v := .agg #[.int .i64 (0), .int .i64 (0), .string (⟨#[]⟩)]) (by simp [results, Try.results45, go_sem, f0, f1, f2]) rfl ?_
    exact ⟨rfl, hbF⟩
  · have hD := fun w => boolValue_implC true w
    go_enter Try.func45, Try.ntmps45
    go_wp2_with fail
    have H := fr_new w 0 0 ⟨#[]⟩ 3 1 ⟨#[]⟩
    generalize (((w.alloc (.cells #[.int .i64 0, .int .i64 0, .string ⟨#[]⟩] 27)).alloc (.cells #[.int .i64 3, .int .i64 1, .string ⟨#[]⟩] 27)).alloc (.cells #[.int .i64 0, .int .i64 0, .string ⟨#[]⟩] 27)) = V at H ⊢
    refine (hD _).mono ?_
    rintro e wd ⟨rfl, hbd⟩
    replace H := H.next hbd
    clear hbd hD
    have H3 := H.next ((Below.refl _ _).alloc (Nat.le_refl _) (.cells #[.int .i64 3, .int .i64 1, .string ⟨#[]⟩] 27))
    have hd : ValAt (wd.alloc (.cells #[.int .i64 3, .int .i64 1, .string ⟨#[]⟩] 27)) wd.heap.size 3 1 ⟨#[]⟩ := heap_alloc_new wd _
    obtain ⟨d0, d1, d2⟩ := hd.cells
    clear hd H
    obtain ⟨ca0, ca1, ca2⟩ := H3.a0.cells
    obtain ⟨cb0, cb1, cb2⟩ := H3.b0.cells
    obtain ⟨z0, z1, z2⟩ := H3.r0.soft
    obtain ⟨g0, g1, g2⟩ := H3.r0.cells
    obtain ⟨f0, f1, f2, hbF⟩ := H3.fin (3) (1) (⟨#[]⟩)
    go_wp2_with fail
    rw [put_eq]
    generalize put _ (w.heap.size + 2) (3) (1) (⟨#[]⟩) = wf at f0 f1 f2 hbF ⊢
    refine bodyPost_ret (v := .agg #[.int .i64 (3), .int .i64 (1), .string (⟨#[]⟩)]) (by simp [results, Try.results45, go_sem, f0, f1, f2]) rfl ?_
    exact ⟨rfl, hbF⟩
  · have hD := fun w => boolValue_implC true w
    go_enter Try.func45, Try.ntmps45
    go_wp2_with fail
    have H := fr_new w 3 0 ⟨#[]⟩ 0 0 ⟨#[]⟩
    generalize (((w.alloc (.cells #[.int .i64 3, .int .i64 0, .string ⟨#[]⟩] 27)).alloc (.cells #[.int .i64 0, .int .i64 0, .string ⟨#[]⟩] 27)).alloc (.cells #[.int .i64 0, .int .i64 0, .string ⟨#[]⟩] 27)) = V at H ⊢
    refine (hD _).mono ?_
    rintro e wd ⟨rfl, hbd⟩
    replace H := H.next hbd
    clear hbd hD
    have H3 := H.next ((Below.refl _ _).alloc (Nat.le_refl _) (.cells #[.int .i64 3, .int .i64 1, .string ⟨#[]⟩] 27))
    have hd : ValAt (wd.alloc (.cells #[.int .i64 3, .int .i64 1, .string ⟨#[]⟩] 27)) wd.heap.size 3 1 ⟨#[]⟩ := heap_alloc_new wd _
    obtain ⟨d0, d1, d2⟩ := hd.cells
    clear hd H
    obtain ⟨ca0, ca1, ca2⟩ := H3.a0.cells
    obtain ⟨cb0, cb1, cb2⟩ := H3.b0.cells
    have hNa := fun w => null_impl 3 0 ⟨#[]⟩ w
    have hNb := fun w => null_impl 0 0 ⟨#[]⟩ w
    go_wp2_with fail
    generalize wd.alloc (.cells #[.int .i64 3, .int .i64 1, .string ⟨#[]⟩] 27) = VD at H3 d0 d1 d2 ca0 ca1 ca2 cb0 cb1 cb2 ⊢
    have H := H3
    clear H3 d0 d1 d2
    refine (hNa _).mono ?_
    rintro e w3 ⟨rfl, hbn3⟩
    replace H := H.next hbn3
    clear hbn3
    clear ca0 ca1 ca2
    clear cb0 cb1 cb2
    obtain ⟨cb0, cb1, cb2⟩ := H.b0.cells
    go_wp2_with fail
    refine (hNb _).mono ?_
    rintro e w4 ⟨rfl, hbn4⟩
    replace H := H.next hbn4
    clear hbn4
    clear cb0 cb1 cb2
    obtain ⟨z0, z1, z2⟩ := H.r0.soft
    obtain ⟨g0, g1, g2⟩ := H.r0.cells
    obtain ⟨f0, f1, f2, hbF⟩ := H.fin (0) (0) (⟨#[]⟩)
    go_wp2_with fail
    rw [put_eq]
    generalize put _ (w.heap.size + 2) (0) (0) (⟨#[]⟩) = wf at f0 f1 f2 hbF ⊢
    refine bodyPost_ret (v := .agg #[.int .i64 (0), .int .i64 (0), .string (⟨#[]⟩)]) (by simp [results, Try.results45, go_sem, f0, f1, f2]) rfl ?_
    exact ⟨rfl, hbF⟩
  · have hD := fun w => boolValue_implC true w
    go_enter Try.func45, Try.ntmps45
    go_wp2_with fail
    have H := fr_new w 3 0 ⟨#[]⟩ 3 0 ⟨#[]⟩
    generalize (((w.alloc (.cells #[.int .i64 3, .int .i64 0, .string ⟨#[]⟩] 27)).alloc (.cells #[.int .i64 3, .int .i64 0, .string ⟨#[]⟩] 27)).alloc (.cells #[.int .i64 0, .int .i64 0, .string ⟨#[]⟩] 27)) = V at H ⊢
    refine (hD _).mono ?_
    rintro e wd ⟨rfl, hbd⟩
    replace H := H.next hbd
    clear hbd hD
    have H3 := H.next ((Below.refl _ _).alloc (Nat.le_refl _) (.cells #[.int .i64 3, .int .i64 1, .string ⟨#[]⟩] 27))
    have hd : ValAt (wd.alloc (.cells #[.int .i64 3, .int .i64 1, .string ⟨#[]⟩] 27)) wd.heap.size 3 1 ⟨#[]⟩ := heap_alloc_new wd _
    obtain ⟨d0, d1, d2⟩ := hd.cells
    clear hd H
    obtain ⟨ca0, ca1, ca2⟩ := H3.a0.cells
    obtain ⟨cb0, cb1, cb2⟩ := H3.b0.cells
    have hNa := fun w => null_impl 3 0 ⟨#[]⟩ w
    have hNb := fun w => null_impl 3 0 ⟨#[]⟩ w
    go_wp2_with fail
    generalize wd.alloc (.cells #[.int .i64 3, .int .i64 1, .string ⟨#[]⟩] 27) = VD at H3 d0 d1 d2 ca0 ca1 ca2 cb0 cb1 cb2 ⊢
    have H := H3
    clear H3 d0 d1 d2
    refine (hNa _).mono ?_
    rintro e w3 ⟨rfl, hbn3⟩
    replace H := H.next hbn3
    clear hbn3
    clear ca0 ca1 ca2
    clear cb0 cb1 cb2
    obtain ⟨cb0, cb1, cb2⟩ := H.b0.cells
    go_wp2_with fail
    refine (hNb _).mono ?_
    rintro e w4 ⟨rfl, hbn4⟩
    replace H := H.next hbn4
    clear hbn4
    clear cb0 cb1 cb2
    have hG := fun w => boolValue_implC false w
    go_wp2_with fail
    refine (hG _).mono ?_
    rintro e w5 ⟨rfl, hbn5⟩
    replace H := H.next hbn5
    clear hbn5
    obtain ⟨z0, z1, z2⟩ := H.r0.soft
    obtain ⟨g0, g1, g2⟩ := H.r0.cells
    obtain ⟨f0, f1, f2, hbF⟩ := H.fin (3) (0) (⟨#[]⟩)
    go_wp2_with fail
    rw [put_eq]
    generalize put _ (w.heap.size + 2) (3) (0) (⟨#[]⟩) = wf at f0 f1 f2 hbF ⊢
    refine bodyPost_ret (v := .agg #[.int .i64 (3), .int .i64 (0), .string (⟨#[]⟩)]) (by simp [results, Try.results45, go_sem, f0, f1, f2]) rfl ?_
    exact ⟨rfl, hbF⟩
  · have hD := fun w => boolValue_implC true w
    go_enter Try.func45, Try.ntmps45
    go_wp2_with fail
    have H := fr_new w 3 0 ⟨#[]⟩ 3 1 ⟨#[]⟩
    generalize (((w.alloc (.cells #[.int .i64 3, .int .i64 0, .string ⟨#[]⟩] 27)).alloc (.cells #[.int .i64 3, .int .i64 1, .string ⟨#[]⟩] 27)).alloc (.cells #[.int .i64 0, .int .i64 0, .string ⟨#[]⟩] 27)) = V at H ⊢
    refine (hD _).mono ?_
    rintro e wd ⟨rfl, hbd⟩
    replace H := H.next hbd
    clear hbd hD
    have H3 := H.next ((Below.refl _ _).alloc (Nat.le_refl _) (.cells #[.int .i64 3, .int .i64 1, .string ⟨#[]⟩] 27))
    have hd : ValAt (wd.alloc (.cells #[.int .i64 3, .int .i64 1, .string ⟨#[]⟩] 27)) wd.heap.size 3 1 ⟨#[]⟩ := heap_alloc_new wd _
    obtain ⟨d0, d1, d2⟩ := hd.cells
    clear hd H
    obtain ⟨ca0, ca1, ca2⟩ := H3.a0.cells
    obtain ⟨cb0, cb1, cb2⟩ := H3.b0.cells
    obtain ⟨z0, z1, z2⟩ := H3.r0.soft
    obtain ⟨g0, g1, g2⟩ := H3.r0.cells
    obtain ⟨f0, f1, f2, hbF⟩ := H3.fin (3) (1) (⟨#[]⟩)
    go_wp2_with fail
    rw [put_eq]
    generalize put _ (w.heap.size + 2) (3) (1) (⟨#[]⟩) = wf at f0 f1 f2 hbF ⊢
    refine bodyPost_ret (v := .agg #[.int .i64 (3), .int .i64 (1), .string (⟨#[]⟩)]) (by simp [results, Try.results45, go_sem, f0, f1, f2]) rfl ?_
    exact ⟨rfl, hbF⟩
  · have hD := fun w => boolValue_implC true w
    go_enter Try.func45, Try.ntmps45
    go_wp2_with fail
    have H := fr_new w 3 1 ⟨#[]⟩ 0 0 ⟨#[]⟩
    generalize (((w.alloc (.cells #[.int .i64 3, .int .i64 1, .string ⟨#[]⟩] 27)).alloc (.cells #[.int .i64 0, .int .i64 0, .string ⟨#[]⟩] 27)).alloc (.cells #[.int .i64 0, .int .i64 0, .string ⟨#[]⟩] 27)) = V at H ⊢
    refine (hD _).mono ?_
    rintro e wd ⟨rfl, hbd⟩
    replace H := H.next hbd
    clear hbd hD
    have H3 := H.next ((Below.refl _ _).alloc (Nat.le_refl _) (.cells #[.int .i64 3, .int .i64 1, .string ⟨#[]⟩] 27))
    have hd : ValAt (wd.alloc (.cells #[.int .i64 3, .int .i64 1, .string ⟨#[]⟩] 27)) wd.heap.size 3 1 ⟨#[]⟩ := heap_alloc_new wd _
    obtain ⟨d0, d1, d2⟩ := hd.cells
    clear hd H
    obtain ⟨ca0, ca1, ca2⟩ := H3.a0.cells
    obtain ⟨cb0, cb1, cb2⟩ := H3.b0.cells
    obtain ⟨z0, z1, z2⟩ := H3.r0.soft
    obtain ⟨g0, g1, g2⟩ := H3.r0.cells
    obtain ⟨f0, f1, f2, hbF⟩ := H3.fin (3) (1) (⟨#[]⟩)
    go_wp2_with fail
    rw [put_eq]
    generalize put _ (w.heap.size + 2) (3) (1) (⟨#[]⟩) = wf at f0 f1 f2 hbF ⊢
    refine bodyPost_ret (v := .agg #[.int .i64 (3), .int .i64 (1), .string (⟨#[]⟩)]) (by simp [results, Try.results45, go_sem, f0, f1, f2]) rfl ?_
    exact ⟨rfl, hbF⟩
  · have hD := fun w => boolValue_implC true w
    go_enter Try.func45, Try.ntmps45
    go_wp2_with fail
    have H := fr_new w 3 1 ⟨#[]⟩ 3 0 ⟨#[]⟩
    generalize (((w.alloc (.cells #[.int .i64 3, .int .i64 1, .string ⟨#[]⟩] 27)).alloc (.cells #[.int .i64 3, .int .i64 0, .string ⟨#[]⟩] 27)).alloc (.cells #[.int .i64 0, .int .i64 0, .string ⟨#[]⟩] 27)) = V at H ⊢
    refine (hD _).mono ?_
    rintro e wd ⟨rfl, hbd⟩
    replace H := H.next hbd
    clear hbd hD
    have H3 := H.next ((Below.refl _ _).alloc (Nat.le_refl _) (.cells #[.int .i64 3, .int .i64 1, .string ⟨#[]⟩] 27))
    have hd : ValAt (wd.alloc (.cells #[.int .i64 3, .int .i64 1, .string ⟨#[]⟩] 27)) wd.heap.size 3 1 ⟨#[]⟩ := heap_alloc_new wd _
    obtain ⟨d0, d1, d2⟩ := hd.cells
    clear hd H
    obtain ⟨ca0, ca1, ca2⟩ := H3.a0.cells
    obtain ⟨cb0, cb1, cb2⟩ := H3.b0.cells
    obtain ⟨z0, z1, z2⟩ := H3.r0.soft
    obtain ⟨g0, g1, g2⟩ := H3.r0.cells
    obtain ⟨f0, f1, f2, hbF⟩ := H3.fin (3) (1) (⟨#[]⟩)
    go_wp2_with fail
    rw [put_eq]
    generalize put _ (w.heap.size + 2) (3) (1) (⟨#[]⟩) = wf at f0 f1 f2 hbF ⊢
    refine bodyPost_ret (v := .agg #[.int .i64 (3), .int .i64 (1), .string (⟨#[]⟩)]) (by simp [results, Try.results45, go_sem, f0, f1, f2]) rfl ?_
    exact ⟨rfl, hbF⟩
  · have hD := fun w => boolValue_implC true w
    go_enter Try.func45, Try.ntmps45
    go_wp2_with fail
    have H := fr_new w 3 1 ⟨#[]⟩ 3 1 ⟨#[]⟩
    generalize (((w.alloc (.cells #[.int .i64 3, .int .i64 1, .string ⟨#[]⟩] 27)).alloc (.cells #[.int .i64 3, .int .i64 1, .string ⟨#[]⟩] 27)).alloc (.cells #[.int .i64 0, .int .i64 0, .string ⟨#[]⟩] 27)) = V at H ⊢
    refine (hD _).mono ?_
    rintro e wd ⟨rfl, hbd⟩
    replace H := H.next hbd
    clear hbd hD
    have H3 := H.next ((Below.refl _ _).alloc (Nat.le_refl _) (.cells #[.int .i64 3, .int .i64 1, .string ⟨#[]⟩] 27))
    have hd : ValAt (wd.alloc (.cells #[.int .i64 3, .int .i64 1, .string ⟨#[]⟩] 27)) wd.heap.size 3 1 ⟨#[]⟩ := heap_alloc_new wd _
    obtain ⟨d0, d1, d2⟩ := hd.cells
    clear hd H
    obtain ⟨ca0, ca1, ca2⟩ := H3.a0.cells
    obtain ⟨cb0, cb1, cb2⟩ := H3.b0.cells
    obtain ⟨z0, z1, z2⟩ := H3.r0.soft
    obtain ⟨g0, g1, g2⟩ := H3.r0.cells
    obtain ⟨f0, f1, f2, hbF⟩ := H3.fin (3) (1) (⟨#[]⟩)
    go_wp2_with fail
    rw [put_eq]
    generalize put _ (w.heap.size + 2) (3) (1) (⟨#[]⟩) = wf at f0 f1 f2 hbF ⊢
    refine bodyPost_ret (v := .agg #[.int .i64 (3), .int .i64 (1), .string (⟨#[]⟩)]) (by simp [results, Try.results45, go_sem, f0, f1, f2]) rfl ?_
    exact ⟨rfl, hbF⟩
  · have hD := fun w => boolValue_implC false w
    go_enter Try.func45, Try.ntmps45
    go_wp2_with fail
    have H := fr_new w 0 0 ⟨#[]⟩ 0 0 ⟨#[]⟩
    generalize (((w.alloc (.cells #[.int .i64 0, .int .i64 0, .string ⟨#[]⟩] 27)).alloc (.cells #[.int .i64 0, .int .i64 0, .string ⟨#[]⟩] 27)).alloc (.cells #[.int .i64 0, .int .i64 0, .string ⟨#[]⟩] 27)) = V at H ⊢
    refine (hD _).mono ?_
    rintro e wd ⟨rfl, hbd⟩
    replace H := H.next hbd
    clear hbd hD
    have H3 := H.next ((Below.refl _ _).alloc (Nat.le_refl _) (.cells #[.int .i64 3, .int .i64 0, .string ⟨#[]⟩] 27))
    have hd : ValAt (wd.alloc (.cells #[.int .i64 3, .int .i64 0, .string ⟨#[]⟩] 27)) wd.heap.size 3 0 ⟨#[]⟩ := heap_alloc_new wd _
    obtain ⟨d0, d1, d2⟩ := hd.cells
    clear hd H
    obtain ⟨ca0, ca1, ca2⟩ := H3.a0.cells
    obtain ⟨cb0, cb1, cb2⟩ := H3.b0.cells
    have hNa := fun w => null_impl 0 0 ⟨#[]⟩ w
    have hNb := fun w => null_impl 0 0 ⟨#[]⟩ w
    go_wp2_with fail
    generalize wd.alloc (.cells #[.int .i64 3, .int .i64 0, .string ⟨#[]⟩] 27) = VD at H3 d0 d1 d2 ca0 ca1 ca2 cb0 cb1 cb2 ⊢
    have H := H3
    clear H3 d0 d1 d2
    refine (hNa _).mono ?_
    rintro e w3 ⟨rfl, hbn3⟩
    replace H := H.next hbn3
    clear hbn3
    clear ca0 ca1 ca2
    clear cb0 cb1 cb2
    obtain ⟨z0, z1, z2⟩ := H.r0.soft
    obtain ⟨g0, g1, g2⟩ := H.r0.cells
    obtain ⟨f0, f1, f2, hbF⟩ := H.fin (0) (0) (⟨#[]⟩)
    go_wp2_with fail
    rw [put_eq]
    generalize put _ (w.heap.size + 2) (0) (0) (⟨#[]⟩) = wf at f0 f1 f2 hbF ⊢
    refine bodyPost_ret (v := .agg #[.int .i64 (0), .int .i64 (0), .string (⟨#[]⟩)]) (by simp [results, Try.results45, go_sem, f0, f1, f2]) rfl ?_
    exact ⟨rfl, hbF⟩
  · have hD := fun w => boolValue_implC false w
    go_enter Try.func45, Try.ntmps45
    go_wp2_with fail
    have H := fr_new w 0 0 ⟨#[]⟩ 3 0 ⟨#[]⟩
    generalize (((w.alloc (.cells #[.int .i64 0, .int .i64 0, .string ⟨#[]⟩] 27)).alloc (.cells #[.int .i64 3, .int .i64 0, .string ⟨#[]⟩] 27)).alloc (.cells #[.int .i64 0, .int .i64 0, .string ⟨#[]⟩] 27)) = V at H ⊢
    refine (hD _).mono ?_
    rintro e wd ⟨rfl, hbd⟩
    replace H := H.next hbd
    clear hbd hD
    have H3 := H.next ((Below.refl _ _).alloc (Nat.le_refl _) (.cells #[.int .i64 3, .int .i64 0, .string ⟨#[]⟩] 27))
    have hd : ValAt (wd.alloc (.cells #[.int .i64 3, .int .i64 0, .string ⟨#[]⟩] 27)) wd.heap.size 3 0 ⟨#[]⟩ := heap_alloc_new wd _
    obtain ⟨d0, d1, d2⟩ := hd.cells
    clear hd H
    obtain ⟨ca0, ca1, ca2⟩ := H3.a0.cells
    obtain ⟨cb0, cb1, cb2⟩ := H3.b0.cells
    obtain ⟨z0, z1, z2⟩ := H3.r0.soft
    obtain ⟨g0, g1, g2⟩ := H3.r0.cells
    obtain ⟨f0, f1, f2, hbF⟩ := H3.fin (3) (0) (⟨#[]⟩)
    go_wp2_with fail
    rw [put_eq]
    generalize put _ (w.heap.size + 2) (3) (0) (⟨#[]⟩) = wf at f0 f1 f2 hbF ⊢
    refine bodyPost_ret (v := .agg #[.int .i64 (3), .int .i64 (0), .string (⟨#[]⟩)]) (by simp [results, Try.results45, go_sem, f0, f1, f2]) rfl ?_
    exact ⟨rfl, hbF⟩
  · have hD := fun w => boolValue_implC false w
    go_enter Try.func45, Try.ntmps45
    go_wp2_with fail
    have H := fr_new w 0 0 ⟨#[]⟩ 3 1 ⟨#[]⟩
    generalize (((w.alloc (.cells #[.int .i64 0, .int .i64 0, .string ⟨#[]⟩] 27)).alloc (.cells #[.int .i64 3, .int .i64 1, .string ⟨#[]⟩] 27)).alloc (.cells #[.int .i64 0, .int .i64 0, .string ⟨#[]⟩] 27)) = V at H ⊢
    refine (hD _).mono ?_
    rintro e wd ⟨rfl, hbd⟩
    replace H := H.next hbd
    clear hbd hD
    have H3 := H.next ((Below.refl _ _).alloc (Nat.le_refl _) (.cells #[.int .i64 3, .int .i64 0, .string ⟨#[]⟩] 27))
    have hd : ValAt (wd.alloc (.cells #[.int .i64 3, .int .i64 0, .string ⟨#[]⟩] 27)) wd.heap.size 3 0 ⟨#[]⟩ := heap_alloc_new wd _
    obtain ⟨d0, d1, d2⟩ := hd.cells
    clear hd H
    obtain ⟨ca0, ca1, ca2⟩ := H3.a0.cells
    obtain ⟨cb0, cb1, cb2⟩ := H3.b0.cells
    have hNa := fun w => null_impl 0 0 ⟨#[]⟩ w
    have hNb := fun w => null_impl 3 1 ⟨#[]⟩ w
    go_wp2_with fail
    generalize wd.alloc (.cells #[.int .i64 3, .int .i64 0, .string ⟨#[]⟩] 27) = VD at H3 d0 d1 d2 ca0 ca1 ca2 cb0 cb1 cb2 ⊢
    have H := H3
    clear H3 d0 d1 d2
    refine (hNa _).mono ?_
    rintro e w3 ⟨rfl, hbn3⟩
    replace H := H.next hbn3
    clear hbn3
    clear ca0 ca1 ca2
    clear cb0 cb1 cb2
    obtain ⟨z0, z1, z2⟩ := H.r0.soft
    obtain ⟨g0, g1, g2⟩ := H.r0.cells
    obtain ⟨f0, f1, f2, hbF⟩ := H.fin (0) (0) (⟨#[]⟩)
    go_wp2_with fail
    rw [put_eq]
    generalize put _ (w.heap.size + 2) (0) (0) (⟨#[]⟩) = wf at f0 f1 f2 hbF ⊢
    refine bodyPost_ret (v := .agg #[.int .i64 (0), .int .i64 (0), .string (⟨#[]⟩)]) (by simp [results, Try.results45, go_sem, f0, f1, f2]) rfl ?_
    exact ⟨rfl, hbF⟩
  · have hD := fun w => boolValue_implC false w
    go_enter Try.func45, Try.ntmps45
    go_wp2_with fail
    have H := fr_new w 3 0 ⟨#[]⟩ 0 0 ⟨#[]⟩
    generalize (((w.alloc (.cells #[.int .i64 3, .int .i64 0, .string ⟨#[]⟩] 27)).alloc (.cells #[.int .i64 0, .int .i64 0, .string ⟨#[]⟩] 27)).alloc (.cells #[.int .i64 0, .int .i64 0, .string ⟨#[]⟩] 27)) = V at H ⊢
    refine (hD _).mono ?_
    rintro e wd ⟨rfl, hbd⟩
    replace H := H.next hbd
    clear hbd hD
    have H3 := H.next ((Below.refl _ _).alloc (Nat.le_refl _) (.cells #[.int .i64 3, .int .i64 0, .string ⟨#[]⟩] 27))
    have hd : ValAt (wd.alloc (.cells #[.int .i64 3, .int .i64 0, .string ⟨#[]⟩] 27)) wd.heap.size 3 0 ⟨#[]⟩ := heap_alloc_new wd _
    obtain ⟨d0, d1, d2⟩ := hd.cells
    clear hd H
    obtain ⟨ca0, ca1, ca2⟩ := H3.a0.cells
    obtain ⟨cb0, cb1, cb2⟩ := H3.b0.cells
    obtain ⟨z0, z1, z2⟩ := H3.r0.soft
    obtain ⟨g0, g1, g2⟩ := H3.r0.cells
    obtain ⟨f0, f1, f2, hbF⟩ := H3.fin (3) (0) (⟨#[]⟩)
    go_wp2_with fail
    rw [put_eq]
    generalize put _ (w.heap.size + 2) (3) (0) (⟨#[]⟩) = wf at f0 f1 f2 hbF ⊢
    refine bodyPost_ret (v := .agg #[.int .i64 (3), .int .i64 (0), .string (⟨#[]⟩)]) (by simp [results, Try.results45, go_sem, f0, f1, f2]) rfl ?_
    exact ⟨rfl, hbF⟩
  · have hD := fun w => boolValue_implC false w
    go_enter Try.func45, Try.ntmps45
    go_wp2_with fail
    have H := fr_new w 3 0 ⟨#[]⟩ 3 0 ⟨#[]⟩
    generalize (((w.alloc (.cells #[.int .i64 3, .int .i64 0, .string ⟨#[]⟩] 27)).alloc (.cells #[.int .i64 3, .int .i64 0, .string ⟨#[]⟩] 27)).alloc (.cells #[.int .i64 0, .int .i64 0, .string ⟨#[]⟩] 27)) = V at H ⊢
    refine (hD _).mono ?_
    rintro e wd ⟨rfl, hbd⟩
    replace H := H.next hbd
    clear hbd hD
    have H3 := H.next ((Below.refl _ _).alloc (Nat.le_refl _) (.cells #[.int .i64 3, .int .i64 0, .string ⟨#[]⟩] 27))
    have hd : ValAt (wd.alloc (.cells #[.int .i64 3, .int .i64 0, .string ⟨#[]⟩] 27)) wd.heap.size 3 0 ⟨#[]⟩ := heap_alloc_new wd _
    obtain ⟨d0, d1, d2⟩ := hd.cells
    clear hd H
    obtain ⟨ca0, ca1, ca2⟩ := H3.a0.cells
    obtain ⟨cb0, cb1, cb2⟩ := H3.b0.cells
    obtain ⟨z0, z1, z2⟩ := H3.r0.soft
    obtain ⟨g0, g1, g2⟩ := H3.r0.cells
    obtain ⟨f0, f1, f2, hbF⟩ := H3.fin (3) (0) (⟨#[]⟩)
    go_wp2_with fail
    rw [put_eq]
    generalize put _ (w.heap.size + 2) (3) (0) (⟨#[]⟩) = wf at f0 f1 f2 hbF ⊢
    refine bodyPost_ret (v := .agg #[.int .i64 (3), .int .i64 (0), .string (⟨#[]⟩)]) (by simp [results, Try.results45, go_sem, f0, f1, f2]) rfl ?_
    exact ⟨rfl, hbF⟩
  · have hD := fun w => boolValue_implC false w
    go_enter Try.func45, Try.ntmps45
    go_wp2_with fail
    have H := fr_new w 3 0 ⟨#[]⟩ 3 1 ⟨#[]⟩
    generalize (((w.alloc (.cells #[.int .i64 3, .int .i64 0, .string ⟨#[]⟩] 27)).alloc (.cells #[.int .i64 3, .int .i64 1, .string ⟨#[]⟩] 27)).alloc (.cells #[.int .i64 0, .int .i64 0, .string ⟨#[]⟩] 27)) = V at H ⊢
    refine (hD _).mono ?_
    rintro e wd ⟨rfl, hbd⟩
    replace H := H.next hbd
    clear hbd hD
    have H3 := H.next ((Below.refl _ _).alloc (Nat.le_refl _) (.cells #[.int .i64 3, .int .i64 0, .string ⟨#[]⟩] 27))
    have hd : ValAt (wd.alloc (.cells #[.int .i64 3, .int .i64 0, .string ⟨#[]⟩] 27)) wd.heap.size 3 0 ⟨#[]⟩ := heap_alloc_new wd _
    obtain ⟨d0, d1, d2⟩ := hd.cells
    clear hd H
    obtain ⟨ca0, ca1, ca2⟩ := H3.a0.cells
    obtain ⟨cb0, cb1, cb2⟩ := H3.b0.cells
    obtain ⟨z0, z1, z2⟩ := H3.r0.soft
    obtain ⟨g0, g1, g2⟩ := H3.r0.cells
    obtain ⟨f0, f1, f2, hbF⟩ := H3.fin (3) (0) (⟨#[]⟩)
    go_wp2_with fail
    rw [put_eq]
    generalize put _ (w.heap.size + 2) (3) (0) (⟨#[]⟩) = wf at f0 f1 f2 hbF ⊢
    refine bodyPost_ret (v := .agg #[.int .i64 (3), .int .i64 (0), .string (⟨#[]⟩)]) (by simp [results, Try.results45, go_sem, f0, f1, f2]) rfl ?_
    exact ⟨rfl, hbF⟩
  · have hD := fun w => boolValue_implC false w
    go_enter Try.func45, Try.ntmps45
    go_wp2_with fail
    have H := fr_new w 3 1 ⟨#[]⟩ 0 0 ⟨#[]⟩
    generalize (((w.alloc (.cells #[.int .i64 3, .int .i64 1, .string ⟨#[]⟩] 27)).alloc (.cells #[.int .i64 0, .int .i64 0, .string ⟨#[]⟩] 27)).alloc (.cells #[.int .i64 0, .int .i64 0, .string ⟨#[]⟩] 27)) = V at H ⊢
    refine (hD _).mono ?_
    rintro e wd ⟨rfl, hbd⟩
    replace H := H.next hbd
    clear hbd hD
    have H3 := H.next ((Below.refl _ _).alloc (Nat.le_refl _) (.cells #[.int .i64 3, .int .i64 0, .string ⟨#[]⟩] 27))
    have hd : ValAt (wd.alloc (.cells #[.int .i64 3, .int .i64 0, .string ⟨#[]⟩] 27)) wd.heap.size 3 0 ⟨#[]⟩ := heap_alloc_new wd _
    obtain ⟨d0, d1, d2⟩ := hd.cells
    clear hd H
    obtain ⟨ca0, ca1, ca2⟩ := H3.a0.cells
    obtain ⟨cb0, cb1, cb2⟩ := H3.b0.cells
    have hNa := fun w => null_impl 3 1 ⟨#[]⟩ w
    have hNb := fun w => null_impl 0 0 ⟨#[]⟩ w
    go_wp2_with fail
    generalize wd.alloc (.cells #[.int .i64 3, .int .i64 0, .string ⟨#[]⟩] 27) = VD at H3 d0 d1 d2 ca0 ca1 ca2 cb0 cb1 cb2 ⊢
    have H := H3
    clear H3 d0 d1 d2
    refine (hNa _).mono ?_
    rintro e w3 ⟨rfl, hbn3⟩
    replace H := H.next hbn3
    clear hbn3
    clear ca0 ca1 ca2
    clear cb0 cb1 cb2
    obtain ⟨cb0, cb1, cb2⟩ := H.b0.cells
    go_wp2_with fail
    refine (hNb _).mono ?_
    rintro e w4 ⟨rfl, hbn4⟩
    replace H := H.next hbn4
    clear hbn4
    clear cb0 cb1 cb2
    obtain ⟨z0, z1, z2⟩ := H.r0.soft
    obtain ⟨g0, g1, g2⟩ := H.r0.cells
    obtain ⟨f0, f1, f2, hbF⟩ := H.fin (0) (0) (⟨#[]⟩)
    go_wp2_with fail
    rw [put_eq]
    generalize put _ (w.heap.size + 2) (0) (0) (⟨#[]⟩) = wf at f0 f1 f2 hbF ⊢
    refine bodyPost_ret (v := .agg #[.int .i64 (0), .int .i64 (0), .string (⟨#[]⟩)]) (by simp [results, Try.results45, go_sem, f0, f1, f2]) rfl ?_
    exact ⟨rfl, hbF⟩
  · have hD := fun w => boolValue_implC false w
    go_enter Try.func45, Try.ntmps45
    go_wp2_with fail
    have H := fr_new w 3 1 ⟨#[]⟩ 3 0 ⟨#[]⟩
    generalize (((w.alloc (.cells #[.int .i64 3, .int .i64 1, .string ⟨#[]⟩] 27)).alloc (.cells #[.int .i64 3, .int .i64 0, .string ⟨#[]⟩] 27)).alloc (.cells #[.int .i64 0, .int .i64 0, .string ⟨#[]⟩] 27)) = V at H ⊢
    refine (hD _).mono ?_
    rintro e wd ⟨rfl, hbd⟩
    replace H := H.next hbd
    clear hbd hD
    have H3 := H.next ((Below.refl _ _).alloc (Nat.le_refl _) (.cells #[.int .i64 3, .int .i64 0, .string ⟨#[]⟩] 27))
    have hd : ValAt (wd.alloc (.cells #[.int .i64 3, .int .i64 0, .string ⟨#[]⟩] 27)) wd.heap.size 3 0 ⟨#[]⟩ := heap_alloc_new wd _
    obtain ⟨d0, d1, d2⟩ := hd.cells
    clear hd H
    obtain ⟨ca0, ca1, ca2⟩ := H3.a0.cells
    obtain ⟨cb0, cb1, cb2⟩ := H3.b0.cells
    obtain ⟨z0, z1, z2⟩ := H3.r0.soft
    obtain ⟨g0, g1, g2⟩ := H3.r0.cells
    obtain ⟨f0, f1, f2, hbF⟩ := H3.fin (3) (0) (⟨#[]⟩)
    go_wp2_with fail
    rw [put_eq]
    generalize put _ (w.heap.size + 2) (3) (0) (⟨#[]⟩) = wf at f0 f1 f2 hbF ⊢
    refine bodyPost_ret (v := .agg #[.int .i64 (3), .int .i64 (0), .string (⟨#[]⟩)]) (by simp [results, Try.results45, go_sem, f0, f1, f2]) rfl ?_
    exact ⟨rfl, hbF⟩
  · have hD := fun w => boolValue_implC false w
    go_enter Try.func45, Try.ntmps45
    go_wp2_with fail
    have H := fr_new w 3 1 ⟨#[]⟩ 3 1 ⟨#[]⟩
    generalize (((w.alloc (.cells #[.int .i64 3, .int .i64 1, .string ⟨#[]⟩] 27)).alloc (.cells #[.int .i64 3, .int .i64 1, .string ⟨#[]⟩] 27)).alloc (.cells #[.int .i64 0, .int .i64 0, .string ⟨#[]⟩] 27)) = V at H ⊢
    refine (hD _).mono ?_
    rintro e wd ⟨rfl, hbd⟩
    replace H := H.next hbd
    clear hbd hD
    have H3 := H.next ((Below.refl _ _).alloc (Nat.le_refl _) (.cells #[.int .i64 3, .int .i64 0, .string ⟨#[]⟩] 27))
    have hd : ValAt (wd.alloc (.cells #[.int .i64 3, .int .i64 0, .string ⟨#[]⟩] 27)) wd.heap.size 3 0 ⟨#[]⟩ := heap_alloc_new wd _
    obtain ⟨d0, d1, d2⟩ := hd.cells
    clear hd H
    obtain ⟨ca0, ca1, ca2⟩ := H3.a0.cells
    obtain ⟨cb0, cb1, cb2⟩ := H3.b0.cells
    have hNa := fun w => null_impl 3 1 ⟨#[]⟩ w
    have hNb := fun w => null_impl 3 1 ⟨#[]⟩ w
    go_wp2_with fail
    generalize wd.alloc (.cells #[.int .i64 3, .int .i64 0, .string ⟨#[]⟩] 27) = VD at H3 d0 d1 d2 ca0 ca1 ca2 cb0 cb1 cb2 ⊢
    have H := H3
    clear H3 d0 d1 d2
    refine (hNa _).mono ?_
    rintro e w3 ⟨rfl, hbn3⟩
    replace H := H.next hbn3
    clear hbn3
    clear ca0 ca1 ca2
    clear cb0 cb1 cb2
    obtain ⟨cb0, cb1, cb2⟩ := H.b0.cells
    go_wp2_with fail
    refine (hNb _).mono ?_
    rintro e w4 ⟨rfl, hbn4⟩
    replace H := H.next hbn4
    clear hbn4
    clear cb0 cb1 cb2
    have hG := fun w => boolValue_implC true w
    go_wp2_with fail
    refine (hG _).mono ?_
    rintro e w5 ⟨rfl, hbn5⟩
    replace H := H.next hbn5
    clear hbn5
    obtain ⟨z0, z1, z2⟩ := H.r0.soft
    obtain ⟨g0, g1, g2⟩ := H.r0.cells
    obtain ⟨f0, f1, f2, hbF⟩ := H.fin (3) (1) (⟨#[]⟩)
    go_wp2_with fail
    rw [put_eq]
    generalize put _ (w.heap.size + 2) (3) (1) (⟨#[]⟩) = wf at f0 f1 f2 hbF ⊢
    refine bodyPost_ret (v := .agg #[.int .i64 (3), .int .i64 (1), .string (⟨#[]⟩)]) (by simp [results, Try.results45, go_sem, f0, f1, f2]) rfl ?_
    exact ⟨rfl, hbF⟩
end Go.Proofs.Ytjekhgekldkopaa
