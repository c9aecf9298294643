/- Joined texts: LogI NumI CalcI LatTail. -/
import Derived.Test.YtjekhgekldkopaaQL
import Derived.Test.YtjekhgekldkopaaQK
import Derived.Test.YtjekhgekldkopaaQG
import Derived.StillTail
/- The contract of the program's connectives. -/
namespace Go.Proofs.Ytjekhgekldkopaa
open Go.RowKit

set_option maxRecDepth 100000 in
set_option maxHeartbeats 8000000 in
theorem logic_impl (op : Int) (k a : Int) (t : ByteArray) (k' a' : Int) (t' : ByteArray) (w : World) (h1 : 1 ≤ op) (h2 : op ≤ 2) (hva : valOk k a t.data.toList = true) (hvb : valOk k' a' t'.data.toList = true) (hx : kindIn k 3 = true) (hy : kindIn k' 3 = true) : Calls Try.prog 45 #[.int .i64 op, .agg #[.int .i64 k, .int .i64 a, .string t], .agg #[.int .i64 k', .int .i64 a', .string t']] w (CopyV (logicC op k a k' a').k (logicC op k a k' a').n (logicC op k a k' a').t w) := by
  obtain ⟨hka, rfl⟩ := val_logic hva hx
  obtain ⟨hkb, rfl⟩ := val_logic hvb hy
  clear hva hvb hx hy
  have hop : op = 1 ∨ op = 2 := by omega
  clear h1 h2
  rcases hop with rfl | rfl <;> rcases hka with ⟨rfl, rfl⟩ | ⟨rfl, rfl⟩ | ⟨rfl, rfl⟩ <;> rcases hkb with ⟨rfl, rfl⟩ | ⟨rfl, rfl⟩ | ⟨rfl, rfl⟩
  · have hD := fun w => boolValue_implC true w
    go_enter Try.func45, Try.ntmps45
    go_wp2_with fail
    have H := fr_new w 0 0 ⟨#[]⟩ 0 0 ⟨#[]⟩
    generalize (((w.alloc (.cells #[.int .i64 0, .int .i64 0, .string ⟨#[]⟩] 27)).alloc (.cells #[.int .i64 0, .int .i64 0, .string ⟨#[]⟩] 27)).alloc (.cells #[.int .i64 0, .int .i64 0, .string ⟨#[]⟩] 27)) = V at H ⊢
    refine (hD _).mono ?_
    rintro e wd ⟨rfl, hbd⟩
    replace H := H.next hbd
    clear hbd hD
    have H3 := H.next ((Below.refl _ _).alloc (Nat.le_refl _) (.cells #[.int .i64 3, .int .i64 1, .string ⟨#[]⟩] 27))
    have hd : ValAt (wd.alloc (.cells #[.int .i64 3, .int .i64 1, .string ⟨#[]⟩] 27)) wd.heap.size 3 1 ⟨#[]⟩ := heap_alloc_new wd _
    obtain ⟨d0, d1, d2⟩ := hd.cells
    clear hd H
    obtain ⟨ca0, ca1, ca2⟩ := H3.a0.cells
    obtain ⟨cb0, cb1, cb2⟩ := H3.b0.cells
    have hNa := fun w => null_impl 0 0 ⟨#[]⟩ w
    have hNb := fun w => null_impl 0 0 ⟨#[]⟩ w
    go_wp2_with fail
    generalize wd.alloc (.cells #[.int .i64 3, .int .i64 1, .string ⟨#[]⟩] 27) = VD at H3 d0 d1 d2 ca0 ca1 ca2 cb0 cb1 cb2 ⊢
    have H := H3
    clear H3 d0 d1 d2
    refine (hNa _).mono ?_
    rintro e w3 ⟨rfl, hbn3⟩
    replace H := H.next hbn3
    clear hbn3
    clear ca0 ca1 ca2
    clear cb0 cb1 cb2
    obtain ⟨z0, z1, z2⟩ := H.r0.soft
    obtain ⟨g0, g1, g2⟩ := H.r0.cells
    obtain ⟨f0, f1, f2, hbF⟩ := H.fin (0) (0) (⟨#[]⟩)
    go_wp2_with fail
    rw [put_eq]
    generalize put _ (w.heap.size + 2) (0) (0) (⟨#[]⟩) = wf at f0 f1 f2 hbF ⊢
    refine bodyPost_ret (v := .agg #[.int .i64 (0), .int .i64 (0), .string (⟨#[]⟩)]) (by simp [results, Try.results45, go_sem, f0, f1, f2]) rfl ?_
    exact ⟨rfl, hbF⟩
  · have hD := fun w => boolValue_implC true w
    go_enter Try.func45, Try.ntmps45
    go_wp2_with fail
    have H := fr_new w 0 0 ⟨#[]⟩ 3 0 ⟨#[]⟩
    generalize (((w.alloc (.cells #[.int .i64 0, .int .i64 0, .string ⟨#[]⟩] 27)).alloc (.cells #[.int .i64 3, .int .i64 0, .string ⟨#[]⟩] 27)).alloc (.cells #[.int .i64 0, .int .i64 0, .string ⟨#[]⟩] 27)) = V at H ⊢
    refine (hD _).mono ?_
    rintro e wd ⟨rfl, hbd⟩
    replace H := H.next hbd
    clear hbd hD
    have H3 := H.next ((Below.refl _ _).alloc (Nat.le_refl _) (.cells #[.int .i64 3, .int .i64 1, .string ⟨#[]⟩] 27))
    have hd : ValAt (wd.alloc (.cells #[.int .i64 3, .int .i64 1, .string ⟨#[]⟩] 27)) wd.heap.size 3 1 ⟨#[]⟩ := heap_alloc_new wd _
    obtain ⟨d0, d1, d2⟩ := hd.cells
    clear hd H
    obtain ⟨ca0, ca1, ca2⟩ := H3.a0.cells
    obtain ⟨cb0, cb1, cb2⟩ := H3.b0.cells
    have hNa := fun w => null_impl 0 0 ⟨#[]⟩ w
    have hNb := fun w => null_impl 3 0 ⟨#[]⟩ w
    go_wp2_with fail
    generalize wd.alloc (.cells #[.int .i64 3, .int .i64 1, .string ⟨#[]⟩] 27) = VD at H3 d0 d1 d2 ca0 ca1 ca2 cb0 cb1 cb2 ⊢
    have H := H3
    clear H3 d0 d1 d2
    refine (hNa _).mono ?_
    rintro e w3 ⟨rfl, hbn3⟩
    replace H := H.next hbn3
    clear hbn3
    clear ca0 ca1 ca2
    clear cb0 cb1 cb2
    obtain ⟨z0, z1, z2⟩ := H.r0.soft
    obtain ⟨g0, g1, g2⟩ := H.r0.cells
    obtain ⟨f0, f1, f2, hbF⟩ := H.fin (0) (0) (⟨#[]⟩)
    go_wp2_with fail
    rw [put_eq]
    generalize put _ (w.heap.size + 2) (0) (0) (⟨#[]⟩) = wf at f0 f1 f2 hbF ⊢
    refine bodyPost_ret (v := .agg #[.int .i64 (0), .int .i64 (0), .string (⟨#[]⟩)]) (by simp [results, Try.results45, go_sem, f0, f1, f2]) rfl ?_
    exact ⟨rfl, hbF⟩
  · have hD := fun w => boolValue_implC true w
    go_enter Try.func45, Try.ntmps45
    go_wp2_with fail
    have H := fr_new w 0 0 ⟨#[]⟩ 3 1 ⟨#[]⟩
    generalize (((w.alloc (.cells #[.int .i64 0, .int .i64 0, .string ⟨#[]⟩] 27)).alloc (.cells #[.int .i64 3, .int .i64 1, .string ⟨#[]⟩] 27)).alloc (.cells #[.int .i64 0, .int .i64 0, .string ⟨#[]⟩] 27)) = V at H ⊢
    refine (hD _).mono ?_
    rintro e wd ⟨rfl, hbd⟩
    replace H := H.next hbd
    clear hbd hD
    have H3 := H.next ((Below.refl _ _).alloc (Nat.le_refl _) (.cells #[.int .i64 3, .int .i64 1, .string ⟨#[]⟩] 27))
    have hd : ValAt (wd.alloc (.cells #[.int .i64 3, .int .i64 1, .string ⟨#[]⟩] 27)) wd.heap.size 3 1 ⟨#[]⟩ := heap_alloc_new wd _
    obtain ⟨d0, d1, d2⟩ := hd.cells
    clear hd H
    obtain ⟨ca0, ca1, ca2⟩ := H3.a0.cells
    obtain ⟨cb0, cb1, cb2⟩ := H3.b0.cells
    obtain ⟨z0, z1, z2⟩ := H3.r0.soft
    obtain ⟨g0, g1, g2⟩ := H3.r0.cells
    obtain ⟨f0, f1, f2, hbF⟩ := H3.fin (3) (1) (⟨#[]⟩)
    go_wp2_with fail
    rw [put_eq]
    generalize put _ (w.heap.size + 2) (3) (1) (⟨#[]⟩) = wf at f0 f1 f2 hbF ⊢
    refine bodyPost_ret (v := .agg #[.int .i64 (3), .int .i64 (1), .string (⟨#[]⟩)]) (by simp [results, Try.results45, go_sem, f0, f1, f2]) rfl ?_
    exact ⟨rfl, hbF⟩
  · have hD := fun w => boolValue_implC true w
    go_enter Try.func45, Try.ntmps45
    go_wp2_with fail
    have H := fr_new w 3 0 ⟨#[]⟩ 0 0 ⟨#[]⟩
    generalize (((w.alloc (.cells #[.int .i64 3, .int .i64 0, .string ⟨#[]⟩] 27)).alloc (.cells #[.int .i64 0, .int .i64 0, .string ⟨#[]⟩] 27)).alloc (.cells #[.int .i64 0, .int .i64 0, .string ⟨#[]⟩] 27)) = V at H ⊢
    refine (hD _).mono ?_
    rintro e wd ⟨rfl, hbd⟩
    replace H := H.next hbd
    clear hbd hD
    have H3 := H.next ((Below.refl _ _).alloc (Nat.le_refl _) (.cells #[.int .i64 3, .int .i64 1, .string ⟨#[]⟩] 27))
    have hd : ValAt (wd.alloc (.cells #[.int .i64 3, .int .i64 1, .string ⟨#[]⟩] 27)) wd.heap.size 3 1 ⟨#[]⟩ := heap_alloc_new wd _
    obtain ⟨d0, d1, d2⟩ := hd.cells
    clear hd H
    obtain ⟨ca0, ca1, ca2⟩ := H3.a0.cells
    obtain ⟨cb0, cb1, cb2⟩ := H3.b0.cells
    have hNa := fun w => null_impl 3 0 ⟨#[]⟩ w
    have hNb := fun w => null_impl 0 0 ⟨#[]⟩ w
    go_wp2_with fail
    generalize wd.alloc (.cells #[.int .i64 3, .int .i64 1, .string ⟨#[]⟩] 27) = VD at H3 d0 d1 d2 ca0 ca1 ca2 cb0 cb1 cb2 ⊢
    have H := H3
    clear H3 d0 d1 d2
    refine (hNa _).mono ?_
    rintro e w3 ⟨rfl, hbn3⟩
    replace H := H.next hbn3
    clear hbn3
    clear ca0 ca1 ca2
    clear cb0 cb1 cb2
    obtain ⟨cb0, cb1, cb2⟩ := H.b0.cells
    go_wp2_with fail
    refine (hNb _).mono ?_
    rintro e w4 ⟨rfl, hbn4⟩
    replace H := H.next hbn4
    clear hbn4
    clear cb0 cb1 cb2
    obtain ⟨z0, z1, z2⟩ := H.r0.soft
    obtain ⟨g0, g1, g2⟩ := H.r0.cells
    obtain ⟨f0, f1, f2, hbF⟩ := H.fin (0) (0) (⟨#[]⟩)
    go_wp2_with fail
    rw [put_eq]
    generalize put _ (w.heap.size + 2) (0) (0) (⟨#[]⟩) = wf at f0 f1 f2 hbF ⊢
    refine bodyPost_ret (v := .agg #[.int .i64 (0), .int .i64 (0), .string (⟨#[]⟩)]) (by simp [results, Try.results45, go_sem, f0, f1, f2]) rfl ?_
    exact ⟨rfl, hbF⟩
  · have hD := fun w => boolValue_implC true w
    go_enter Try.func45, Try.ntmps45
    go_wp2_with fail
    have H := fr_new w 3 0 ⟨#[]⟩ 3 0 ⟨#[]⟩
    generalize (((w.alloc (.cells #[.int .i64 3, .int .i64 0, .string ⟨#[]⟩] 27)).alloc (.cells #[.int .i64 3, .int .i64 0, .string ⟨#[]⟩] 27)).alloc (.cells #[.int .i64 0, .int .i64 0, .string ⟨#[]⟩] 27)) = V at H ⊢
    refine (hD _).mono ?_
    rintro e wd ⟨rfl, hbd⟩
    replace H := H.next hbd
    clear hbd hD
    have H3 := H.next ((Below.refl _ _).alloc (Nat.le_refl _) (.cells #[.int .i64 3, .int .i64 1, .string ⟨#[]⟩] 27))
    have hd : ValAt (wd.alloc (.cells #[.int .i64 3, .int .i64 1, .string ⟨#[]⟩] 27)) wd.heap.size 3 1 ⟨#[]⟩ := heap_alloc_new wd _
    obtain ⟨d0, d1, d2⟩ := hd.cells
    clear hd H
    obtain ⟨ca0, ca1, ca2⟩ := H3.a0.cells
    obtain ⟨cb0, cb1, cb2⟩ := H3.b0.cells
    have hNa := fun w => null_impl 3 0 ⟨#[]⟩ w
    have hNb := fun w => null_impl 3 0 ⟨#[]⟩ w
    go_wp2_with fail
    generalize wd.alloc (.cells #[.int .i64 3, .int .i64 1, .string ⟨#[]⟩] 27) = VD at H3 d0 d1 d2 ca0 ca1 ca2 cb0 cb1 cb2 ⊢
    have H := H3
    clear H3 d0 d1 d2
    refine (hNa _).mono ?_
    rintro e w3 ⟨rfl, hbn3⟩
    replace H := H.next hbn3
    clear hbn3
    clear ca0 ca1 ca2
    clear cb0 cb1 cb2
    obtain ⟨cb0, cb1, cb2⟩ := H.b0.cells
    go_wp2_with fail
    refine (hNb _).mono ?_
    rintro e w4 ⟨rfl, hbn4⟩
    replace H := H.next hbn4
    clear hbn4
    clear cb0 cb1 cb2
    have hG := fun w => boolValue_implC false w
    go_wp2_with fail
    refine (hG _).mono ?_
    rintro e w5 ⟨rfl, hbn5⟩
    replace H := H.next hbn5
    clear hbn5
    obtain ⟨z0, z1, z2⟩ := H.r0.soft
    obtain ⟨g0, g1, g2⟩ := H.r0.cells
    obtain ⟨f0, f1, f2, hbF⟩ := H.fin (3) (0) (⟨#[]⟩)
    go_wp2_with fail
    rw [put_eq]
    generalize put _ (w.heap.size + 2) (3) (0) (⟨#[]⟩) = wf at f0 f1 f2 hbF ⊢
    refine bodyPost_ret (v := .agg #[.int .i64 (3), .int .i64 (0), .string (⟨#[]⟩)]) (by simp [results, Try.results45, go_sem, f0, f1, f2]) rfl ?_
    exact ⟨rfl, hbF⟩
  · have hD := fun w => boolValue_implC true w
    go_enter Try.func45, Try.ntmps45
    go_wp2_with fail
    have H := fr_new w 3 0 ⟨#[]⟩ 3 1 ⟨#[]⟩
    generalize (((w.alloc (.cells #[.int .i64 3, .int .i64 0, .string ⟨#[]⟩] 27)).alloc (.cells #[.int .i64 3, .int .i64 1, .string ⟨#[]⟩] 27)).alloc (.cells #[.int .i64 0, .int .i64 0, .string ⟨#[]⟩] 27)) = V at H ⊢
    refine (hD _).mono ?_
    rintro e wd ⟨rfl, hbd⟩
    replace H := H.next hbd
    clear hbd hD
    have H3 := H.next ((Below.refl _ _).alloc (Nat.le_refl _) (.cells #[.int .i64 3, .int .i64 1, .string ⟨#[]⟩] 27))
    have hd : ValAt (wd.alloc (.cells #[.int .i64 3, .int .i64 1, .string ⟨#[]⟩] 27)) wd.heap.size 3 1 ⟨#[]⟩ := heap_alloc_new wd _
    obtain ⟨d0, d1, d2⟩ := hd.cells
    clear hd H
    obtain ⟨ca0, ca1, ca2⟩ := H3.a0.cells
    obtain ⟨cb0, cb1, cb2⟩ := H3.b0.cells
    obtain ⟨z0, z1, z2⟩ := H3.r0.soft
    obtain ⟨g0, g1, g2⟩ := H3.r0.cells
    obtain ⟨f0, f1, f2, hbF⟩ := H3.fin (3) (1) (⟨#[]⟩)
    go_wp2_with fail
    rw [put_eq]
    generalize put _ (w.heap.size + 2) (3) (1) (⟨#[]⟩) = wf at f0 f1 f2 hbF ⊢
    refine bodyPost_ret (v := .agg #[.int .i64 (3), .int .i64 (1), .string (⟨#[]⟩)]) (by simp [results, Try.results45, go_sem, f0, f1, f2]) rfl ?_
    exact ⟨rfl, hbF⟩
  · have hD := fun w => boolValue_implC true w
    go_enter Try.func45, Try.ntmps45
    go_wp2_with fail
    have H := fr_new w 3 1 ⟨#[]⟩ 0 0 ⟨#[]⟩
    generalize (((w.alloc (.cells #[.int .i64 3, .int .i64 1, .string ⟨#[]⟩] 27)).alloc (.cells #[.int .i64 0, .int .i64 0, .string ⟨#[]⟩] 27)).alloc (.cells #[.int .i64 0, .int .i64 0, .string ⟨#[]⟩] 27)) = V at H ⊢
    refine (hD _).mono ?_
    rintro e wd ⟨rfl, hbd⟩
    replace H := H.next hbd
    clear hbd hD
    have H3 := H.next ((Below.refl _ _).alloc (Nat.le_refl _) (.cells #[.int .i64 3, .int .i64 1, .string ⟨#[]⟩] 27))
    have hd : ValAt (wd.alloc (.cells #[.int .i64 3, .int .i64 1, .string ⟨#[]⟩] 27)) wd.heap.size 3 1 ⟨#[]⟩ := heap_alloc_new wd _
    obtain ⟨d0, d1, d2⟩ := hd.cells
    clear hd H
    obtain ⟨ca0, ca1, ca2⟩ := H3.a0.cells
    obtain ⟨cb0, cb1, cb2⟩ := H3.b0.cells
    obtain ⟨z0, z1, z2⟩ := H3.r0.soft
    obtain ⟨g0, g1, g2⟩ := H3.r0.cells
    obtain ⟨f0, f1, f2, hbF⟩ := H3.fin (3) (1) (⟨#[]⟩)
    go_wp2_with fail
    rw [put_eq]
    generalize put _ (w.heap.size + 2) (3) (1) (⟨#[]⟩) = wf at f0 f1 f2 hbF ⊢
    refine bodyPost_ret (v := .agg #[.int .i64 (3), .int .i64 (1), .string (⟨#[]⟩)]) (by simp [results, Try.results45, go_sem, f0, f1, f2]) rfl ?_
    exact ⟨rfl, hbF⟩
  · have hD := fun w => boolValue_implC true w
    go_enter Try.func45, Try.ntmps45
    go_wp2_with fail
    have H := fr_new w 3 1 ⟨#[]⟩ 3 0 ⟨#[]⟩
    generalize (((w.alloc (.cells #[.int .i64 3, .int .i64 1, .string ⟨#[]⟩] 27)).alloc (.cells #[.int .i64 3, .int .i64 0, .string ⟨#[]⟩] 27)).alloc (.cells #[.int .i64 0, .int .i64 0, .string ⟨#[]⟩] 27)) = V at H ⊢
    refine (hD _).mono ?_
    rintro e wd ⟨rfl, hbd⟩
    replace H := H.next hbd
    clear hbd hD
    have H3 := H.next ((Below.refl _ _).alloc (Nat.le_refl _) (.cells #[.int .i64 3, .int .i64 1, .string ⟨#[]⟩] 27))
    have hd : ValAt (wd.alloc (.cells #[.int .i64 3, .int .i64 1, .string ⟨#[]⟩] 27)) wd.heap.size 3 1 ⟨#[]⟩ := heap_alloc_new wd _
    obtain ⟨d0, d1, d2⟩ := hd.cells
    clear hd H
    obtain ⟨ca0, ca1, ca2⟩ := H3.a0.cells
    obtain ⟨cb0, cb1, cb2⟩ := H3.b0.cells
    obtain ⟨z0, z1, z2⟩ := H3.r0.soft
    obtain ⟨g0, g1, g2⟩ := H3.r0.cells
    obtain ⟨f0, f1, f2, hbF⟩ := H3.fin (3) (1) (⟨#[]⟩)
    go_wp2_with fail
    rw [put_eq]
    generalize put _ (w.heap.size + 2) (3) (1) (⟨#[]⟩) = wf at f0 f1 f2 hbF ⊢
    refine bodyPost_ret (v := .agg #[.int .i64 (3), .int .i64 (1), .string (⟨#[]⟩)]) (by simp [results, Try.results45, go_sem, f0, f1, f2]) rfl ?_
    exact ⟨rfl, hbF⟩
  · have hD := fun w => boolValue_implC true w
    go_enter Try.func45, Try.ntmps45
    go_wp2_with fail
    have H := fr_new w 3 1 ⟨#[]⟩ 3 1 ⟨#[]⟩
    generalize (((w.alloc (.cells #[.int .i64 3, .int .i64 1, .string ⟨#[]⟩] 27)).alloc (.cells #[.int .i64 3, .int .i64 1, .string ⟨#[]⟩] 27)).alloc (.cells #[.int .i64 0, .int .i64 0, .string ⟨#[]⟩] 27)) = V at H ⊢
    refine (hD _).mono ?_
    rintro e wd ⟨rfl, hbd⟩
    replace H := H.next hbd
    clear hbd hD
    have H3 := H.next ((Below.refl _ _).alloc (Nat.le_refl _) (.cells #[.int .i64 3, .int .i64 1, .string ⟨#[]⟩] 27))
    have hd : ValAt (wd.alloc (.cells #[.int .i64 3, .int .i64 1, .string ⟨#[]⟩] 27)) wd.heap.size 3 1 ⟨#[]⟩ := heap_alloc_new wd _
    obtain ⟨d0, d1, d2⟩ := hd.cells
    clear hd H
    obtain ⟨ca0, ca1, ca2⟩ := H3.a0.cells
    obtain ⟨cb0, cb1, cb2⟩ := H3.b0.cells
    obtain ⟨z0, z1, z2⟩ := H3.r0.soft
    obtain ⟨g0, g1, g2⟩ := H3.r0.cells
    obtain ⟨f0, f1, f2, hbF⟩ := H3.fin (3) (1) (⟨#[]⟩)
    go_wp2_with fail
    rw [put_eq]
    generalize put _ (w.heap.size + 2) (3) (1) (⟨#[]⟩) = wf at f0 f1 f2 hbF ⊢
    refine bodyPost_ret (v := .agg #[.int .i64 (3), .int .i64 (1), .string (⟨#[]⟩)]) (by simp [results, Try.results45, go_sem, f0, f1, f2]) rfl ?_
    exact ⟨rfl, hbF⟩
  · have hD := fun w => boolValue_implC false w
    go_enter Try.func45, Try.ntmps45
    go_wp2_with fail
    have H := fr_new w 0 0 ⟨#[]⟩ 0 0 ⟨#[]⟩
    generalize (((w.alloc (.cells #[.int .i64 0, .int .i64 0, .string ⟨#[]⟩] 27)).alloc (.cells #[.int .i64 0, .int .i64 0, .string ⟨#[]⟩] 27)).alloc (.cells #[.int .i64 0, .int .i64 0, .string ⟨#[]⟩] 27)) = V at H ⊢
    refine (hD _).mono ?_
    rintro e wd ⟨rfl, hbd⟩
    replace H := H.next hbd
    clear hbd hD
    have H3 := H.next ((Below.refl _ _).alloc (Nat.le_refl _) (.cells #[.int .i64 3, .int .i64 0, .string ⟨#[]⟩] 27))
    have hd : ValAt (wd.alloc (.cells #[.int .i64 3, .int .i64 0, .string ⟨#[]⟩] 27)) wd.heap.size 3 0 ⟨#[]⟩ := heap_alloc_new wd _
    obtain ⟨d0, d1, d2⟩ := hd.cells
    clear hd H
    obtain ⟨ca0, ca1, ca2⟩ := H3.a0.cells
    obtain ⟨cb0, cb1, cb2⟩ := H3.b0.cells
    have hNa := fun w => null_impl 0 0 ⟨#[]⟩ w
    have hNb := fun w => null_impl 0 0 ⟨#[]⟩ w
    go_wp2_with fail
    generalize wd.alloc (.cells #[.int .i64 3, .int .i64 0, .string ⟨#[]⟩] 27) = VD at H3 d0 d1 d2 ca0 ca1 ca2 cb0 cb1 cb2 ⊢
    have H := H3
    clear H3 d0 d1 d2
    refine (hNa _).mono ?_
    rintro e w3 ⟨rfl, hbn3⟩
    replace H := H.next hbn3
    clear hbn3
    clear ca0 ca1 ca2
    clear cb0 cb1 cb2
    obtain ⟨z0, z1, z2⟩ := H.r0.soft
    obtain ⟨g0, g1, g2⟩ := H.r0.cells
    obtain ⟨f0, f1, f2, hbF⟩ := H.fin (0) (0) (⟨#[]⟩)
    go_wp2_with fail
    rw [put_eq]
    generalize put _ (w.heap.size + 2) (0) (0) (⟨#[]⟩) = wf at f0 f1 f2 hbF ⊢
    refine bodyPost_ret (v := .agg #[.int .i64 (0), .int .i64 (0), .string (⟨#[]⟩)]) (by simp [results, Try.results45, go_sem, f0, f1, f2]) rfl ?_
    exact ⟨rfl, hbF⟩
  · have hD := fun w => boolValue_implC false w
    go_enter Try.func45, Try.ntmps45
    go_wp2_with fail
    have H := fr_new w 0 0 ⟨#[]⟩ 3 0 ⟨#[]⟩
    generalize (((w.alloc (.cells #[.int .i64 0, .int .i64 0, .string ⟨#[]⟩] 27)).alloc (.cells #[.int .i64 3, .int .i64 0, .string ⟨#[]⟩] 27)).alloc (.cells #[.int .i64 0, .int .i64 0, .string ⟨#[]⟩] 27)) = V at H ⊢
    refine (hD _).mono ?_
    rintro e wd ⟨rfl, hbd⟩
    replace H := H.next hbd
    clear hbd hD
    have H3 := H.next ((Below.refl _ _).alloc (Nat.le_refl _) (.cells #[.int .i64 3, .int .i64 0, .string ⟨#[]⟩] 27))
    have hd : ValAt (wd.alloc (.cells #[.int .i64 3, .int .i64 0, .string ⟨#[]⟩] 27)) wd.heap.size 3 0 ⟨#[]⟩ := heap_alloc_new wd _
    obtain ⟨d0, d1, d2⟩ := hd.cells
    clear hd H
    obtain ⟨ca0, ca1, ca2⟩ := H3.a0.cells
    obtain ⟨cb0, cb1, cb2⟩ := H3.b0.cells
    obtain ⟨z0, z1, z2⟩ := H3.r0.soft
    obtain ⟨g0, g1, g2⟩ := H3.r0.cells
    obtain ⟨f0, f1, f2, hbF⟩ := H3.fin (3) (0) (⟨#[]⟩)
    go_wp2_with fail
    rw [put_eq]
    generalize put _ (w.heap.size + 2) (3) (0) (⟨#[]⟩) = wf at f0 f1 f2 hbF ⊢
    refine bodyPost_ret (v := .agg #[.int .i64 (3), .int .i64 (0), .string (⟨#[]⟩)]) (by simp [results, Try.results45, go_sem, f0, f1, f2]) rfl ?_
    exact ⟨rfl, hbF⟩
  · have hD := fun w => boolValue_implC false w
    go_enter Try.func45, Try.ntmps45
    go_wp2_with fail
    have H := fr_new w 0 0 ⟨#[]⟩ 3 1 ⟨#[]⟩
    generalize (((w.alloc (.cells #[.int .i64 0, .int .i64 0, .string ⟨#[]⟩] 27)).alloc (.cells #[.int .i64 3, .int .i64 1, .string ⟨#[]⟩] 27)).alloc (.cells #[.int .i64 0, .int .i64 0, .string ⟨#[]⟩] 27)) = V at H ⊢
    refine (hD _).mono ?_
    rintro e wd ⟨rfl, hbd⟩
    replace H := H.next hbd
    clear hbd hD
    have H3 := H.next ((Below.refl _ _).alloc (Nat.le_refl _) (.cells #[.int .i64 3, .int .i64 0, .string ⟨#[]⟩] 27))
    have hd : ValAt (wd.alloc (.cells #[.int .i64 3, .int .i64 0, .string ⟨#[]⟩] 27)) wd.heap.size 3 0 ⟨#[]⟩ := heap_alloc_new wd _
    obtain ⟨d0, d1, d2⟩ := hd.cells
    clear hd H
    obtain ⟨ca0, ca1, ca2⟩ := H3.a0.cells
    obtain ⟨cb0, cb1, cb2⟩ := H3.b0.cells
    have hNa := fun w => null_impl 0 0 ⟨#[]⟩ w
    have hNb := fun w => null_impl 3 1 ⟨#[]⟩ w
    go_wp2_with fail
    generalize wd.alloc (.cells #[.int .i64 3, .int .i64 0, .string ⟨#[]⟩] 27) = VD at H3 d0 d1 d2 ca0 ca1 ca2 cb0 cb1 cb2 ⊢
    have H := H3
    clear H3 d0 d1 d2
    refine (hNa _).mono ?_
    rintro e w3 ⟨rfl, hbn3⟩
    replace H := H.next hbn3
    clear hbn3
    clear ca0 ca1 ca2
    clear cb0 cb1 cb2
    obtain ⟨z0, z1, z2⟩ := H.r0.soft
    obtain ⟨g0, g1, g2⟩ := H.r0.cells
    obtain ⟨f0, f1, f2, hbF⟩ := H.fin (0) (0) (⟨#[]⟩)
    go_wp2_with fail
    rw [put_eq]
    generalize put _ (w.heap.size + 2) (0) (0) (⟨#[]⟩) = wf at f0 f1 f2 hbF ⊢
    refine bodyPost_ret (v := .agg #[.int .i64 (0), .int .i64 (0), .string (⟨#[]⟩)]) (by simp [results, Try.results45, go_sem, f0, f1, f2]) rfl ?_
    exact ⟨rfl, hbF⟩
  · have hD := fun w => boolValue_implC false w
    go_enter Try.func45, Try.ntmps45
    go_wp2_with fail
    have H := fr_new w 3 0 ⟨#[]⟩ 0 0 ⟨#[]⟩
    generalize (((w.alloc (.cells #[.int .i64 3, .int .i64 0, .string ⟨#[]⟩] 27)).alloc (.cells #[.int .i64 0, .int .i64 0, .string ⟨#[]⟩] 27)).alloc (.cells #[.int .i64 0, .int .i64 0, .string ⟨#[]⟩] 27)) = V at H ⊢
    refine (hD _).mono ?_
    rintro e wd ⟨rfl, hbd⟩
    replace H := H.next hbd
    clear hbd hD
    have H3 := H.next ((Below.refl _ _).alloc (Nat.le_refl _) (.cells #[.int .i64 3, .int .i64 0, .string ⟨#[]⟩] 27))
    have hd : ValAt (wd.alloc (.cells #[.int .i64 3, .int .i64 0, .string ⟨#[]⟩] 27)) wd.heap.size 3 0 ⟨#[]⟩ := heap_alloc_new wd _
    obtain ⟨d0, d1, d2⟩ := hd.cells
    clear hd H
    obtain ⟨ca0, ca1, ca2⟩ := H3.a0.cells
    obtain ⟨cb0, cb1, cb2⟩ := H3.b0.cells
    obtain ⟨z0, z1, z2⟩ := H3.r0.soft
    obtain ⟨g0, g1, g2⟩ := H3.r0.cells
    obtain ⟨f0, f1, f2, hbF⟩ := H3.fin (3) (0) (⟨#[]⟩)
    go_wp2_with fail
    rw [put_eq]
    generalize put _ (w.heap.size + 2) (3) (0) (⟨#[]⟩) = wf at f0 f1 f2 hbF ⊢
    refine bodyPost_ret (v := .agg #[.int .i64 (3), .int .i64 (0), .string (⟨#[]⟩)]) (by simp [results, Try.results45, go_sem, f0, f1, f2]) rfl ?_
    exact ⟨rfl, hbF⟩
  · have hD := fun w => boolValue_implC false w
    go_enter Try.func45, Try.ntmps45
    go_wp2_with fail
    have H := fr_new w 3 0 ⟨#[]⟩ 3 0 ⟨#[]⟩
    generalize (((w.alloc (.cells #[.int .i64 3, .int .i64 0, .string ⟨#[]⟩] 27)).alloc (.cells #[.int .i64 3, .int .i64 0, .string ⟨#[]⟩] 27)).alloc (.cells #[.int .i64 0, .int .i64 0, .string ⟨#[]⟩] 27)) = V at H ⊢
    refine (hD _).mono ?_
    rintro e wd ⟨rfl, hbd⟩
    replace H := H.next hbd
    clear hbd hD
    have H3 := H.next ((Below.refl _ _).alloc (Nat.le_refl _) (.cells #[.int .i64 3, .int .i64 0, .string ⟨#[]⟩] 27))
    have hd : ValAt (wd.alloc (.cells #[.int .i64 3, .int .i64 0, .string ⟨#[]⟩] 27)) wd.heap.size 3 0 ⟨#[]⟩ := heap_alloc_new wd _
    obtain ⟨d0, d1, d2⟩ := hd.cells
    clear hd H
    obtain ⟨ca0, ca1, ca2⟩ := H3.a0.cells
    obtain ⟨cb0, cb1, cb2⟩ := H3.b0.cells
    obtain ⟨z0, z1, z2⟩ := H3.r0.soft
    obtain ⟨g0, g1, g2⟩ := H3.r0.cells
    obtain ⟨f0, f1, f2, hbF⟩ := H3.fin (3) (0) (⟨#[]⟩)
    go_wp2_with fail
    rw [put_eq]
    generalize put _ (w.heap.size + 2) (3) (0) (⟨#[]⟩) = wf at f0 f1 f2 hbF ⊢
    refine bodyPost_ret (v := .agg #[.int .i64 (3), .int .i64 (0), .string (⟨#[]⟩)]) (by simp [results, Try.results45, go_sem, f0, f1, f2]) rfl ?_
    exact ⟨rfl, hbF⟩
  · have hD := fun w => boolValue_implC false w
    go_enter Try.func45, Try.ntmps45
    go_wp2_with fail
    have H := fr_new w 3 0 ⟨#[]⟩ 3 1 ⟨#[]⟩
    generalize (((w.alloc (.cells #[.int .i64 3, .int .i64 0, .string ⟨#[]⟩] 27)).alloc (.cells #[.int .i64 3, .int .i64 1, .string ⟨#[]⟩] 27)).alloc (.cells #[.int .i64 0, .int .i64 0, .string ⟨#[]⟩] 27)) = V at H ⊢
    refine (hD _).mono ?_
    rintro e wd ⟨rfl, hbd⟩
    replace H := H.next hbd
    clear hbd hD
    have H3 := H.next ((Below.refl _ _).alloc (Nat.le_refl _) (.cells #[.int .i64 3, .int .i64 0, .string ⟨#[]⟩] 27))
    have hd : ValAt (wd.alloc (.cells #[.int .i64 3, .int .i64 0, .string ⟨#[]⟩] 27)) wd.heap.size 3 0 ⟨#[]⟩ := heap_alloc_new wd _
    obtain ⟨d0, d1, d2⟩ := hd.cells
    clear hd H
    obtain ⟨ca0, ca1, ca2⟩ := H3.a0.cells
    obtain ⟨cb0, cb1, cb2⟩ := H3.b0.cells
    obtain ⟨z0, z1, z2⟩ := H3.r0.soft
    obtain ⟨g0, g1, g2⟩ := H3.r0.cells
    obtain ⟨f0, f1, f2, hbF⟩ := H3.fin (3) (0) (⟨#[]⟩)
    go_wp2_with fail
    rw [put_eq]
    generalize put _ (w.heap.size + 2) (3) (0) (⟨#[]⟩) = wf at f0 f1 f2 hbF ⊢
    refine bodyPost_ret (v := .agg #[.int .i64 (3), .int .i64 (0), .string (⟨#[]⟩)]) (by simp [results, Try.results45, go_sem, f0, f1, f2]) rfl ?_
    exact ⟨rfl, hbF⟩
  · have hD := fun w => boolValue_implC false w
    go_enter Try.func45, Try.ntmps45
    go_wp2_with fail
    have H := fr_new w 3 1 ⟨#[]⟩ 0 0 ⟨#[]⟩
    generalize (((w.alloc (.cells #[.int .i64 3, .int .i64 1, .string ⟨#[]⟩] 27)).alloc (.cells #[.int .i64 0, .int .i64 0, .string ⟨#[]⟩] 27)).alloc (.cells #[.int .i64 0, .int .i64 0, .string ⟨#[]⟩] 27)) = V at H ⊢
    refine (hD _).mono ?_
    rintro e wd ⟨rfl, hbd⟩
    replace H := H.next hbd
    clear hbd hD
    have H3 := H.next ((Below.refl _ _).alloc (Nat.le_refl _) (.cells #[.int .i64 3, .int .i64 0, .string ⟨#[]⟩] 27))
    have hd : ValAt (wd.alloc (.cells #[.int .i64 3, .int .i64 0, .string ⟨#[]⟩] 27)) wd.heap.size 3 0 ⟨#[]⟩ := heap_alloc_new wd _
    obtain ⟨d0, d1, d2⟩ := hd.cells
    clear hd H
    obtain ⟨ca0, ca1, ca2⟩ := H3.a0.cells
    obtain ⟨cb0, cb1, cb2⟩ := H3.b0.cells
    have hNa := fun w => null_impl 3 1 ⟨#[]⟩ w
    have hNb := fun w => null_impl 0 0 ⟨#[]⟩ w
    go_wp2_with fail
    generalize wd.alloc (.cells #[.int .i64 3, .int .i64 0, .string ⟨#[]⟩] 27) = VD at H3 d0 d1 d2 ca0 ca1 ca2 cb0 cb1 cb2 ⊢
    have H := H3
    clear H3 d0 d1 d2
    refine (hNa _).mono ?_
    rintro e w3 ⟨rfl, hbn3⟩
    replace H := H.next hbn3
    clear hbn3
    clear ca0 ca1 ca2
    clear cb0 cb1 cb2
    obtain ⟨cb0, cb1, cb2⟩ := H.b0.cells
    go_wp2_with fail
    refine (hNb _).mono ?_
    rintro e w4 ⟨rfl, hbn4⟩
    replace H := H.next hbn4
    clear hbn4
    clear cb0 cb1 cb2
    obtain ⟨z0, z1, z2⟩ := H.r0.soft
    obtain ⟨g0, g1, g2⟩ := H.r0.cells
    obtain ⟨f0, f1, f2, hbF⟩ := H.fin (0) (0) (⟨#[]⟩)
    go_wp2_with fail
    rw [put_eq]
    generalize put _ (w.heap.size + 2) (0) (0) (⟨#[]⟩) = wf at f0 f1 f2 hbF ⊢
    refine bodyPost_ret (v := .agg #[.int .i64 (0), .int .i64 (0), .string (⟨#[]⟩)]) (by simp [results, Try.results45, go_sem, f0, f1, f2]) rfl ?_
    exact ⟨rfl, hbF⟩
  · have hD := fun w => boolValue_implC false w
    go_enter Try.func45, Try.ntmps45
    go_wp2_with fail
    have H := fr_new w 3 1 ⟨#[]⟩ 3 0 ⟨#[]⟩
    generalize (((w.alloc (.cells #[.int .i64 3, .int .i64 1, .string ⟨#[]⟩] 27)).alloc (.cells #[.int .i64 3, .int .i64 0, .string ⟨#[]⟩] 27)).alloc (.cells #[.int .i64 0, .int .i64 0, .string ⟨#[]⟩] 27)) = V at H ⊢
    refine (hD _).mono ?_
    rintro e wd ⟨rfl, hbd⟩
    replace H := H.next hbd
    clear hbd hD
    have H3 := H.next ((Below.refl _ _).alloc (Nat.le_refl _) (.cells #[.int .i64 3, .int .i64 0, .string ⟨#[]⟩] 27))
    have hd : ValAt (wd.alloc (.cells #[.int .i64 3, .int .i64 0, .string ⟨#[]⟩] 27)) wd.heap.size 3 0 ⟨#[]⟩ := heap_alloc_new wd _
    obtain ⟨d0, d1, d2⟩ := hd.cells
    clear hd H
    obtain ⟨ca0, ca1, ca2⟩ := H3.a0.cells
    obtain ⟨cb0, cb1, cb2⟩ := H3.b0.cells
    obtain ⟨z0, z1, z2⟩ := H3.r0.soft
    obtain ⟨g0, g1, g2⟩ := H3.r0.cells
    obtain ⟨f0, f1, f2, hbF⟩ := H3.fin (3) (0) (⟨#[]⟩)
    go_wp2_with fail
    rw [put_eq]
    generalize put _ (w.heap.size + 2) (3) (0) (⟨#[]⟩) = wf at f0 f1 f2 hbF ⊢
    refine bodyPost_ret (v := .agg #[.int .i64 (3), .int .i64 (0), .string (⟨#[]⟩)]) (by simp [results, Try.results45, go_sem, f0, f1, f2]) rfl ?_
    exact ⟨rfl, hbF⟩
  · have hD := fun w => boolValue_implC false w
    go_enter Try.func45, Try.ntmps45
    go_wp2_with fail
    have H := fr_new w 3 1 ⟨#[]⟩ 3 1 ⟨#[]⟩
    generalize (((w.alloc (.cells #[.int .i64 3, .int .i64 1, .string ⟨#[]⟩] 27)).alloc (.cells #[.int .i64 3, .int .i64 1, .string ⟨#[]⟩] 27)).alloc (.cells #[.int .i64 0, .int .i64 0, .string ⟨#[]⟩] 27)) = V at H ⊢
    refine (hD _).mono ?_
    rintro e wd ⟨rfl, hbd⟩
    replace H := H.next hbd
    clear hbd hD
    have H3 := H.next ((Below.refl _ _).alloc (Nat.le_refl _) (.cells #[.int .i64 3, .int .i64 0, .string ⟨#[]⟩] 27))
    have hd : ValAt (wd.alloc (.cells #[.int .i64 3, .int .i64 0, .string ⟨#[]⟩] 27)) wd.heap.size 3 0 ⟨#[]⟩ := heap_alloc_new wd _
    obtain ⟨d0, d1, d2⟩ := hd.cells
    clear hd H
    obtain ⟨ca0, ca1, ca2⟩ := H3.a0.cells
    obtain ⟨cb0, cb1, cb2⟩ := H3.b0.cells
    have hNa := fun w => null_impl 3 1 ⟨#[]⟩ w
    have hNb := fun w => null_impl 3 1 ⟨#[]⟩ w
    go_wp2_with fail
    generalize wd.alloc (.cells #[.int .i64 3, .int .i64 0, .string ⟨#[]⟩] 27) = VD at H3 d0 d1 d2 ca0 ca1 ca2 cb0 cb1 cb2 ⊢
    have H := H3
    clear H3 d0 d1 d2
    refine (hNa _).mono ?_
    rintro e w3 ⟨rfl, hbn3⟩
    replace H := H.next hbn3
    clear hbn3
    clear ca0 ca1 ca2
    clear cb0 cb1 cb2
    obtain ⟨cb0, cb1, cb2⟩ := H.b0.cells
    go_wp2_with fail
    refine (hNb _).mono ?_
    rintro e w4 ⟨rfl, hbn4⟩
    replace H := H.next hbn4
    clear hbn4
    clear cb0 cb1 cb2
    have hG := fun w => boolValue_implC true w
    go_wp2_with fail
    refine (hG _).mono ?_
    rintro e w5 ⟨rfl, hbn5⟩
    replace H := H.next hbn5
    clear hbn5
    obtain ⟨z0, z1, z2⟩ := H.r0.soft
    obtain ⟨g0, g1, g2⟩ := H.r0.cells
    obtain ⟨f0, f1, f2, hbF⟩ := H.fin (3) (1) (⟨#[]⟩)
    go_wp2_with fail
    rw [put_eq]
    generalize put _ (w.heap.size + 2) (3) (1) (⟨#[]⟩) = wf at f0 f1 f2 hbF ⊢
    refine bodyPost_ret (v := .agg #[.int .i64 (3), .int .i64 (1), .string (⟨#[]⟩)]) (by simp [results, Try.results45, go_sem, f0, f1, f2]) rfl ?_
    exact ⟨rfl, hbF⟩
end Go.Proofs.Ytjekhgekldkopaa

/- Contracts of the program's arithmetic on values and of its concatenation. -/
namespace Go.Proofs.Ytjekhgekldkopaa
open Go.RowKit

set_option maxRecDepth 100000 in
set_option maxHeartbeats 4000000 in
theorem calcNum_impl (op a b : Int) (w : World) (h1 : 10 ≤ op) (h2 : op ≤ 14) (ha0 : -9223372036854775808 ≤ a) (ha1 : a ≤ 9223372036854775807) (hb0 : -9223372036854775808 ≤ b) (hb1 : b ≤ 9223372036854775807) : Calls Try.prog 51 #[.int .i64 op, .int .i64 a, .int .i64 b] w (CalcE (numOpC op a b) w) := by
  by_cases h10 : op = 10
  · subst h10
    have hV : numOpC 10 a b = numC (a + b) := rfl
    rw [hV]
    clear hV
    have hN := fun w => addNum_impl a b w ha0 ha1 hb0 hb1
    have hC := fun w => numC_impl (a + b) w
    unfold NumR at hN
    generalize outI (a + b) = x at hN hC
    generalize fits (a + b) = c at hN hC
    obtain ⟨rk, rn, rt, rc, hR⟩ := CR.eta (numC (a + b))
    rw [hR] at hC ⊢
    clear hR
    go_enter Try.func51, Try.ntmps51
    go_wp2_with fail
    have H := fr1_new w
    generalize w.alloc (.cells #[.int .i64 0, .int .i64 0, .string ⟨#[]⟩] 27) = V at H ⊢
    refine (hN _).mono ?_
    rintro e w1 ⟨rfl, rfl⟩
    go_wp2_with fail
    refine (hC _).mono ?_
    rintro e w7 ⟨rfl, hbn7⟩
    replace H := H.next hbn7
    clear hbn7
    obtain ⟨z0, z1, z2⟩ := H.r0.soft
    obtain ⟨g0, g1, g2⟩ := H.r0.cells
    obtain ⟨f0, f1, f2, hbF⟩ := H.fin (rk) (rn) (rt)
    go_wp2_with fail
    rw [put_eq]
    generalize put _ (w.heap.size) (rk) (rn) (rt) = wf at f0 f1 f2 hbF ⊢
    refine bodyPost_ret (v := .tuple #[.agg #[.int .i64 (rk), .int .i64 (rn), .string (rt)], .int .i64 (rc)]) (by simp [results, Try.results51, go_sem, f0, f1, f2]) rfl ?_
    exact ⟨rfl, hbF⟩
  by_cases h11 : op = 11
  · subst h11
    have hV : numOpC 11 a b = numC (a - b) := rfl
    rw [hV]
    clear hV
    have hN := fun w => subNum_impl a b w ha0 ha1 hb0 hb1
    have hC := fun w => numC_impl (a - b) w
    unfold NumR at hN
    generalize outI (a - b) = x at hN hC
    generalize fits (a - b) = c at hN hC
    obtain ⟨rk, rn, rt, rc, hR⟩ := CR.eta (numC (a - b))
    rw [hR] at hC ⊢
    clear hR
    go_enter Try.func51, Try.ntmps51
    go_wp2_with fail
    have H := fr1_new w
    generalize w.alloc (.cells #[.int .i64 0, .int .i64 0, .string ⟨#[]⟩] 27) = V at H ⊢
    refine (hN _).mono ?_
    rintro e w1 ⟨rfl, rfl⟩
    go_wp2_with fail
    refine (hC _).mono ?_
    rintro e w7 ⟨rfl, hbn7⟩
    replace H := H.next hbn7
    clear hbn7
    obtain ⟨z0, z1, z2⟩ := H.r0.soft
    obtain ⟨g0, g1, g2⟩ := H.r0.cells
    obtain ⟨f0, f1, f2, hbF⟩ := H.fin (rk) (rn) (rt)
    go_wp2_with fail
    rw [put_eq]
    generalize put _ (w.heap.size) (rk) (rn) (rt) = wf at f0 f1 f2 hbF ⊢
    refine bodyPost_ret (v := .tuple #[.agg #[.int .i64 (rk), .int .i64 (rn), .string (rt)], .int .i64 (rc)]) (by simp [results, Try.results51, go_sem, f0, f1, f2]) rfl ?_
    exact ⟨rfl, hbF⟩
  by_cases h12 : op = 12
  · subst h12
    have hV : numOpC 12 a b = numC (a * b) := rfl
    rw [hV]
    clear hV
    have hN := fun w => mulNum_impl a b w ha0 ha1 hb0 hb1
    have hC := fun w => numC_impl (a * b) w
    unfold NumR at hN
    generalize outI (a * b) = x at hN hC
    generalize fits (a * b) = c at hN hC
    obtain ⟨rk, rn, rt, rc, hR⟩ := CR.eta (numC (a * b))
    rw [hR] at hC ⊢
    clear hR
    go_enter Try.func51, Try.ntmps51
    go_wp2_with fail
    have H := fr1_new w
    generalize w.alloc (.cells #[.int .i64 0, .int .i64 0, .string ⟨#[]⟩] 27) = V at H ⊢
    refine (hN _).mono ?_
    rintro e w1 ⟨rfl, rfl⟩
    go_wp2_with fail
    refine (hC _).mono ?_
    rintro e w7 ⟨rfl, hbn7⟩
    replace H := H.next hbn7
    clear hbn7
    obtain ⟨z0, z1, z2⟩ := H.r0.soft
    obtain ⟨g0, g1, g2⟩ := H.r0.cells
    obtain ⟨f0, f1, f2, hbF⟩ := H.fin (rk) (rn) (rt)
    go_wp2_with fail
    rw [put_eq]
    generalize put _ (w.heap.size) (rk) (rn) (rt) = wf at f0 f1 f2 hbF ⊢
    refine bodyPost_ret (v := .tuple #[.agg #[.int .i64 (rk), .int .i64 (rn), .string (rt)], .int .i64 (rc)]) (by simp [results, Try.results51, go_sem, f0, f1, f2]) rfl ?_
    exact ⟨rfl, hbF⟩
  have hO : numOpC op a b = if b = 0 then errC 3 else if op = 13 then numC (a.tdiv b) else numC (a.tmod b) := by unfold numOpC; rw [if_neg (by omega), if_neg (by omega), if_neg (by omega)]
  rw [hO]
  clear hO
  by_cases hb : b = 0
  · subst hb
    rw [if_pos rfl]
    unfold errC
    go_enter Try.func51, Try.ntmps51
    have H := fr1_new w
    obtain ⟨f0, f1, f2⟩ := H.r0.cells
    have hbF := H.b
    go_wp2_with fail
    generalize w.alloc (.cells #[.int .i64 0, .int .i64 0, .string ⟨#[]⟩] 27) = wf at f0 f1 f2 hbF ⊢
    refine bodyPost_ret (v := .tuple #[.agg #[.int .i64 (0), .int .i64 (0), .string (⟨#[]⟩)], .int .i64 (3)]) (by simp [results, Try.results51, go_sem, f0, f1, f2]) rfl ?_
    exact ⟨rfl, hbF⟩
  rw [if_neg hb]
  have qb : (b == 0) = false := by simpa using hb
  by_cases h13 : op = 13
  · subst h13
    rw [if_pos rfl]
    by_cases hm : b = -1
    · subst hm
      rw [tdiv_m1]
      have hN := fun w => subNum_impl 0 a w (by omega) (by omega) ha0 ha1
      have hC := fun w => numC_impl (0 - a) w
      unfold NumR at hN
      generalize outI (0 - a) = x at hN hC
      generalize fits (0 - a) = c at hN hC
      obtain ⟨rk, rn, rt, rc, hR⟩ := CR.eta (numC (0 - a))
      rw [hR] at hC ⊢
      clear hR
      go_enter Try.func51, Try.ntmps51
      go_wp2_with fail
      have H := fr1_new w
      generalize w.alloc (.cells #[.int .i64 0, .int .i64 0, .string ⟨#[]⟩] 27) = V at H ⊢
      refine (hN _).mono ?_
      rintro e w1 ⟨rfl, rfl⟩
      go_wp2_with fail
      refine (hC _).mono ?_
      rintro e w7 ⟨rfl, hbn7⟩
      replace H := H.next hbn7
      clear hbn7
      obtain ⟨z0, z1, z2⟩ := H.r0.soft
      obtain ⟨g0, g1, g2⟩ := H.r0.cells
      obtain ⟨f0, f1, f2, hbF⟩ := H.fin (rk) (rn) (rt)
      go_wp2_with fail
      rw [put_eq]
      generalize put _ (w.heap.size) (rk) (rn) (rt) = wf at f0 f1 f2 hbF ⊢
      refine bodyPost_ret (v := .tuple #[.agg #[.int .i64 (rk), .int .i64 (rn), .string (rt)], .int .i64 (rc)]) (by simp [results, Try.results51, go_sem, f0, f1, f2]) rfl ?_
      exact ⟨rfl, hbF⟩
    have qm : (b == -1) = false := by simpa using hm
    obtain ⟨q0, q1⟩ := quo_fits ⟨ha0, ha1⟩ hb hm
    rw [numC_yes (fits_iff.2 ⟨q0, q1⟩)]
    have hI := fun w => intValue_implC (a.tdiv b) w
    go_enter Try.func51, Try.ntmps51
    go_wp2_with fail
    have H := fr1_new w
    generalize w.alloc (.cells #[.int .i64 0, .int .i64 0, .string ⟨#[]⟩] 27) = V at H ⊢
    refine (hI _).mono ?_
    rintro e w1 ⟨rfl, hbn1⟩
    replace H := H.next hbn1
    clear hbn1
    obtain ⟨z0, z1, z2⟩ := H.r0.soft
    obtain ⟨g0, g1, g2⟩ := H.r0.cells
    obtain ⟨f0, f1, f2, hbF⟩ := H.fin (1) (a.tdiv b) (⟨#[]⟩)
    go_wp2_with fail
    rw [put_eq]
    generalize put _ (w.heap.size) (1) (a.tdiv b) (⟨#[]⟩) = wf at f0 f1 f2 hbF ⊢
    refine bodyPost_ret (v := .tuple #[.agg #[.int .i64 (1), .int .i64 (a.tdiv b), .string (⟨#[]⟩)], .int .i64 (0)]) (by simp [results, Try.results51, go_sem, f0, f1, f2]) rfl ?_
    exact ⟨rfl, hbF⟩
  obtain rfl : op = 14 := by omega
  rw [if_neg h13]
  obtain ⟨q0, q1⟩ := tmod_fits (a := a) hb hb0 hb1
  rw [numC_yes (fits_iff.2 ⟨q0, q1⟩)]
  have hI := fun w => intValue_implC (a.tmod b) w
  go_enter Try.func51, Try.ntmps51
  go_wp2_with fail
  have H := fr1_new w
  generalize w.alloc (.cells #[.int .i64 0, .int .i64 0, .string ⟨#[]⟩] 27) = V at H ⊢
  refine (hI _).mono ?_
  rintro e w1 ⟨rfl, hbn1⟩
  replace H := H.next hbn1
  clear hbn1
  obtain ⟨z0, z1, z2⟩ := H.r0.soft
  obtain ⟨g0, g1, g2⟩ := H.r0.cells
  obtain ⟨f0, f1, f2, hbF⟩ := H.fin (1) (a.tmod b) (⟨#[]⟩)
  go_wp2_with fail
  rw [put_eq]
  generalize put _ (w.heap.size) (1) (a.tmod b) (⟨#[]⟩) = wf at f0 f1 f2 hbF ⊢
  refine bodyPost_ret (v := .tuple #[.agg #[.int .i64 (1), .int .i64 (a.tmod b), .string (⟨#[]⟩)], .int .i64 (0)]) (by simp [results, Try.results51, go_sem, f0, f1, f2]) rfl ?_
  exact ⟨rfl, hbF⟩
set_option maxRecDepth 100000 in
set_option maxHeartbeats 1000000 in
theorem concat_impl (t t' : ByteArray) (w : World) (ht : t.size ≤ 200) (ht' : t'.size ≤ 200) : Calls Try.prog 50 #[.string t, .string t'] w (CalcE (catC t t') w) := by
  unfold catC
  by_cases h : t.size + t'.size ≤ 200
  · rw [if_pos h]
    have hd : decide (200 < (t.size : Int) + (t'.size : Int)) = false := by simp; omega
    have hI := fun w => textValue_implC (t ++ t') w
    clear h
    go_enter Try.func50, Try.ntmps50
    go_wp2_with fail
    have H := fr1_new w
    generalize w.alloc (.cells #[.int .i64 0, .int .i64 0, .string ⟨#[]⟩] 27) = V at H ⊢
    refine (hI _).mono ?_
    rintro e w1 ⟨rfl, hbn1⟩
    replace H := H.next hbn1
    clear hbn1
    obtain ⟨z0, z1, z2⟩ := H.r0.soft
    obtain ⟨g0, g1, g2⟩ := H.r0.cells
    obtain ⟨f0, f1, f2, hbF⟩ := H.fin (2) (0) (t ++ t')
    go_wp2_with fail
    rw [put_eq]
    generalize put _ (w.heap.size) (2) (0) (t ++ t') = wf at f0 f1 f2 hbF ⊢
    refine bodyPost_ret (v := .tuple #[.agg #[.int .i64 (2), .int .i64 (0), .string (t ++ t')], .int .i64 (0)]) (by simp [results, Try.results50, go_sem, f0, f1, f2]) rfl ?_
    exact ⟨rfl, hbF⟩
  · rw [if_neg h]
    unfold errC
    have hd : decide (200 < (t.size : Int) + (t'.size : Int)) = true := by simp; omega
    clear h
    go_enter Try.func50, Try.ntmps50
    have H := fr1_new w
    obtain ⟨f0, f1, f2⟩ := H.r0.cells
    have hbF := H.b
    go_wp2_with fail
    generalize w.alloc (.cells #[.int .i64 0, .int .i64 0, .string ⟨#[]⟩] 27) = wf at f0 f1 f2 hbF ⊢
    refine bodyPost_ret (v := .tuple #[.agg #[.int .i64 (0), .int .i64 (0), .string (⟨#[]⟩)], .int .i64 (2)]) (by simp [results, Try.results50, go_sem, f0, f1, f2]) rfl ?_
    exact ⟨rfl, hbF⟩
end Go.Proofs.Ytjekhgekldkopaa

/- The contract of the program's Calc. -/
namespace Go.Proofs.Ytjekhgekldkopaa
open Go.RowKit

set_option maxRecDepth 100000 in
set_option maxHeartbeats 8000000 in
theorem calc_impl (op : Int) (k a : Int) (t : ByteArray) (k' a' : Int) (t' : ByteArray) (w : World) (ht : t.size ≤ 9223372036854775807) (ht' : t'.size ≤ 9223372036854775807) (ha0 : -9223372036854775808 ≤ a) (ha1 : a ≤ 9223372036854775807) (hb0 : -9223372036854775808 ≤ a') (hb1 : a' ≤ 9223372036854775807) : Calls Try.prog 17 #[.int .i64 op, .agg #[.int .i64 k, .int .i64 a, .string t], .agg #[.int .i64 k', .int .i64 a', .string t']] w (CalcE (calcC op k a t k' a' t') w) := by
  have hV := fun w => valueOk_impl k a t w ht
  have hW := fun w => valueOk_impl k' a' t' w ht'
  by_cases h1 : 1 ≤ op
  case neg =>
    rw [calc_bad (.inl (by rw [decide_eq_false h1]; rfl))]
    have d1 : decide (op < 1) = true := by simp; omega
    clear hV hW h1
    unfold errC
    go_enter Try.func17, Try.ntmps17
    go_wp2_with fail
    have H := fr_new w k a t k' a' t'
    generalize (((w.alloc (.cells #[.int .i64 k, .int .i64 a, .string t] 27)).alloc (.cells #[.int .i64 k', .int .i64 a', .string t'] 27)).alloc (.cells #[.int .i64 0, .int .i64 0, .string ⟨#[]⟩] 27)) = V at H ⊢
    obtain ⟨f0, f1, f2⟩ := H.r0.cells
    have hbF := H.b
    refine bodyPost_ret (v := .tuple #[.agg #[.int .i64 0, .int .i64 0, .string ⟨#[]⟩], .int .i64 1]) (by simp [results, Try.results17, go_sem, f0, f1, f2]) rfl ?_
    exact ⟨rfl, hbF⟩
  by_cases h14 : op ≤ 14
  case neg =>
    rw [calc_bad (.inl (by rw [decide_eq_false h14]; simp))]
    have d1 : decide (op < 1) = false := by simp; omega
    have d2 : decide (14 < op) = true := by simp; omega
    clear hV hW h1 h14
    unfold errC
    go_enter Try.func17, Try.ntmps17
    go_wp2_with fail
    have H := fr_new w k a t k' a' t'
    generalize (((w.alloc (.cells #[.int .i64 k, .int .i64 a, .string t] 27)).alloc (.cells #[.int .i64 k', .int .i64 a', .string t'] 27)).alloc (.cells #[.int .i64 0, .int .i64 0, .string ⟨#[]⟩] 27)) = V at H ⊢
    obtain ⟨f0, f1, f2⟩ := H.r0.cells
    have hbF := H.b
    refine bodyPost_ret (v := .tuple #[.agg #[.int .i64 0, .int .i64 0, .string ⟨#[]⟩], .int .i64 1]) (by simp [results, Try.results17, go_sem, f0, f1, f2]) rfl ?_
    exact ⟨rfl, hbF⟩
  have d1 : decide (op < 1) = false := by simp; omega
  have d2 : decide (14 < op) = false := by simp; omega
  cases hva : valOk k a t.data.toList
  · rw [calc_bad (.inr (.inl hva))]
    rw [hva] at hV
    clear hva hW
    unfold errC
    go_enter Try.func17, Try.ntmps17
    go_wp2_with fail
    have H := fr_new w k a t k' a' t'
    generalize (((w.alloc (.cells #[.int .i64 k, .int .i64 a, .string t] 27)).alloc (.cells #[.int .i64 k', .int .i64 a', .string t'] 27)).alloc (.cells #[.int .i64 0, .int .i64 0, .string ⟨#[]⟩] 27)) = V at H ⊢
    obtain ⟨ca0, ca1, ca2⟩ := H.a0.cells
    refine (hV _).mono ?_
    rintro e w1 ⟨rfl, hbn1⟩
    replace H := H.next hbn1
    clear hbn1
    clear ca0 ca1 ca2
    obtain ⟨z0, z1, z2⟩ := H.r0.soft
    obtain ⟨g0, g1, g2⟩ := H.r0.cells
    obtain ⟨f0, f1, f2, hbF⟩ := H.fin (0) (0) (⟨#[]⟩)
    go_wp2_with fail
    rw [put_eq]
    generalize put _ (w.heap.size + 2) (0) (0) (⟨#[]⟩) = wf at f0 f1 f2 hbF ⊢
    refine bodyPost_ret (v := .tuple #[.agg #[.int .i64 (0), .int .i64 (0), .string (⟨#[]⟩)], .int .i64 (1)]) (by simp [results, Try.results17, go_sem, f0, f1, f2]) rfl ?_
    exact ⟨rfl, hbF⟩
  cases hvb : valOk k' a' t'.data.toList
  · rw [calc_bad (.inr (.inr (.inl hvb)))]
    rw [hva] at hV
    rw [hvb] at hW
    clear hva hvb
    unfold errC
    go_enter Try.func17, Try.ntmps17
    go_wp2_with fail
    have H := fr_new w k a t k' a' t'
    generalize (((w.alloc (.cells #[.int .i64 k, .int .i64 a, .string t] 27)).alloc (.cells #[.int .i64 k', .int .i64 a', .string t'] 27)).alloc (.cells #[.int .i64 0, .int .i64 0, .string ⟨#[]⟩] 27)) = V at H ⊢
    obtain ⟨ca0, ca1, ca2⟩ := H.a0.cells
    refine (hV _).mono ?_
    rintro e w1 ⟨rfl, hbn1⟩
    replace H := H.next hbn1
    clear hbn1
    clear ca0 ca1 ca2
    obtain ⟨cb0, cb1, cb2⟩ := H.b0.cells
    go_wp2_with fail
    refine (hW _).mono ?_
    rintro e w2 ⟨rfl, hbn2⟩
    replace H := H.next hbn2
    clear hbn2
    clear cb0 cb1 cb2
    obtain ⟨z0, z1, z2⟩ := H.r0.soft
    obtain ⟨g0, g1, g2⟩ := H.r0.cells
    obtain ⟨f0, f1, f2, hbF⟩ := H.fin (0) (0) (⟨#[]⟩)
    go_wp2_with fail
    rw [put_eq]
    generalize put _ (w.heap.size + 2) (0) (0) (⟨#[]⟩) = wf at f0 f1 f2 hbF ⊢
    refine bodyPost_ret (v := .tuple #[.agg #[.int .i64 (0), .int .i64 (0), .string (⟨#[]⟩)], .int .i64 (1)]) (by simp [results, Try.results17, go_sem, f0, f1, f2]) rfl ?_
    exact ⟨rfl, hbF⟩
  have hva2 := hva
  have hvb2 := hvb
  rw [hva] at hV
  rw [hvb] at hW
  have hT := fun w => types_impl op k a t k' a' t' w h1 h14
  cases hf : fitsOp op k k'
  · rw [calc_bad (.inr (.inr (.inr hf)))]
    rw [hf] at hT
    clear hf hva hvb hva2 hvb2
    unfold errC
    go_enter Try.func17, Try.ntmps17
    go_wp2_with fail
    have H := fr_new w k a t k' a' t'
    generalize (((w.alloc (.cells #[.int .i64 k, .int .i64 a, .string t] 27)).alloc (.cells #[.int .i64 k', .int .i64 a', .string t'] 27)).alloc (.cells #[.int .i64 0, .int .i64 0, .string ⟨#[]⟩] 27)) = V at H ⊢
    obtain ⟨ca0, ca1, ca2⟩ := H.a0.cells
    refine (hV _).mono ?_
    rintro e w1 ⟨rfl, hbn1⟩
    replace H := H.next hbn1
    clear hbn1
    clear ca0 ca1 ca2
    obtain ⟨cb0, cb1, cb2⟩ := H.b0.cells
    go_wp2_with fail
    refine (hW _).mono ?_
    rintro e w2 ⟨rfl, hbn2⟩
    replace H := H.next hbn2
    clear hbn2
    clear cb0 cb1 cb2
    obtain ⟨ca0, ca1, ca2⟩ := H.a0.cells
    obtain ⟨cb0, cb1, cb2⟩ := H.b0.cells
    go_wp2_with fail
    refine (hT _).mono ?_
    rintro e w3 ⟨rfl, hbn3⟩
    replace H := H.next hbn3
    clear hbn3
    clear ca0 ca1 ca2
    clear cb0 cb1 cb2
    obtain ⟨z0, z1, z2⟩ := H.r0.soft
    obtain ⟨g0, g1, g2⟩ := H.r0.cells
    obtain ⟨f0, f1, f2, hbF⟩ := H.fin (0) (0) (⟨#[]⟩)
    go_wp2_with fail
    rw [put_eq]
    generalize put _ (w.heap.size + 2) (0) (0) (⟨#[]⟩) = wf at f0 f1 f2 hbF ⊢
    refine bodyPost_ret (v := .tuple #[.agg #[.int .i64 (0), .int .i64 (0), .string (⟨#[]⟩)], .int .i64 (1)]) (by simp [results, Try.results17, go_sem, f0, f1, f2]) rfl ?_
    exact ⟨rfl, hbF⟩
  have hR := calc_good h1 h14 hva hvb hf
  rw [hf] at hT
  clear hva hvb
  have hC := fun w => conn_impl op w
  by_cases h2 : op ≤ 2
  · rw [if_pos h2] at hR
    have hf2 : (kindIn k 3 && kindIn k' 3) = true := by unfold fitsOp at hf; rw [if_pos h2] at hf; exact hf
    rw [Bool.and_eq_true] at hf2
    have hL := fun w => logic_impl op k a t k' a' t' w h1 h2 hva2 hvb2 hf2.1 hf2.2
    have hc : ((op == 1) || (op == 2)) = true := by rcases (show op = 1 ∨ op = 2 by omega) with rfl | rfl <;> rfl
    have hz : (logicC op k a k' a').c = 0 := by
      unfold logicC boolC nullC
      repeat' split
      all_goals rfl
    rw [hc] at hC
    rw [hR]
    clear hR hf hc hva2 hvb2 hf2
    generalize logicC op k a k' a' = r at hL hz ⊢
    obtain ⟨rk, rn, rt, rc⟩ := r
    obtain rfl : rc = 0 := hz
    have hL2 : ∀ w, Calls Try.prog 45 #[.int .i64 op, .agg #[.int .i64 k, .int .i64 a, .string t], .agg #[.int .i64 k', .int .i64 a', .string t']] w (CopyV rk rn rt w) := hL
    clear hL
    go_enter Try.func17, Try.ntmps17
    go_wp2_with fail
    have H := fr_new w k a t k' a' t'
    generalize (((w.alloc (.cells #[.int .i64 k, .int .i64 a, .string t] 27)).alloc (.cells #[.int .i64 k', .int .i64 a', .string t'] 27)).alloc (.cells #[.int .i64 0, .int .i64 0, .string ⟨#[]⟩] 27)) = V at H ⊢
    obtain ⟨ca0, ca1, ca2⟩ := H.a0.cells
    refine (hV _).mono ?_
    rintro e w1 ⟨rfl, hbn1⟩
    replace H := H.next hbn1
    clear hbn1
    clear ca0 ca1 ca2
    obtain ⟨cb0, cb1, cb2⟩ := H.b0.cells
    go_wp2_with fail
    refine (hW _).mono ?_
    rintro e w2 ⟨rfl, hbn2⟩
    replace H := H.next hbn2
    clear hbn2
    clear cb0 cb1 cb2
    obtain ⟨ca0, ca1, ca2⟩ := H.a0.cells
    obtain ⟨cb0, cb1, cb2⟩ := H.b0.cells
    go_wp2_with fail
    refine (hT _).mono ?_
    rintro e w3 ⟨rfl, hbn3⟩
    replace H := H.next hbn3
    clear hbn3
    clear ca0 ca1 ca2
    clear cb0 cb1 cb2
    go_wp2_with fail
    refine (hC _).mono ?_
    rintro e w0 ⟨rfl, rfl⟩
    obtain ⟨ca0, ca1, ca2⟩ := H.a0.cells
    obtain ⟨cb0, cb1, cb2⟩ := H.b0.cells
    go_wp2_with fail
    refine (hL2 _).mono ?_
    rintro e w4 ⟨rfl, hbn4⟩
    replace H := H.next hbn4
    clear hbn4
    clear ca0 ca1 ca2
    clear cb0 cb1 cb2
    obtain ⟨z0, z1, z2⟩ := H.r0.soft
    obtain ⟨g0, g1, g2⟩ := H.r0.cells
    obtain ⟨f0, f1, f2, hbF⟩ := H.fin (rk) (rn) (rt)
    go_wp2_with fail
    rw [put_eq]
    generalize put _ (w.heap.size + 2) (rk) (rn) (rt) = wf at f0 f1 f2 hbF ⊢
    refine bodyPost_ret (v := .tuple #[.agg #[.int .i64 (rk), .int .i64 (rn), .string (rt)], .int .i64 (0)]) (by simp [results, Try.results17, go_sem, f0, f1, f2]) rfl ?_
    exact ⟨rfl, hbF⟩
  have hc : ((op == 1) || (op == 2)) = false := by
    rw [show (op == 1) = false by simp; omega, show (op == 2) = false by simp; omega]; rfl
  rw [hc] at hC
  clear hc
  rw [if_neg h2] at hR
  clear hf
  have hNa := fun w => null_impl k a t w
  have hNb := fun w => null_impl k' a' t' w
  cases hk : (k == 0)
  case true =>
    rw [hk] at hNa hR
    rw [hR]
    clear hR hva2 hvb2 hNb
    show Calls _ _ _ w (CalcE nullC w)
    unfold nullC
    go_enter Try.func17, Try.ntmps17
    go_wp2_with fail
    have H := fr_new w k a t k' a' t'
    generalize (((w.alloc (.cells #[.int .i64 k, .int .i64 a, .string t] 27)).alloc (.cells #[.int .i64 k', .int .i64 a', .string t'] 27)).alloc (.cells #[.int .i64 0, .int .i64 0, .string ⟨#[]⟩] 27)) = V at H ⊢
    obtain ⟨ca0, ca1, ca2⟩ := H.a0.cells
    refine (hV _).mono ?_
    rintro e w1 ⟨rfl, hbn1⟩
    replace H := H.next hbn1
    clear hbn1
    clear ca0 ca1 ca2
    obtain ⟨cb0, cb1, cb2⟩ := H.b0.cells
    go_wp2_with fail
    refine (hW _).mono ?_
    rintro e w2 ⟨rfl, hbn2⟩
    replace H := H.next hbn2
    clear hbn2
    clear cb0 cb1 cb2
    obtain ⟨ca0, ca1, ca2⟩ := H.a0.cells
    obtain ⟨cb0, cb1, cb2⟩ := H.b0.cells
    go_wp2_with fail
    refine (hT _).mono ?_
    rintro e w3 ⟨rfl, hbn3⟩
    replace H := H.next hbn3
    clear hbn3
    clear ca0 ca1 ca2
    clear cb0 cb1 cb2
    go_wp2_with fail
    refine (hC _).mono ?_
    rintro e w0 ⟨rfl, rfl⟩
    obtain ⟨ca0, ca1, ca2⟩ := H.a0.cells
    go_wp2_with fail
    refine (hNa _).mono ?_
    rintro e w4 ⟨rfl, hbn4⟩
    replace H := H.next hbn4
    clear hbn4
    clear ca0 ca1 ca2
    obtain ⟨z0, z1, z2⟩ := H.r0.soft
    obtain ⟨g0, g1, g2⟩ := H.r0.cells
    obtain ⟨f0, f1, f2, hbF⟩ := H.fin (0) (0) (⟨#[]⟩)
    go_wp2_with fail
    rw [put_eq]
    generalize put _ (w.heap.size + 2) (0) (0) (⟨#[]⟩) = wf at f0 f1 f2 hbF ⊢
    refine bodyPost_ret (v := .tuple #[.agg #[.int .i64 (0), .int .i64 (0), .string (⟨#[]⟩)], .int .i64 (0)]) (by simp [results, Try.results17, go_sem, f0, f1, f2]) rfl ?_
    exact ⟨rfl, hbF⟩
  cases hk' : (k' == 0)
  case true =>
    rw [hk] at hNa hR
    rw [hk'] at hNb hR
    rw [hR]
    clear hR hva2 hvb2
    show Calls _ _ _ w (CalcE nullC w)
    unfold nullC
    go_enter Try.func17, Try.ntmps17
    go_wp2_with fail
    have H := fr_new w k a t k' a' t'
    generalize (((w.alloc (.cells #[.int .i64 k, .int .i64 a, .string t] 27)).alloc (.cells #[.int .i64 k', .int .i64 a', .string t'] 27)).alloc (.cells #[.int .i64 0, .int .i64 0, .string ⟨#[]⟩] 27)) = V at H ⊢
    obtain ⟨ca0, ca1, ca2⟩ := H.a0.cells
    refine (hV _).mono ?_
    rintro e w1 ⟨rfl, hbn1⟩
    replace H := H.next hbn1
    clear hbn1
    clear ca0 ca1 ca2
    obtain ⟨cb0, cb1, cb2⟩ := H.b0.cells
    go_wp2_with fail
    refine (hW _).mono ?_
    rintro e w2 ⟨rfl, hbn2⟩
    replace H := H.next hbn2
    clear hbn2
    clear cb0 cb1 cb2
    obtain ⟨ca0, ca1, ca2⟩ := H.a0.cells
    obtain ⟨cb0, cb1, cb2⟩ := H.b0.cells
    go_wp2_with fail
    refine (hT _).mono ?_
    rintro e w3 ⟨rfl, hbn3⟩
    replace H := H.next hbn3
    clear hbn3
    clear ca0 ca1 ca2
    clear cb0 cb1 cb2
    go_wp2_with fail
    refine (hC _).mono ?_
    rintro e w0 ⟨rfl, rfl⟩
    obtain ⟨ca0, ca1, ca2⟩ := H.a0.cells
    go_wp2_with fail
    refine (hNa _).mono ?_
    rintro e w4 ⟨rfl, hbn4⟩
    replace H := H.next hbn4
    clear hbn4
    clear ca0 ca1 ca2
    obtain ⟨cb0, cb1, cb2⟩ := H.b0.cells
    go_wp2_with fail
    refine (hNb _).mono ?_
    rintro e w5 ⟨rfl, hbn5⟩
    replace H := H.next hbn5
    clear hbn5
    clear cb0 cb1 cb2
    obtain ⟨z0, z1, z2⟩ := H.r0.soft
    obtain ⟨g0, g1, g2⟩ := H.r0.cells
    obtain ⟨f0, f1, f2, hbF⟩ := H.fin (0) (0) (⟨#[]⟩)
    go_wp2_with fail
    rw [put_eq]
    generalize put _ (w.heap.size + 2) (0) (0) (⟨#[]⟩) = wf at f0 f1 f2 hbF ⊢
    refine bodyPost_ret (v := .tuple #[.agg #[.int .i64 (0), .int .i64 (0), .string (⟨#[]⟩)], .int .i64 (0)]) (by simp [results, Try.results17, go_sem, f0, f1, f2]) rfl ?_
    exact ⟨rfl, hbF⟩
  rw [hk] at hNa
  rw [hk'] at hNb
  rw [hk, hk', if_neg (by decide)] at hR
  clear hk hk'
  by_cases h8 : op ≤ 8
  · rw [if_pos h8] at hR
    have h3 : 3 ≤ op := by omega
    have hO := fun w => order_impl0 k a t k' a' t' w
    have hX := ordV_range (k, a, t.data.toList) (k', a', t'.data.toList)
    rw [hR]
    clear hR hva2 hvb2
    generalize ordV (k, a, t.data.toList) (k', a', t'.data.toList) = x at hO hX ⊢
    have hM := fun w => compare_impl op x w h3 h8 hX
    generalize holdsB op x = y at hM ⊢
    have hB := fun w => boolValue_implC y w
    unfold boolC
    generalize (if y then (1 : Int) else 0) = z at hB ⊢
    clear hX
    have hD := fun w => cmp_impl op w
    have hd : (decide (3 ≤ op) && decide (op ≤ 8)) = true := by rw [decide_eq_true h3, decide_eq_true h8]; rfl
    rw [hd] at hD
    clear hd
    go_enter Try.func17, Try.ntmps17
    go_wp2_with fail
    have H := fr_new w k a t k' a' t'
    generalize (((w.alloc (.cells #[.int .i64 k, .int .i64 a, .string t] 27)).alloc (.cells #[.int .i64 k', .int .i64 a', .string t'] 27)).alloc (.cells #[.int .i64 0, .int .i64 0, .string ⟨#[]⟩] 27)) = V at H ⊢
    obtain ⟨ca0, ca1, ca2⟩ := H.a0.cells
    refine (hV _).mono ?_
    rintro e w1 ⟨rfl, hbn1⟩
    replace H := H.next hbn1
    clear hbn1
    clear ca0 ca1 ca2
    obtain ⟨cb0, cb1, cb2⟩ := H.b0.cells
    go_wp2_with fail
    refine (hW _).mono ?_
    rintro e w2 ⟨rfl, hbn2⟩
    replace H := H.next hbn2
    clear hbn2
    clear cb0 cb1 cb2
    obtain ⟨ca0, ca1, ca2⟩ := H.a0.cells
    obtain ⟨cb0, cb1, cb2⟩ := H.b0.cells
    go_wp2_with fail
    refine (hT _).mono ?_
    rintro e w3 ⟨rfl, hbn3⟩
    replace H := H.next hbn3
    clear hbn3
    clear ca0 ca1 ca2
    clear cb0 cb1 cb2
    go_wp2_with fail
    refine (hC _).mono ?_
    rintro e w0 ⟨rfl, rfl⟩
    obtain ⟨ca0, ca1, ca2⟩ := H.a0.cells
    go_wp2_with fail
    refine (hNa _).mono ?_
    rintro e w4 ⟨rfl, hbn4⟩
    replace H := H.next hbn4
    clear hbn4
    clear ca0 ca1 ca2
    obtain ⟨cb0, cb1, cb2⟩ := H.b0.cells
    go_wp2_with fail
    refine (hNb _).mono ?_
    rintro e w5 ⟨rfl, hbn5⟩
    replace H := H.next hbn5
    clear hbn5
    clear cb0 cb1 cb2
    go_wp2_with fail
    refine (hD _).mono ?_
    rintro e w0 ⟨rfl, rfl⟩
    obtain ⟨ca0, ca1, ca2⟩ := H.a0.cells
    obtain ⟨cb0, cb1, cb2⟩ := H.b0.cells
    go_wp2_with fail
    refine (hO _).mono ?_
    rintro e w6 ⟨rfl, hbn6⟩
    replace H := H.next hbn6
    clear hbn6
    clear ca0 ca1 ca2
    clear cb0 cb1 cb2
    go_wp2_with fail
    refine (hM _).mono ?_
    rintro e wm ⟨rfl, rfl⟩
    go_wp2_with fail
    refine (hB _).mono ?_
    rintro e w8 ⟨rfl, hbn8⟩
    replace H := H.next hbn8
    clear hbn8
    obtain ⟨z0, z1, z2⟩ := H.r0.soft
    obtain ⟨g0, g1, g2⟩ := H.r0.cells
    obtain ⟨f0, f1, f2, hbF⟩ := H.fin (3) (z) (⟨#[]⟩)
    go_wp2_with fail
    rw [put_eq]
    generalize put _ (w.heap.size + 2) (3) (z) (⟨#[]⟩) = wf at f0 f1 f2 hbF ⊢
    refine bodyPost_ret (v := .tuple #[.agg #[.int .i64 (3), .int .i64 (z), .string (⟨#[]⟩)], .int .i64 (0)]) (by simp [results, Try.results17, go_sem, f0, f1, f2]) rfl ?_
    exact ⟨rfl, hbF⟩
  rw [if_neg h8] at hR
  have hD := fun w => cmp_impl op w
  have hd : (decide (3 ≤ op) && decide (op ≤ 8)) = false := by rw [decide_eq_false h8]; simp
  rw [hd] at hD
  clear hd
  by_cases h9 : op = 9
  · subst h9
    rw [if_pos rfl] at hR
    have hs := text_small hva2
    have hs' := text_small hvb2
    rw [hR]
    clear hR hva2 hvb2 h8 h2
    have hX := fun w => concat_impl t t' w hs hs'
    obtain ⟨rk, rn, rt, rc, hE⟩ := CR.eta (catC t t')
    rw [hE] at hX ⊢
    clear hE
    go_enter Try.func17, Try.ntmps17
    go_wp2_with fail
    have H := fr_new w k a t k' a' t'
    generalize (((w.alloc (.cells #[.int .i64 k, .int .i64 a, .string t] 27)).alloc (.cells #[.int .i64 k', .int .i64 a', .string t'] 27)).alloc (.cells #[.int .i64 0, .int .i64 0, .string ⟨#[]⟩] 27)) = V at H ⊢
    obtain ⟨ca0, ca1, ca2⟩ := H.a0.cells
    refine (hV _).mono ?_
    rintro e w1 ⟨rfl, hbn1⟩
    replace H := H.next hbn1
    clear hbn1
    clear ca0 ca1 ca2
    obtain ⟨cb0, cb1, cb2⟩ := H.b0.cells
    go_wp2_with fail
    refine (hW _).mono ?_
    rintro e w2 ⟨rfl, hbn2⟩
    replace H := H.next hbn2
    clear hbn2
    clear cb0 cb1 cb2
    obtain ⟨ca0, ca1, ca2⟩ := H.a0.cells
    obtain ⟨cb0, cb1, cb2⟩ := H.b0.cells
    go_wp2_with fail
    refine (hT _).mono ?_
    rintro e w3 ⟨rfl, hbn3⟩
    replace H := H.next hbn3
    clear hbn3
    clear ca0 ca1 ca2
    clear cb0 cb1 cb2
    go_wp2_with fail
    refine (hC _).mono ?_
    rintro e w0 ⟨rfl, rfl⟩
    obtain ⟨ca0, ca1, ca2⟩ := H.a0.cells
    go_wp2_with fail
    refine (hNa _).mono ?_
    rintro e w4 ⟨rfl, hbn4⟩
    replace H := H.next hbn4
    clear hbn4
    clear ca0 ca1 ca2
    obtain ⟨cb0, cb1, cb2⟩ := H.b0.cells
    go_wp2_with fail
    refine (hNb _).mono ?_
    rintro e w5 ⟨rfl, hbn5⟩
    replace H := H.next hbn5
    clear hbn5
    clear cb0 cb1 cb2
    go_wp2_with fail
    refine (hD _).mono ?_
    rintro e w0 ⟨rfl, rfl⟩
    obtain ⟨ca0, ca1, ca2⟩ := H.a0.cells
    obtain ⟨cb0, cb1, cb2⟩ := H.b0.cells
    go_wp2_with fail
    refine (hX _).mono ?_
    rintro e w7 ⟨rfl, hbn7⟩
    replace H := H.next hbn7
    clear hbn7
    clear ca0 ca1 ca2
    clear cb0 cb1 cb2
    obtain ⟨z0, z1, z2⟩ := H.r0.soft
    obtain ⟨g0, g1, g2⟩ := H.r0.cells
    obtain ⟨f0, f1, f2, hbF⟩ := H.fin (rk) (rn) (rt)
    go_wp2_with fail
    rw [put_eq]
    generalize put _ (w.heap.size + 2) (rk) (rn) (rt) = wf at f0 f1 f2 hbF ⊢
    refine bodyPost_ret (v := .tuple #[.agg #[.int .i64 (rk), .int .i64 (rn), .string (rt)], .int .i64 (rc)]) (by simp [results, Try.results17, go_sem, f0, f1, f2]) rfl ?_
    exact ⟨rfl, hbF⟩
  have q9 : (op == 9) = false := by simpa using h9
  rw [if_neg h9] at hR
  clear hva2 hvb2
  have hX := fun w => calcNum_impl op a a' w (by omega) h14 ha0 ha1 hb0 hb1
  rw [hR]
  clear hR
  obtain ⟨rk, rn, rt, rc, hE⟩ := CR.eta (numOpC op a a')
  rw [hE] at hX ⊢
  clear hE
  go_enter Try.func17, Try.ntmps17
  go_wp2_with fail
  have H := fr_new w k a t k' a' t'
  generalize (((w.alloc (.cells #[.int .i64 k, .int .i64 a, .string t] 27)).alloc (.cells #[.int .i64 k', .int .i64 a', .string t'] 27)).alloc (.cells #[.int .i64 0, .int .i64 0, .string ⟨#[]⟩] 27)) = V at H ⊢
  obtain ⟨ca0, ca1, ca2⟩ := H.a0.cells
  refine (hV _).mono ?_
  rintro e w1 ⟨rfl, hbn1⟩
  replace H := H.next hbn1
  clear hbn1
  clear ca0 ca1 ca2
  obtain ⟨cb0, cb1, cb2⟩ := H.b0.cells
  go_wp2_with fail
  refine (hW _).mono ?_
  rintro e w2 ⟨rfl, hbn2⟩
  replace H := H.next hbn2
  clear hbn2
  clear cb0 cb1 cb2
  obtain ⟨ca0, ca1, ca2⟩ := H.a0.cells
  obtain ⟨cb0, cb1, cb2⟩ := H.b0.cells
  go_wp2_with fail
  refine (hT _).mono ?_
  rintro e w3 ⟨rfl, hbn3⟩
  replace H := H.next hbn3
  clear hbn3
  clear ca0 ca1 ca2
  clear cb0 cb1 cb2
  go_wp2_with fail
  refine (hC _).mono ?_
  rintro e w0 ⟨rfl, rfl⟩
  obtain ⟨ca0, ca1, ca2⟩ := H.a0.cells
  go_wp2_with fail
  refine (hNa _).mono ?_
  rintro e w4 ⟨rfl, hbn4⟩
  replace H := H.next hbn4
  clear hbn4
  clear ca0 ca1 ca2
  obtain ⟨cb0, cb1, cb2⟩ := H.b0.cells
  go_wp2_with fail
  refine (hNb _).mono ?_
  rintro e w5 ⟨rfl, hbn5⟩
  replace H := H.next hbn5
  clear hbn5
  clear cb0 cb1 cb2
  go_wp2_with fail
  refine (hD _).mono ?_
  rintro e w0 ⟨rfl, rfl⟩
  obtain ⟨ca0, ca1, ca2⟩ := H.a0.cells
  obtain ⟨cb0, cb1, cb2⟩ := H.b0.cells
  go_wp2_with fail
  refine (hX _).mono ?_
  rintro e w7 ⟨rfl, hbn7⟩
  replace H := H.next hbn7
  clear hbn7
  clear ca0 ca1 ca2
  clear cb0 cb1 cb2
  obtain ⟨z0, z1, z2⟩ := H.r0.soft
  obtain ⟨g0, g1, g2⟩ := H.r0.cells
  obtain ⟨f0, f1, f2, hbF⟩ := H.fin (rk) (rn) (rt)
  go_wp2_with fail
  rw [put_eq]
  generalize put _ (w.heap.size + 2) (rk) (rn) (rt) = wf at f0 f1 f2 hbF ⊢
  refine bodyPost_ret (v := .tuple #[.agg #[.int .i64 (rk), .int .i64 (rn), .string (rt)], .int .i64 (rc)]) (by simp [results, Try.results17, go_sem, f0, f1, f2]) rfl ?_
  exact ⟨rfl, hbF⟩
end Go.Proofs.Ytjekhgekldkopaa

/- A region that draws its order: its first n operations are quiet (calls that make memory among them), the rest is a chain behind them: one walk. -/
namespace Go.Proofs.Ytjekhgekldkopaa
open Go.RowKit

section
variable {P : Program} {md : Region.Mode} {l : List Oper} {n : Nat}

/-- an operation that hangs on earlier ones alone -/
def backB (md : Region.Mode) (l : List Oper) (n i : Nat) : Bool :=
  match l[i]? with
  | none => false
  | some o => (o.after.all fun e => !Region.binds md e || decide (e.on < i)) && (match o.guard with
    | none => true
    | some g => decide (g.1 < n))
/-- where the region may be cut -/
def cutB (md : Region.Mode) (l : List Oper) (n : Nat) : Bool :=
  (decide (n < l.length) && ((List.range n).all fun i => backB md l n i)) &&
  ((Region.noSelect (l.take n).toArray && Region.lexFrom md (l.take n).toArray n 0 (Array.replicate l.length false)) &&
  ((Region.sinkB md l.toArray n && Region.chainB md l.toArray n) && Region.seqB md l.toArray (l.length - n) n (Array.replicate n true ++ Array.replicate (l.length - n) false)))

theorem head_get {i : Nat} (hi : i < n) : (l.take n).toArray[i]? = l.toArray[i]? := by
  simp [List.getElem?_take, hi]
theorem head_of {i : Nat} {o : Oper} (h : (l.take n).toArray[i]? = some o) : i < n := by
  have h2 := (Array.getElem?_eq_some_iff.1 h).1
  simp at h2
  omega
theorem ready_up {i : Nat} {listed : Array Bool} (h : i ∈ Region.ready md (l.take n).toArray listed) : i < n ∧ i ∈ Region.ready md l.toArray listed := by
  obtain ⟨h1, o, ho, ha⟩ := mem_ready.1 h
  have hi := head_of ho
  exact ⟨hi, mem_ready.2 ⟨h1, o, (head_get hi).symm.trans ho, ha⟩⟩
theorem ready_down {i : Nat} {listed : Array Bool} (hi : i < n) (h : i ∈ Region.ready md l.toArray listed) : i ∈ Region.ready md (l.take n).toArray listed := by
  obtain ⟨h1, o, ho, ha⟩ := mem_ready.1 h
  exact mem_ready.2 ⟨h1, o, (head_get hi).trans ho, ha⟩
theorem yielded_head {i : Nat} (hi : i < n) (ts : Array Value) : yielded (l.take n).toArray ts i = yielded l.toArray ts i := by
  unfold yielded
  rw [head_get hi]
/-- if no operation of the head may come up, all have -/
theorem all_listed {listed : Array Bool} (hs : listed.size = l.length) (hn : n < l.length) (hb : ∀ i, i < n → backB md l n i = true) (h : Region.ready md (l.take n).toArray listed = []) :
    ∀ i, i < n → listed.getD i true = true := by
  intro i
  induction i using Nat.strongRecOn with
  | _ i ih =>
    intro hi
    cases hl : listed.getD i true
    · exfalso
      have h1 := hb i hi
      unfold backB at h1
      have hil : i < l.length := by omega
      rw [List.getElem?_eq_getElem hil] at h1
      rw [Bool.and_eq_true] at h1
      have hm : i ∈ Region.ready md (l.take n).toArray listed := by
        refine mem_ready.2 ⟨hl, l[i], ?_, fun e he hbd => ?_⟩
        · rw [head_get hi]; simp [hil]
        · have h2 := Array.all_eq_true_iff_forall_mem.1 h1.1 e he
          rw [hbd] at h2
          have h3 : e.on < i := by simpa using h2
          have h4 := ih e.on h3 (by omega)
          have h5 : e.on < listed.size := by rw [hs]; omega
          simpa [h5] using h4
      rw [h] at hm
      cases hm
    · rfl

theorem any_seq {Q' : Exit → Act → World → Prop} (x : Nat) : ∀ (t : List Oper) (k : Nat) (listed : Array Bool) (a : Act) (w : World), (∀ j, t[j]? = l.toArray[k + j]?) →
    Region.seqB md l.toArray t.length k listed = true → wpList P l.toArray Q' t a w → wpAny P md l.toArray Q' (t.length + x) listed a w
  | [], k, listed, a, w, _, hB, h => by
    have hr : Region.ready md l.toArray listed = [] := by simpa [Region.seqB] using hB
    cases x with
    | zero => exact ⟨hr, h⟩
    | succ x => exact ⟨fun _ => h, fun i hi => by rw [hr] at hi; cases hi⟩
  | o :: t, k, listed, a, w, hl, hB, h => by
    have h0 : l.toArray[k]? = some o := by simpa using (hl 0).symm
    simp only [List.length_cons, Region.seqB, Bool.and_eq_true, decide_eq_true_eq] at hB
    rw [show (o :: t).length + x = (t.length + x) + 1 by simp only [List.length_cons]; omega]
    refine ⟨fun h1 => (by rw [hB.1] at h1; cases h1), fun i hi => ?_⟩
    rw [hB.1] at hi
    obtain rfl : i = k := by simpa using hi
    have hw : wpOp P l.toArray Q' i (wpList P l.toArray Q' t) a w := by unfold wpOp; simp only [h0]; exact h
    exact wpOp_mono (fun a' w' h' => any_seq x t (i + 1) _ a' w' (fun j => by have := hl (j + 1); simpa [Nat.add_assoc, Nat.add_comm 1 j] using this) hB.2 h') hw

theorem cut_any {C : World → Prop} {Q' : Exit → Act → World → Prop} (hn : n < l.length) (hb : ∀ i, i < n → backB md l n i = true) (hs : Region.sinkB md l.toArray n = true) (hc : Region.chainB md l.toArray n = true)
    (hq : Region.seqB md l.toArray (l.length - n) n (Array.replicate n true ++ Array.replicate (l.length - n) false) = true) :
    ∀ (f : Nat) (listed : Array Bool) (a : Act) (w : World), HeadInv md l.toArray n listed → C w →
      wpAnyQ P md (l.take n).toArray C (fun a' => ∀ w', C w' → wpList P l.toArray Q' (l.drop n) a' w') f listed a → wpAny P md l.toArray Q' (f + (l.length - n)) listed a w := by
  have fin : ∀ (x : Nat) (listed : Array Bool) (a : Act) (w : World), HeadInv md l.toArray n listed → Region.ready md (l.take n).toArray listed = [] → wpList P l.toArray Q' (l.drop n) a w →
      wpAny P md l.toArray Q' (x + (l.length - n)) listed a w := by
    intro x listed a w inv hr h
    have hsz : listed.size = l.length := by rw [inv.size]; simp
    have hall := all_listed hsz hn hb hr
    have e : listed = Array.replicate n true ++ Array.replicate (l.length - n) false := by
      apply Array.ext
      · simp; omega
      · intro i h1 h2
        by_cases hi : i < n
        · have := hall i hi
          simp [h1] at this
          simp [Array.getElem_append, hi, this]
        · have := inv.tail i (by omega) (by simpa using (by omega : i < l.length))
          simp [h1] at this
          simp [Array.getElem_append, hi, this]
    have hd : (l.drop n).length = l.length - n := by simp
    have := any_seq (P := P) (md := md) (Q' := Q') x (l.drop n) n listed a w (fun j => by simp [List.getElem?_drop]) (by rw [hd, e]; exact hq) h
    rw [hd] at this
    rw [Nat.add_comm]
    exact this
  intro f
  induction f with
  | zero => intro listed a w inv hw h; exact fin 0 listed a w inv h.1 (h.2 w hw)
  | succ f ih =>
    intro listed a w inv hw h
    by_cases hr : Region.ready md (l.take n).toArray listed = []
    · exact fin (f + 1) listed a w inv hr (h.1 hr w hw)
    · obtain ⟨i, hi⟩ := List.exists_mem_of_ne_nil _ hr
      obtain ⟨hin, hi2⟩ := ready_up hi
      rw [show f + 1 + (l.length - n) = (f + (l.length - n)) + 1 by omega]
      refine ⟨fun h0 => (by rw [h0] at hi2; cases hi2), fun j hj => ?_⟩
      have hjn : j < n := by
        rcases Nat.lt_or_ge j n with h1 | h1
        · exact h1
        · exact absurd hj (tail_waits hs hc (by simpa using hn) inv _ i rfl hin (mem_ready.1 hi2).1 j h1)
      have hq2 := h.2 j (ready_down hjn hj)
      obtain ⟨_, o, ho, _⟩ := mem_ready.1 hj
      have hwt : Region.wanted o (yielded (l.take n).toArray a.tmps) = Region.wanted o (yielded l.toArray a.tmps) := by
        have h1 := hb j hjn
        have ho' : l[j]? = some o := by simpa using ho
        unfold backB at h1
        rw [ho', Bool.and_eq_true] at h1
        unfold Region.wanted
        cases hg : o.guard with
        | none => rfl
        | some g =>
          have h2 := h1.2
          rw [hg] at h2
          have h3 : g.1 < n := by simpa using h2
          simp only [yielded_head h3]
      unfold qOp at hq2
      rw [head_get hjn, ho] at hq2
      simp only [hwt] at hq2
      unfold wpOp
      rw [ho]
      simp only []
      split
      · rename_i hwd
        rw [if_pos hwd] at hq2
        exact .inl (Oper.wp_of_quiet hw (fun a' w' hw' hK => ih _ a' w' (inv.set hj hjn) hw' hK) hq2)
      · rename_i hwd
        rw [if_neg hwd] at hq2
        exact ih _ _ w (inv.set hj hjn) hw hq2

theorem region_lat_tail {id : Nat} {Q : Exit → Act → World → Prop} {a : Act} {w : World} (n : Nat) (hm : P.follows .mixedOrders = true) (hB : cutB .any l n = true)
    (h : wpQuiet P (l.take n).toArray (fun w' => ∃ m, w' = lat w m) (fun a' => ∀ w', (∃ m, w' = lat w m) → wpList P l.toArray Q (l.drop n) a' w') (l.take n) a) : (Code.region id l.toArray true).wp P Q a w := by
  simp only [cutB, Bool.and_eq_true, decide_eq_true_eq] at hB
  obtain ⟨⟨hn, hb⟩, ⟨hsel, hlex⟩, ⟨hs, hc⟩, hq⟩ := hB
  have hb' : ∀ i, i < n → backB .any l n i = true := fun i hi => List.all_eq_true.1 hb i (List.mem_range.2 hi)
  have htl : (l.take n).length = n := by simp; omega
  have inv0 : HeadInv .any l.toArray n (Array.replicate l.toArray.size false) :=
    ⟨by simp, fun j oj _ hl => (by rw [getD_replicate_false] at hl; cases hl), fun t _ ht => getD_in (by simpa using ht) (getD_replicate_false _ _)⟩
  have hw0 : ∃ m, ({ w with drawn := w.drawn + 1 } : World) = lat w m :=
    ⟨{ w with drawn := w.drawn + 1 }, (lat_of (wr := w) (w := { w with drawn := w.drawn + 1 }) ⟨rfl, rfl, rfl, Nat.le_refl _, fun _ _ => rfl⟩).symm⟩
  have H := wpAnyQ_lex (C := fun w' => ∃ m, w' = lat w m) (md := .any) (ops := (l.take n).toArray) hsel (l.take n) 0 (Array.replicate l.length false) a (by simp) (by rw [htl]; exact hlex) h
  rw [htl] at H
  refine wp_region_any hm ?_
  have := cut_any (P := P) (md := .any) (C := fun w' => ∃ m, w' = lat w m) (Q' := Q) hn hb' hs hc hq n (Array.replicate l.length false) a _ (by simpa using inv0) hw0 H
  rw [show n + (l.length - n) = l.toArray.size by simp; omega] at this
  simpa using this
end
end Go.Proofs.Ytjekhgekldkopaa
