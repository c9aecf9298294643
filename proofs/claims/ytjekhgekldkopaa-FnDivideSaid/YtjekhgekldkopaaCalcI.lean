
/- The contract of the program's Calc. -/
import Derived.Test.YtjekhgekldkopaaLogI
import Derived.Test.YtjekhgekldkopaaNumI
import Derived.Test.YtjekhgekldkopaaCalcB
namespace Go.Proofs.Ytjekhgekldkopaa
open Go.RowKit

set_option maxRecDepth 100000 in
set_option maxHeartbeats 8000000 in
theorem calc_impl (op : Int) (k a : Int) (t : ByteArray) (k' a' : Int) (t' : ByteArray) (w : World) (ht : t.size ≤ 9223372036854775807) (ht' : t'.size ≤ 9223372036854775807) (ha0 : -9223372036854775808 ≤ a) (ha1 : a ≤ 9223372036854775807) (hb0 : -9223372036854775808 ≤ a') (hb1 : a' ≤ 9223372036854775807) : Calls Try.prog 17 #[.int .i64 op, .agg #[.int .i64 k, .int .i64 a, .string t], .agg #[.int .i64 k', .int .i64 a', .string t']] w (CalcE (calcC op k a t k' a' t') w) := by
  have hV := fun w => valueOk_impl k a t w ht
  have hW := fun w => valueOk_impl k' a' t' w ht'
  by_cases h1 : 1 ≤ op
  case neg =>
    rw [calc_bad (.inl (by rw [decide_eq_false h1]; rfl))]
    have d1 : decide (op < 1) = true := by simp; omega
    clear hV hW h1
    unfold errC
    go_enter Try.func17, Try.ntmps17
    go_wp2_with fail
    have H := fr_new w k a t k' a' t'
    generalize (((w.alloc (.cells #[.int .i64 k, .int .i64 a, .string t] 27)).alloc (.cells #[.int .i64 k', .int .i64 a', .string t'] 27)).alloc (.cells #[.int .i64 0, .int .i64 0, .string ⟨#[]⟩] 27)) = V at H ⊢
    obtain ⟨f0, f1, f2⟩ := H.r0.cells
    have hbF := H.b
    refine bodyPost_ret (v := .tuple #[.agg #[.int .i64 0, .int .i64 0, .string ⟨#[]⟩], .int .i64 1]) (by simp [results, Try.results17, go_sem, f0, f1, f2]) rfl ?_
    exact ⟨rfl, hbF⟩
  by_cases h14 : op ≤ 14
  case neg =>
    rw [calc_bad (.inl (by rw [decide_eq_false h14]; simp))]
    have d1 : decide (op < 1) = false := by simp; omega
    have d2 : decide (14 < op) = true := by simp; omega
    clear hV hW h1 h14
    unfold errC
    go_enter Try.func17, Try.ntmps17
    go_wp2_with fail
    have H := fr_new w k a t k' a' t'
    generalize (((w.alloc (.cells #[.int .i64 k, .int .i64 a, .string t] 27)).alloc (.cells #[.int .i64 k', .int .i64 a', .string t'] 27)).alloc (.cells #[.int .i64 0, .int .i64 0, .string ⟨#[]⟩] 27)) = V at H ⊢
    obtain ⟨f0, f1, f2⟩ := H.r0.cells
    have hbF := H.b
    refine bodyPost_ret (v := .tuple #[.agg #[.int .i64 0, .int .i64 0, .string ⟨#[]⟩], .int .i64 1]) (by simp [results, Try.results17, go_sem, f0, f1, f2]) rfl ?_
    exact ⟨rfl, hbF⟩
  have d1 : decide (op < 1) = false := by simp; omega
  have d2 : decide (14 < op) = false := by simp; omega
  cases hva : valOk k a t.data.toList
  · rw [calc_bad (.inr (.inl hva))]
    rw [hva] at hV
    clear hva hW
    unfold errC
    go_enter Try.func17, Try.ntmps17
    go_wp2_with fail
    have H := fr_new w k a t k' a' t'
    generalize (((w.alloc (.cells #[.int .i64 k, .int .i64 a, .string t] 27)).alloc (.cells #[.int .i64 k', .int .i64 a', .string t'] 27)).alloc (.cells #[.int .i64 0, .int .i64 0, .string ⟨#[]⟩] 27)) = V at H ⊢
    obtain ⟨ca0, ca1, ca2⟩ := H.a0.cells
    refine (hV _).mono ?_
    rintro e w1 ⟨rfl, hbn1⟩
    replace H := H.next hbn1
    clear hbn1
    clear ca0 ca1 ca2
    obtain ⟨z0, z1, z2⟩ := H.r0.soft
    obtain ⟨g0, g1, g2⟩ := H.r0.cells
    obtain ⟨f0, f1, f2, hbF⟩ := H.fin (0) (0) (⟨#[]⟩)
    go_wp2_with fail
    rw [put_eq]
    generalize put _ (w.heap.size + 2) (0) (0) (⟨#[]⟩) = wf at f0 f1 f2 hbF ⊢
    refine bodyPost_ret (v := .tuple #[.agg #[.int .i64 (0), .int .i64 (0), .string (⟨#[]⟩)], .int .i64 (1)]) (by simp [results, Try.results17, go_sem, f0, f1, f2]) rfl ?_
    exact ⟨rfl, hbF⟩
  cases hvb : valOk k' a' t'.data.toList
  · rw [calc_bad (.inr (.inr (.inl hvb)))]
    rw [hva] at hV
    rw [hvb] at hW
    clear hva hvb
    unfold errC
    go_enter Try.func17, Try.ntmps17
    go_wp2_with fail
    have H := fr_new w k a t k' a' t'
    generalize (((w.alloc (.cells #[.int .i64 k, .int .i64 a, .string t] 27)).alloc (.cells #[.int .i64 k', .int .i64 a', .string t'] 27)).alloc (.cells #[.int .i64 0, .int .i64 0, .string ⟨#[]⟩] 27)) = V at H ⊢
    obtain ⟨ca0, ca1, ca2⟩ := H.a0.cells
    refine (hV _).mono ?_
    rintro e w1 ⟨rfl, hbn1⟩
    replace H := H.next hbn1
    clear hbn1
    clear ca0 ca1 ca2
    obtain ⟨cb0, cb1, cb2⟩ := H.b0.cells
    go_wp2_with fail
    refine (hW _).mono ?_
    rintro e w2 ⟨rfl, hbn2⟩
    replace H := H.next hbn2
    clear hbn2
    clear cb0 cb1 cb2
    obtain ⟨z0, z1, z2⟩ := H.r0.soft
    obtain ⟨g0, g1, g2⟩ := H.r0.cells
    obtain ⟨f0, f1, f2, hbF⟩ := H.fin (0) (0) (⟨#[]⟩)
    go_wp2_with fail
    rw [put_eq]
    generalize put _ (w.heap.size + 2) (0) (0) (⟨#[]⟩) = wf at f0 f1 f2 hbF ⊢
    refine bodyPost_ret (v := .tuple #[.agg #[.int .i64 (0), .int .i64 (0), .string (⟨#[]⟩)], .int .i64 (1)]) (by simp [results, Try.results17, go_sem, f0, f1, f2]) rfl ?_
    exact ⟨rfl, hbF⟩
  have hva2 := hva
  have hvb2 := hvb
  rw [hva] at hV
  rw [hvb] at hW
  have hT := fun w => types_impl op k a t k' a' t' w h1 h14
  cases hf : fitsOp op k k'
  · rw [calc_bad (.inr (.inr (.inr hf)))]
    rw [hf] at hT
    clear hf hva hvb hva2 hvb2
    unfold errC
    go_enter Try.func17, Try.ntmps17
    go_wp2_with fail
    have H := fr_new w k a t k' a' t'
    generalize (((w.alloc (.cells #[.int .i64 k, .int .i64 a, .string t] 27)).alloc (.cells #[.int .i64 k', .int .i64 a', .string t'] 27)).alloc (.cells #[.int .i64 0, .int .i64 0, .string ⟨#[]⟩] 27)) = V at H ⊢
    obtain ⟨ca0, ca1, ca2⟩ := H.a0.cells
    refine (hV _).mono ?_
    rintro e w1 ⟨rfl, hbn1⟩
    replace H := H.next hbn1
    clear hbn1
    clear ca0 ca1 ca2
    obtain ⟨cb0, cb1, cb2⟩ := H.b0.cells
    go_wp2_with fail
    refine (hW _).mono ?_
    rintro e w2 ⟨rfl, hbn2⟩
    replace H := H.next hbn2
    clear hbn2
    clear cb0 cb1 cb2
    obtain ⟨ca0, ca1, ca2⟩ := H.a0.cells
    obtain ⟨cb0, cb1, cb2⟩ := H.b0.cells
    go_wp2_with fail
    refine (hT _).mono ?_
    rintro e w3 ⟨rfl, hbn3⟩
    replace H := H.next hbn3
    clear hbn3
    clear ca0 ca1 ca2
    clear cb0 cb1 cb2
    obtain ⟨z0, z1, z2⟩ := H.r0.soft
    obtain ⟨g0, g1, g2⟩ := H.r0.cells
    obtain ⟨f0, f1, f2, hbF⟩ := H.fin (0) (0) (⟨#[]⟩)
    go_wp2_with fail
    rw [put_eq]
    generalize put _ (w.heap.size + 2) (0) (0) (⟨#[]⟩) = wf at f0 f1 f2 hbF ⊢
    refine bodyPost_ret (v := .tuple #[.agg #[.int .i64 (0), .int .i64 (0), .string (⟨#[]⟩)], .int .i64 (1)]) (by simp [results, Try.results17, go_sem, f0, f1, f2]) rfl ?_
    exact ⟨rfl, hbF⟩
  have hR := calc_good h1 h14 hva hvb hf
  rw [hf] at hT
  clear hva hvb
  have hC := fun w => conn_impl op w
  by_cases h2 : op ≤ 2
  · rw [if_pos h2] at hR
    have hf2 : (kindIn k 3 && kindIn k' 3) = true := by unfold fitsOp at hf; rw [if_pos h2] at hf; exact hf
    rw [Bool.and_eq_true] at hf2
    have hL := fun w => logic_impl op k a t k' a' t' w h1 h2 hva2 hvb2 hf2.1 hf2.2
    have hc : ((op == 1) || (op == 2)) = true := by rcases (show op = 1 ∨ op = 2 by omega) with rfl | rfl <;> rfl
    have hz : (logicC op k a k' a').c = 0 := by
      unfold logicC boolC nullC
      repeat' split
      all_goals rfl
    rw [hc] at hC
    rw [hR]
    clear hR hf hc hva2 hvb2 hf2
    generalize logicC op k a k' a' = r at hL hz ⊢
    obtain ⟨rk, rn, rt, rc⟩ := r
    obtain rfl : rc = 0 := hz
    have hL2 : ∀ w, Calls Try.prog 45 #[.int .i64 op, .agg #[.int .i64 k, .int .i64 a, .string t], .agg #[.int .i64 k', .int .i64 a', .string t']] w (CopyV rk rn rt w) := hL
    clear hL
    go_enter Try.func17, Try.ntmps17
    go_wp2_with fail
    have H := fr_new w k a t k' a' t'
    generalize (((w.alloc (.cells #[.int .i64 k, .int .i64 a, .string t] 27)).alloc (.cells #[.int .i64 k', .int .i64 a', .string t'] 27)).alloc (.cells #[.int .i64 0, .int .i64 0, .string ⟨#[]⟩] 27)) = V at H ⊢
    obtain ⟨ca0, ca1, ca2⟩ := H.a0.cells
    refine (hV _).mono ?_
    rintro e w1 ⟨rfl, hbn1⟩
    replace H := H.next hbn1
    clear hbn1
    clear ca0 ca1 ca2
    obtain ⟨cb0, cb1, cb2⟩ := H.b0.cells
    go_wp2_with fail
    refine (hW _).mono ?_
    rintro e w2 ⟨rfl, hbn2⟩
    replace H := H.next hbn2
    clear hbn2
    clear cb0 cb1 cb2
    obtain ⟨ca0, ca1, ca2⟩ := H.a0.cells
    obtain ⟨cb0, cb1, cb2⟩ := H.b0.cells
    go_wp2_with fail
    refine (hT _).mono ?_
    rintro e w3 ⟨rfl, hbn3⟩
    replace H := H.next hbn3
    clear hbn3
    clear ca0 ca1 ca2
    clear cb0 cb1 cb2
    go_wp2_with fail
    refine (hC _).mono ?_
    rintro e w0 ⟨rfl, rfl⟩
    obtain ⟨ca0, ca1, ca2⟩ := H.a0.cells
    obtain ⟨cb0, cb1, cb2⟩ := H.b0.cells
    go_wp2_with fail
    refine (hL2 _).mono ?_
    rintro e w4 ⟨rfl, hbn4⟩
    replace H := H.next hbn4
    clear hbn4
    clear ca0 ca1 ca2
    clear cb0 cb1 cb2
    obtain ⟨z0, z1, z2⟩ := H.r0.soft
    obtain ⟨g0, g1, g2⟩ := H.r0.cells
    obtain ⟨f0, f1, f2, hbF⟩ := H.fin (rk) (rn) (rt)
    go_wp2_with fail
    rw [put_eq]
    generalize put _ (w.heap.size + 2) (rk) (rn) (rt) = wf at f0 f1 f2 hbF ⊢
    refine bodyPost_ret (v := .tuple #[.agg #[.int .i64 (rk), .int .i64 (rn), .string (rt)], .int .i64 (0)]) (by simp [results, Try.results17, go_sem, f0, f1, f2]) rfl ?_
    exact ⟨rfl, hbF⟩
  have hc : ((op == 1) || (op == 2)) = false := by
    rw [show (op == 1) = false by simp; omega, show (op == 2) = false by simp; omega]; rfl
  rw [hc] at hC
  clear hc
  rw [if_neg h2] at hR
  clear hf
  have hNa := fun w => null_impl k a t w
  have hNb := fun w => null_impl k' a' t' w
  cases hk : (k == 0)
  case true =>
    rw [hk] at hNa hR
    rw [hR]
    clear hR hva2 hvb2 hNb
    show Calls _ _ _ w (CalcE nullC w)
    unfold nullC
    go_enter Try.func17, Try.ntmps17
    go_wp2_with fail
    have H := fr_new w k a t k' a' t'
    generalize (((w.alloc (.cells #[.int .i64 k, .int .i64 a, .string t] 27)).alloc (.cells #[.int .i64 k', .int .i64 a', .string t'] 27)).alloc (.cells #[.int .i64 0, .int .i64 0, .string ⟨#[]⟩] 27)) = V at H ⊢
    obtain ⟨ca0, ca1, ca2⟩ := H.a0.cells
    refine (hV _).mono ?_
    rintro e w1 ⟨rfl, hbn1⟩
    replace H := H.next hbn1
    clear hbn1
    clear ca0 ca1 ca2
    obtain ⟨cb0, cb1, cb2⟩ := H.b0.cells
    go_wp2_with fail
    refine (hW _).mono ?_
    rintro e w2 ⟨rfl, hbn2⟩
    replace H := H.next hbn2
    clear hbn2
    clear cb0 cb1 cb2
    obtain ⟨ca0, ca1, ca2⟩ := H.a0.cells
    obtain ⟨cb0, cb1, cb2⟩ := H.b0.cells
    go_wp2_with fail
    refine (hT _).mono ?_
    rintro e w3 ⟨rfl, hbn3⟩
    replace H := H.next hbn3
    clear hbn3
    clear ca0 ca1 ca2
    clear cb0 cb1 cb2
    go_wp2_with fail
    refine (hC _).mono ?_
    rintro e w0 ⟨rfl, rfl⟩
    obtain ⟨ca0, ca1, ca2⟩ := H.a0.cells
    go_wp2_with fail
    refine (hNa _).mono ?_
    rintro e w4 ⟨rfl, hbn4⟩
    replace H := H.next hbn4
    clear hbn4
    clear ca0 ca1 ca2
    obtain ⟨z0, z1, z2⟩ := H.r0.soft
    obtain ⟨g0, g1, g2⟩ := H.r0.cells
    obtain ⟨f0, f1, f2, hbF⟩ := H.fin (0) (0) (⟨#[]⟩)
    go_wp2_with fail
    rw [put_eq]
    generalize put _ (w.heap.size + 2) (0) (0) (⟨#[]⟩) = wf at f0 f1 f2 hbF ⊢
    refine bodyPost_ret (v := .tuple #[.agg #[.int .i64 (0), .int .i64 (0), .string (⟨#[]⟩)], .int .i64 (0)]) (by simp [results, Try.results17, go_sem, f0, f1, f2]) rfl ?_
    exact ⟨rfl, hbF⟩
  cases hk' : (k' == 0)
  case true =>
    rw [hk] at hNa hR
    rw [hk'] at hNb hR
    rw [hR]
    clear hR hva2 hvb2
    show Calls _ _ _ w (CalcE nullC w)
    unfold nullC
    go_enter Try.func17, Try.ntmps17
    go_wp2_with fail
    have H := fr_new w k a t k' a' t'
    generalize (((w.alloc (.cells #[.int .i64 k, .int .i64 a, .string t] 27)).alloc (.cells #[.int .i64 k', .int .i64 a', .string t'] 27)).alloc (.cells #[.int .i64 0, .int .i64 0, .string ⟨#[]⟩] 27)) = V at H ⊢
    obtain ⟨ca0, ca1, ca2⟩ := H.a0.cells
    refine (hV _).mono ?_
    rintro e w1 ⟨rfl, hbn1⟩
    replace H := H.next hbn1
    clear hbn1
    clear ca0 ca1 ca2
    obtain ⟨cb0, cb1, cb2⟩ := H.b0.cells
    go_wp2_with fail
    refine (hW _).mono ?_
    rintro e w2 ⟨rfl, hbn2⟩
    replace H := H.next hbn2
    clear hbn2
    clear cb0 cb1 cb2
    obtain ⟨ca0, ca1, ca2⟩ := H.a0.cells
    obtain ⟨cb0, cb1, cb2⟩ := H.b0.cells
    go_wp2_with fail
    refine (hT _).mono ?_
    rintro e w3 ⟨rfl, hbn3⟩
    replace H := H.next hbn3
    clear hbn3
    clear ca0 ca1 ca2
    clear cb0 cb1 cb2
    go_wp2_with fail
    refine (hC _).mono ?_
    rintro e w0 ⟨rfl, rfl⟩
    obtain ⟨ca0, ca1, ca2⟩ := H.a0.cells
    go_wp2_with fail
    refine (hNa _).mono ?_
    rintro e w4 ⟨rfl, hbn4⟩
    replace H := H.next hbn4
    clear hbn4
    clear ca0 ca1 ca2
    obtain ⟨cb0, cb1, cb2⟩ := H.b0.cells
    go_wp2_with fail
    refine (hNb _).mono ?_
    rintro e w5 ⟨rfl, hbn5⟩
    replace H := H.next hbn5
    clear hbn5
    clear cb0 cb1 cb2
    obtain ⟨z0, z1, z2⟩ := H.r0.soft
    obtain ⟨g0, g1, g2⟩ := H.r0.cells
    obtain ⟨f0, f1, f2, hbF⟩ := H.fin (0) (0) (⟨#[]⟩)
    go_wp2_with fail
    rw [put_eq]
    generalize put _ (w.heap.size + 2) (0) (0) (⟨#[]⟩) = wf at f0 f1 f2 hbF ⊢
    refine bodyPost_ret (v := .tuple #[.agg #[.int .i64 (0), .int .i64 (0), .string (⟨#[]⟩)], .int .i64 (0)]) (by simp [results, Try.results17, go_sem, f0, f1, f2]) rfl ?_
    exact ⟨rfl, hbF⟩
  rw [hk] at hNa
  rw [hk'] at hNb
  rw [hk, hk', if_neg (by decide)] at hR
  clear hk hk'
  by_cases h8 : op ≤ 8
  · rw [if_pos h8] at hR
    have h3 : 3 ≤ op := by omega
    have hO := fun w => order_impl0 k a t k' a' t' w
    have hX := ordV_range (k, a, t.data.toList) (k', a', t'.data.toList)
    rw [hR]
    clear hR hva2 hvb2
    generalize ordV (k, a, t.data.toList) (k', a', t'.data.toList) = x at hO hX ⊢
    have hM := fun w => compare_impl op x w h3 h8 hX
    generalize holdsB op x = y at hM ⊢
    have hB := fun w => boolValue_implC y w
    unfold boolC
    generalize (if y then (1 : Int) else 0) = z at hB ⊢
    clear hX
    have hD := fun w => cmp_impl op w
    have hd : (decide (3 ≤ op) && decide (op ≤ 8)) = true := by rw [decide_eq_true h3, decide_eq_true h8]; rfl
    rw [hd] at hD
    clear hd
    go_enter Try.func17, Try.ntmps17
    go_wp2_with fail
    have H := fr_new w k a t k' a' t'
    generalize (((w.alloc (.cells #[.int .i64 k, .int .i64 a, .string t] 27)).alloc (.cells #[.int .i64 k', .int .i64 a', .string t'] 27)).alloc (.cells #[.int .i64 0, .int .i64 0, .string ⟨#[]⟩] 27)) = V at H ⊢
    obtain ⟨ca0, ca1, ca2⟩ := H.a0.cells
    refine (hV _).mono ?_
    rintro e w1 ⟨rfl, hbn1⟩
    replace H := H.next hbn1
    clear hbn1
    clear ca0 ca1 ca2
    obtain ⟨cb0, cb1, cb2⟩ := H.b0.cells
    go_wp2_with fail
    refine (hW _).mono ?_
    rintro e w2 ⟨rfl, hbn2⟩
    replace H := H.next hbn2
    clear hbn2
    clear cb0 cb1 cb2
    obtain ⟨ca0, ca1, ca2⟩ := H.a0.cells
    obtain ⟨cb0, cb1, cb2⟩ := H.b0.cells
    go_wp2_with fail
    refine (hT _).mono ?_
    rintro e w3 ⟨rfl, hbn3⟩
    replace H := H.next hbn3
    clear hbn3
    clear ca0 ca1 ca2
    clear cb0 cb1 cb2
    go_wp2_with fail
    refine (hC _).mono ?_
    rintro e w0 ⟨rfl, rfl⟩
    obtain ⟨ca0, ca1, ca2⟩ := H.a0.cells
    go_wp2_with fail
    refine (hNa _).mono ?_
    rintro e w4 ⟨rfl, hbn4⟩
    replace H := H.next hbn4
    clear hbn4
    clear ca0 ca1 ca2
    obtain ⟨cb0, cb1, cb2⟩ := H.b0.cells
    go_wp2_with fail
    refine (hNb _).mono ?_
    rintro e w5 ⟨rfl, hbn5⟩
    replace H := H.next hbn5
    clear hbn5
    clear cb0 cb1 cb2
    go_wp2_with fail
    refine (hD _).mono ?_
    rintro e w0 ⟨rfl, rfl⟩
    obtain ⟨ca0, ca1, ca2⟩ := H.a0.cells
    obtain ⟨cb0, cb1, cb2⟩ := H.b0.cells
    go_wp2_with fail
    refine (hO _).mono ?_
    rintro e w6 ⟨rfl, hbn6⟩
    replace H := H.next hbn6
    clear hbn6
    clear ca0 ca1 ca2
    clear cb0 cb1 cb2
    go_wp2_with fail
    refine (hM _).mono ?_
    rintro e wm ⟨rfl, rfl⟩
    go_wp2_with fail
    refine (hB _).mono ?_
    rintro e w8 ⟨rfl, hbn8⟩
    replace H := H.next hbn8
    clear hbn8
    obtain ⟨z0, z1, z2⟩ := H.r0.soft
    obtain ⟨g0, g1, g2⟩ := H.r0.cells
    obtain ⟨f0, f1, f2, hbF⟩ := H.fin (3) (z) (⟨#[]⟩)
    go_wp2_with fail
    rw [put_eq]
    generalize put _ (w.heap.size + 2) (3) (z) (⟨#[]⟩) = wf at f0 f1 f2 hbF ⊢
    refine bodyPost_ret (v := .tuple #[.agg #[.int .i64 (3), .int .i64 (z), .string (⟨#[]⟩)], .int .i64 (0)]) (by simp [results, Try.results17, go_sem, f0, f1, f2]) rfl ?_
    exact ⟨rfl, hbF⟩
  rw [if_neg h8] at hR
  have hD := fun w => cmp_impl op w
  have hd : (decide (3 ≤ op) && decide (op ≤ 8)) = false := by rw [decide_eq_false h8]; simp
  rw [hd] at hD
  clear hd
  by_cases h9 : op = 9
  · subst h9
    rw [if_pos rfl] at hR
    have hs := text_small hva2
    have hs' := text_small hvb2
    rw [hR]
    clear hR hva2 hvb2 h8 h2
    have hX := fun w => concat_impl t t' w hs hs'
    obtain ⟨rk, rn, rt, rc, hE⟩ := CR.eta (catC t t')
    rw [hE] at hX ⊢
    clear hE
    go_enter Try.func17, Try.ntmps17
    go_wp2_with fail
    have H := fr_new w k a t k' a' t'
    generalize (((w.alloc (.cells #[.int .i64 k, .int .i64 a, .string t] 27)).alloc (.cells #[.int .i64 k', .int .i64 a', .string t'] 27)).alloc (.cells #[.int .i64 0, .int .i64 0, .string ⟨#[]⟩] 27)) = V at H ⊢
    obtain ⟨ca0, ca1, ca2⟩ := H.a0.cells
    refine (hV _).mono ?_
    rintro e w1 ⟨rfl, hbn1⟩
    replace H := H.next hbn1
    clear hbn1
    clear ca0 ca1 ca2
    obtain ⟨cb0, cb1, cb2⟩ := H.b0.cells
    go_wp2_with fail
    refine (hW _).mono ?_
    rintro e w2 ⟨rfl, hbn2⟩
    replace H := H.next hbn2
    clear hbn2
    clear cb0 cb1 cb2
    obtain ⟨ca0, ca1, ca2⟩ := H.a0.cells
    obtain ⟨cb0, cb1, cb2⟩ := H.b0.cells
    go_wp2_with fail
    refine (hT _).mono ?_
    rintro e w3 ⟨rfl, hbn3⟩
    replace H := H.next hbn3
    clear hbn3
    clear ca0 ca1 ca2
    clear cb0 cb1 cb2
    go_wp2_with fail
    refine (hC _).mono ?_
    rintro e w0 ⟨rfl, rfl⟩
    obtain ⟨ca0, ca1, ca2⟩ := H.a0.cells
    go_wp2_with fail
    refine (hNa _).mono ?_
    rintro e w4 ⟨rfl, hbn4⟩
    replace H := H.next hbn4
    clear hbn4
    clear ca0 ca1 ca2
    obtain ⟨cb0, cb1, cb2⟩ := H.b0.cells
    go_wp2_with fail
    refine (hNb _).mono ?_
    rintro e w5 ⟨rfl, hbn5⟩
    replace H := H.next hbn5
    clear hbn5
    clear cb0 cb1 cb2
    go_wp2_with fail
    refine (hD _).mono ?_
    rintro e w0 ⟨rfl, rfl⟩
    obtain ⟨ca0, ca1, ca2⟩ := H.a0.cells
    obtain ⟨cb0, cb1, cb2⟩ := H.b0.cells
    go_wp2_with fail
    refine (hX _).mono ?_
    rintro e w7 ⟨rfl, hbn7⟩
    replace H := H.next hbn7
    clear hbn7
    clear ca0 ca1 ca2
    clear cb0 cb1 cb2
    obtain ⟨z0, z1, z2⟩ := H.r0.soft
    obtain ⟨g0, g1, g2⟩ := H.r0.cells
    obtain ⟨f0, f1, f2, hbF⟩ := H.fin (rk) (rn) (rt)
    go_wp2_with fail
    rw [put_eq]
    generalize put _ (w.heap.size + 2) (rk) (rn) (rt) = wf at f0 f1 f2 hbF ⊢
    refine bodyPost_ret (v := .tuple #[.agg #[.int .i64 (rk), .int .i64 (rn), .string (rt)], .int .i64 (rc)]) (by simp [results, Try.results17, go_sem, f0, f1, f2]) rfl ?_
    exact ⟨rfl, hbF⟩
  have q9 : (op == 9) = false := by simpa using h9
  rw [if_neg h9] at hR
  clear hva2 hvb2
  have hX := fun w => calcNum_impl op a a' w (by omega) h14 ha0 ha1 hb0 hb1
  rw [hR]
  clear hR
  obtain ⟨rk, rn, rt, rc, hE⟩ := CR.eta (numOpC op a a')
  rw [hE] at hX ⊢
  clear hE
  go_enter Try.func17, Try.ntmps17
  go_wp2_with fail
  have H := fr_new w k a t k' a' t'
  generalize (((w.alloc (.cells #[.int .i64 k, .int .i64 a, .string t] 27)).alloc (.cells #[.int .i64 k', .int .i64 a', .string t'] 27)).alloc (.cells #[.int .i64 0, .int .i64 0, .string ⟨#[]⟩] 27)) = V at H ⊢
  obtain ⟨ca0, ca1, ca2⟩ := H.a0.cells
  refine (hV _).mono ?_
  rintro e w1 ⟨rfl, hbn1⟩
  replace H := H.next hbn1
  clear hbn1
  clear ca0 ca1 ca2
  obtain ⟨cb0, cb1, cb2⟩ := H.b0.cells
  go_wp2_with fail
  refine (hW _).mono ?_
  rintro e w2 ⟨rfl, hbn2⟩
  replace H := H.next hbn2
  clear hbn2
  clear cb0 cb1 cb2
  obtain ⟨ca0, ca1, ca2⟩ := H.a0.cells
  obtain ⟨cb0, cb1, cb2⟩ := H.b0.cells
  go_wp2_with fail
  refine (hT _).mono ?_
  rintro e w3 ⟨rfl, hbn3⟩
  replace H := H.next hbn3
  clear hbn3
  clear ca0 ca1 ca2
  clear cb0 cb1 cb2
  go_wp2_with fail
  refine (hC _).mono ?_
  rintro e w0 ⟨rfl, rfl⟩
  obtain ⟨ca0, ca1, ca2⟩ := H.a0.cells
  go_wp2_with fail
  refine (hNa _).mono ?_
  rintro e w4 ⟨rfl, hbn4⟩
  replace H := H.next hbn4
  clear hbn4
  clear ca0 ca1 ca2
  obtain ⟨cb0, cb1, cb2⟩ := H.b0.cells
  go_wp2_with fail
  refine (hNb _).mono ?_
  rintro e w5 ⟨rfl, hbn5⟩
  replace H := H.next hbn5
  clear hbn5
  clear cb0 cb1 cb2
  go_wp2_with fail
  refine (hD _).mono ?_
  rintro e w0 ⟨rfl, rfl⟩
  obtain ⟨ca0, ca1, ca2⟩ := H.a0.cells
  obtain ⟨cb0, cb1, cb2⟩ := H.b0.cells
  go_wp2_with fail
  refine (hX _).mono ?_
  rintro e w7 ⟨rfl, hbn7⟩
  replace H := H.next hbn7
  clear hbn7
  clear ca0 ca1 ca2
  clear cb0 cb1 cb2
  obtain ⟨z0, z1, z2⟩ := H.r0.soft
  obtain ⟨g0, g1, g2⟩ := H.r0.cells
  obtain ⟨f0, f1, f2, hbF⟩ := H.fin (rk) (rn) (rt)
  go_wp2_with fail
  rw [put_eq]
  generalize put _ (w.heap.size + 2) (rk) (rn) (rt) = wf at f0 f1 f2 hbF ⊢
  refine bodyPost_ret (v := .tuple #[.agg #[.int .i64 (rk), .int .i64 (rn), .string (rt)], .int .i64 (rc)]) (by simp [results, Try.results17, go_sem, f0, f1, f2]) rfl ?_
  exact ⟨rfl, hbF⟩
end Go.Proofs.Ytjekhgekldkopaa
