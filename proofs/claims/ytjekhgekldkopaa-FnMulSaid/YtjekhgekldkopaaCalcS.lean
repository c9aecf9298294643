
/- The contract of the model's Calc. -/
import Derived.Test.YtjekhgekldkopaaLogS
import Derived.Test.YtjekhgekldkopaaNumS
import Derived.Test.YtjekhgekldkopaaCalcB
namespace Go.Proofs.Ytjekhgekldkopaa
open Go.RowKit

set_option maxRecDepth 100000 in
set_option maxHeartbeats 8000000 in
theorem calc_spec (op : Int) (k a : Int) (t : ByteArray) (k' a' : Int) (t' : ByteArray) (w : World) (ht : t.size ≤ 9223372036854775807) (ht' : t'.size ≤ 9223372036854775807) (ha0 : -9223372036854775808 ≤ a) (ha1 : a ≤ 9223372036854775807) (hb0 : -9223372036854775808 ≤ a') (hb1 : a' ≤ 9223372036854775807) : Calls Try.prog 19 #[.int .i64 op, .agg #[.int .i64 k, .int .i64 a, .string t], .agg #[.int .i64 k', .int .i64 a', .string t']] w (CalcE (calcC op k a t k' a' t') w) := by
  have hV := fun w => valueOk_spec k a t w ht
  have hW := fun w => valueOk_spec k' a' t' w ht'
  have hI := fun w => in_any op 1 14 (decide (1 ≤ op) && decide (op ≤ 14)) w (by rw [Bool.decide_and])
  cases hop : (decide (1 ≤ op) && decide (op ≤ 14))
  · rw [calc_bad (.inl hop)]
    rw [hop] at hI
    clear hop hV hW
    unfold errC
    go_enter Try.func19, Try.ntmps19
    go_wp2_with fail
    have H := fr_new w k a t k' a' t'
    generalize (((w.alloc (.cells #[.int .i64 k, .int .i64 a, .string t] 27)).alloc (.cells #[.int .i64 k', .int .i64 a', .string t'] 27)).alloc (.cells #[.int .i64 0, .int .i64 0, .string ⟨#[]⟩] 27)) = V at H ⊢
    refine (hI _).mono ?_
    rintro e w0 ⟨rfl, rfl⟩
    obtain ⟨z0, z1, z2⟩ := H.r0.soft
    obtain ⟨g0, g1, g2⟩ := H.r0.cells
    obtain ⟨f0, f1, f2, hbF⟩ := H.fin (0) (0) (⟨#[]⟩)
    go_wp2_with fail
    rw [put_eq]
    generalize put _ (w.heap.size + 2) (0) (0) (⟨#[]⟩) = wf at f0 f1 f2 hbF ⊢
    refine bodyPost_ret (v := .tuple #[.agg #[.int .i64 (0), .int .i64 (0), .string (⟨#[]⟩)], .int .i64 (1)]) (by simp [results, Try.results19, go_sem, f0, f1, f2]) rfl ?_
    exact ⟨rfl, hbF⟩
  have hop0 : 1 ≤ op ∧ op ≤ 14 := by simpa using hop
  obtain ⟨h1, h14⟩ := hop0
  rw [hop] at hI
  clear hop
  cases hva : valOk k a t.data.toList
  · rw [calc_bad (.inr (.inl hva))]
    rw [hva] at hV
    clear hva hW
    unfold errC
    go_enter Try.func19, Try.ntmps19
    go_wp2_with fail
    have H := fr_new w k a t k' a' t'
    generalize (((w.alloc (.cells #[.int .i64 k, .int .i64 a, .string t] 27)).alloc (.cells #[.int .i64 k', .int .i64 a', .string t'] 27)).alloc (.cells #[.int .i64 0, .int .i64 0, .string ⟨#[]⟩] 27)) = V at H ⊢
    refine (hI _).mono ?_
    rintro e w0 ⟨rfl, rfl⟩
    obtain ⟨ca0, ca1, ca2⟩ := H.a0.cells
    go_wp2_with fail
    refine (hV _).mono ?_
    rintro e w1 ⟨rfl, hbn1⟩
    replace H := H.next hbn1
    clear hbn1
    clear ca0 ca1 ca2
    obtain ⟨z0, z1, z2⟩ := H.r0.soft
    obtain ⟨g0, g1, g2⟩ := H.r0.cells
    obtain ⟨f0, f1, f2, hbF⟩ := H.fin (0) (0) (⟨#[]⟩)
    go_wp2_with fail
    rw [put_eq]
    generalize put _ (w.heap.size + 2) (0) (0) (⟨#[]⟩) = wf at f0 f1 f2 hbF ⊢
    refine bodyPost_ret (v := .tuple #[.agg #[.int .i64 (0), .int .i64 (0), .string (⟨#[]⟩)], .int .i64 (1)]) (by simp [results, Try.results19, go_sem, f0, f1, f2]) rfl ?_
    exact ⟨rfl, hbF⟩
  cases hvb : valOk k' a' t'.data.toList
  · rw [calc_bad (.inr (.inr (.inl hvb)))]
    rw [hva] at hV
    rw [hvb] at hW
    clear hva hvb
    unfold errC
    go_enter Try.func19, Try.ntmps19
    go_wp2_with fail
    have H := fr_new w k a t k' a' t'
    generalize (((w.alloc (.cells #[.int .i64 k, .int .i64 a, .string t] 27)).alloc (.cells #[.int .i64 k', .int .i64 a', .string t'] 27)).alloc (.cells #[.int .i64 0, .int .i64 0, .string ⟨#[]⟩] 27)) = V at H ⊢
    refine (hI _).mono ?_
    rintro e w0 ⟨rfl, rfl⟩
    obtain ⟨ca0, ca1, ca2⟩ := H.a0.cells
    go_wp2_with fail
    refine (hV _).mono ?_
    rintro e w1 ⟨rfl, hbn1⟩
    replace H := H.next hbn1
    clear hbn1
    clear ca0 ca1 ca2
    obtain ⟨cb0, cb1, cb2⟩ := H.b0.cells
    go_wp2_with fail
    refine (hW _).mono ?_
    rintro e w2 ⟨rfl, hbn2⟩
    replace H := H.next hbn2
    clear hbn2
    clear cb0 cb1 cb2
    obtain ⟨z0, z1, z2⟩ := H.r0.soft
    obtain ⟨g0, g1, g2⟩ := H.r0.cells
    obtain ⟨f0, f1, f2, hbF⟩ := H.fin (0) (0) (⟨#[]⟩)
    go_wp2_with fail
    rw [put_eq]
    generalize put _ (w.heap.size + 2) (0) (0) (⟨#[]⟩) = wf at f0 f1 f2 hbF ⊢
    refine bodyPost_ret (v := .tuple #[.agg #[.int .i64 (0), .int .i64 (0), .string (⟨#[]⟩)], .int .i64 (1)]) (by simp [results, Try.results19, go_sem, f0, f1, f2]) rfl ?_
    exact ⟨rfl, hbF⟩
  have hva2 := hva
  have hvb2 := hvb
  rw [hva] at hV
  rw [hvb] at hW
  by_cases h2 : op ≤ 2
  · have hL := fun w => logic_spec op k a t k' a' t' w h1 h2 hva hvb
    have hR : calcC op k a t k' a' t' = if kindIn k 3 && kindIn k' 3 then logicC op k a k' a' else errC 1 := by
      have hf : fitsOp op k k' = (kindIn k 3 && kindIn k' 3) := by unfold fitsOp; rw [if_pos h2]
      cases hx : (kindIn k 3 && kindIn k' 3)
      · rw [calc_bad (.inr (.inr (.inr (by rw [hf]; exact hx))))]; rfl
      · rw [calc_good h1 h14 hva hvb (by rw [hf]; exact hx), if_pos h2]; rfl
    rw [hR]
    clear hR hva hvb hva2 hvb2
    have d3 : decide (op ≤ 2) = true := by simpa using h2
    obtain ⟨rk, rn, rt, rc, hE⟩ := CR.eta (if kindIn k 3 && kindIn k' 3 then logicC op k a k' a' else errC 1)
    rw [hE] at hL ⊢
    clear hE
    go_enter Try.func19, Try.ntmps19
    go_wp2_with fail
    have H := fr_new w k a t k' a' t'
    generalize (((w.alloc (.cells #[.int .i64 k, .int .i64 a, .string t] 27)).alloc (.cells #[.int .i64 k', .int .i64 a', .string t'] 27)).alloc (.cells #[.int .i64 0, .int .i64 0, .string ⟨#[]⟩] 27)) = V at H ⊢
    refine (hI _).mono ?_
    rintro e w0 ⟨rfl, rfl⟩
    obtain ⟨ca0, ca1, ca2⟩ := H.a0.cells
    go_wp2_with fail
    refine (hV _).mono ?_
    rintro e w1 ⟨rfl, hbn1⟩
    replace H := H.next hbn1
    clear hbn1
    clear ca0 ca1 ca2
    obtain ⟨cb0, cb1, cb2⟩ := H.b0.cells
    go_wp2_with fail
    refine (hW _).mono ?_
    rintro e w2 ⟨rfl, hbn2⟩
    replace H := H.next hbn2
    clear hbn2
    clear cb0 cb1 cb2
    obtain ⟨ca0, ca1, ca2⟩ := H.a0.cells
    obtain ⟨cb0, cb1, cb2⟩ := H.b0.cells
    go_wp2_with fail
    refine (hL _).mono ?_
    rintro e w7 ⟨rfl, hbn7⟩
    replace H := H.next hbn7
    clear hbn7
    clear ca0 ca1 ca2
    clear cb0 cb1 cb2
    obtain ⟨z0, z1, z2⟩ := H.r0.soft
    obtain ⟨g0, g1, g2⟩ := H.r0.cells
    obtain ⟨f0, f1, f2, hbF⟩ := H.fin (rk) (rn) (rt)
    go_wp2_with fail
    rw [put_eq]
    generalize put _ (w.heap.size + 2) (rk) (rn) (rt) = wf at f0 f1 f2 hbF ⊢
    refine bodyPost_ret (v := .tuple #[.agg #[.int .i64 (rk), .int .i64 (rn), .string (rt)], .int .i64 (rc)]) (by simp [results, Try.results19, go_sem, f0, f1, f2]) rfl ?_
    exact ⟨rfl, hbF⟩
  have d3 : decide (op ≤ 2) = false := by simpa using h2
  have hT := fun w => types_spec op k a t k' a' t' w (by omega) h14
  cases hf : fitsOp op k k'
  · rw [calc_bad (.inr (.inr (.inr hf)))]
    rw [hf] at hT
    clear hf hva hvb hva2 hvb2
    unfold errC
    go_enter Try.func19, Try.ntmps19
    go_wp2_with fail
    have H := fr_new w k a t k' a' t'
    generalize (((w.alloc (.cells #[.int .i64 k, .int .i64 a, .string t] 27)).alloc (.cells #[.int .i64 k', .int .i64 a', .string t'] 27)).alloc (.cells #[.int .i64 0, .int .i64 0, .string ⟨#[]⟩] 27)) = V at H ⊢
    refine (hI _).mono ?_
    rintro e w0 ⟨rfl, rfl⟩
    obtain ⟨ca0, ca1, ca2⟩ := H.a0.cells
    go_wp2_with fail
    refine (hV _).mono ?_
    rintro e w1 ⟨rfl, hbn1⟩
    replace H := H.next hbn1
    clear hbn1
    clear ca0 ca1 ca2
    obtain ⟨cb0, cb1, cb2⟩ := H.b0.cells
    go_wp2_with fail
    refine (hW _).mono ?_
    rintro e w2 ⟨rfl, hbn2⟩
    replace H := H.next hbn2
    clear hbn2
    clear cb0 cb1 cb2
    obtain ⟨ca0, ca1, ca2⟩ := H.a0.cells
    obtain ⟨cb0, cb1, cb2⟩ := H.b0.cells
    go_wp2_with fail
    refine (hT _).mono ?_
    rintro e w3 ⟨rfl, hbn3⟩
    replace H := H.next hbn3
    clear hbn3
    clear ca0 ca1 ca2
    clear cb0 cb1 cb2
    obtain ⟨z0, z1, z2⟩ := H.r0.soft
    obtain ⟨g0, g1, g2⟩ := H.r0.cells
    obtain ⟨f0, f1, f2, hbF⟩ := H.fin (0) (0) (⟨#[]⟩)
    go_wp2_with fail
    rw [put_eq]
    generalize put _ (w.heap.size + 2) (0) (0) (⟨#[]⟩) = wf at f0 f1 f2 hbF ⊢
    refine bodyPost_ret (v := .tuple #[.agg #[.int .i64 (0), .int .i64 (0), .string (⟨#[]⟩)], .int .i64 (1)]) (by simp [results, Try.results19, go_sem, f0, f1, f2]) rfl ?_
    exact ⟨rfl, hbF⟩
  have hR := calc_good h1 h14 hva hvb hf
  rw [hf] at hT
  clear hva hvb
  rw [if_neg h2] at hR
  clear hf
  have hNa := fun w => null_spec k a t w
  have hNb := fun w => null_spec k' a' t' w
  cases hk : (k == 0)
  case true =>
    rw [hk] at hNa hR
    rw [hR]
    clear hR hva2 hvb2 hNb
    show Calls _ _ _ w (CalcE nullC w)
    unfold nullC
    go_enter Try.func19, Try.ntmps19
    go_wp2_with fail
    have H := fr_new w k a t k' a' t'
    generalize (((w.alloc (.cells #[.int .i64 k, .int .i64 a, .string t] 27)).alloc (.cells #[.int .i64 k', .int .i64 a', .string t'] 27)).alloc (.cells #[.int .i64 0, .int .i64 0, .string ⟨#[]⟩] 27)) = V at H ⊢
    refine (hI _).mono ?_
    rintro e w0 ⟨rfl, rfl⟩
    obtain ⟨ca0, ca1, ca2⟩ := H.a0.cells
    go_wp2_with fail
    refine (hV _).mono ?_
    rintro e w1 ⟨rfl, hbn1⟩
    replace H := H.next hbn1
    clear hbn1
    clear ca0 ca1 ca2
    obtain ⟨cb0, cb1, cb2⟩ := H.b0.cells
    go_wp2_with fail
    refine (hW _).mono ?_
    rintro e w2 ⟨rfl, hbn2⟩
    replace H := H.next hbn2
    clear hbn2
    clear cb0 cb1 cb2
    obtain ⟨ca0, ca1, ca2⟩ := H.a0.cells
    obtain ⟨cb0, cb1, cb2⟩ := H.b0.cells
    go_wp2_with fail
    refine (hT _).mono ?_
    rintro e w3 ⟨rfl, hbn3⟩
    replace H := H.next hbn3
    clear hbn3
    clear ca0 ca1 ca2
    clear cb0 cb1 cb2
    obtain ⟨ca0, ca1, ca2⟩ := H.a0.cells
    go_wp2_with fail
    refine (hNa _).mono ?_
    rintro e w4 ⟨rfl, hbn4⟩
    replace H := H.next hbn4
    clear hbn4
    clear ca0 ca1 ca2
    obtain ⟨z0, z1, z2⟩ := H.r0.soft
    obtain ⟨g0, g1, g2⟩ := H.r0.cells
    obtain ⟨f0, f1, f2, hbF⟩ := H.fin (0) (0) (⟨#[]⟩)
    go_wp2_with fail
    rw [put_eq]
    generalize put _ (w.heap.size + 2) (0) (0) (⟨#[]⟩) = wf at f0 f1 f2 hbF ⊢
    refine bodyPost_ret (v := .tuple #[.agg #[.int .i64 (0), .int .i64 (0), .string (⟨#[]⟩)], .int .i64 (0)]) (by simp [results, Try.results19, go_sem, f0, f1, f2]) rfl ?_
    exact ⟨rfl, hbF⟩
  cases hk' : (k' == 0)
  case true =>
    rw [hk] at hNa hR
    rw [hk'] at hNb hR
    rw [hR]
    clear hR hva2 hvb2
    show Calls _ _ _ w (CalcE nullC w)
    unfold nullC
    go_enter Try.func19, Try.ntmps19
    go_wp2_with fail
    have H := fr_new w k a t k' a' t'
    generalize (((w.alloc (.cells #[.int .i64 k, .int .i64 a, .string t] 27)).alloc (.cells #[.int .i64 k', .int .i64 a', .string t'] 27)).alloc (.cells #[.int .i64 0, .int .i64 0, .string ⟨#[]⟩] 27)) = V at H ⊢
    refine (hI _).mono ?_
    rintro e w0 ⟨rfl, rfl⟩
    obtain ⟨ca0, ca1, ca2⟩ := H.a0.cells
    go_wp2_with fail
    refine (hV _).mono ?_
    rintro e w1 ⟨rfl, hbn1⟩
    replace H := H.next hbn1
    clear hbn1
    clear ca0 ca1 ca2
    obtain ⟨cb0, cb1, cb2⟩ := H.b0.cells
    go_wp2_with fail
    refine (hW _).mono ?_
    rintro e w2 ⟨rfl, hbn2⟩
    replace H := H.next hbn2
    clear hbn2
    clear cb0 cb1 cb2
    obtain ⟨ca0, ca1, ca2⟩ := H.a0.cells
    obtain ⟨cb0, cb1, cb2⟩ := H.b0.cells
    go_wp2_with fail
    refine (hT _).mono ?_
    rintro e w3 ⟨rfl, hbn3⟩
    replace H := H.next hbn3
    clear hbn3
    clear ca0 ca1 ca2
    clear cb0 cb1 cb2
    obtain ⟨ca0, ca1, ca2⟩ := H.a0.cells
    go_wp2_with fail
    refine (hNa _).mono ?_
    rintro e w4 ⟨rfl, hbn4⟩
    replace H := H.next hbn4
    clear hbn4
    clear ca0 ca1 ca2
    obtain ⟨cb0, cb1, cb2⟩ := H.b0.cells
    go_wp2_with fail
    refine (hNb _).mono ?_
    rintro e w5 ⟨rfl, hbn5⟩
    replace H := H.next hbn5
    clear hbn5
    clear cb0 cb1 cb2
    obtain ⟨z0, z1, z2⟩ := H.r0.soft
    obtain ⟨g0, g1, g2⟩ := H.r0.cells
    obtain ⟨f0, f1, f2, hbF⟩ := H.fin (0) (0) (⟨#[]⟩)
    go_wp2_with fail
    rw [put_eq]
    generalize put _ (w.heap.size + 2) (0) (0) (⟨#[]⟩) = wf at f0 f1 f2 hbF ⊢
    refine bodyPost_ret (v := .tuple #[.agg #[.int .i64 (0), .int .i64 (0), .string (⟨#[]⟩)], .int .i64 (0)]) (by simp [results, Try.results19, go_sem, f0, f1, f2]) rfl ?_
    exact ⟨rfl, hbF⟩
  rw [hk] at hNa
  rw [hk'] at hNb
  rw [hk, hk', if_neg (by decide)] at hR
  clear hk hk'
  by_cases h8 : op ≤ 8
  · rw [if_pos h8] at hR
    have h3 : 3 ≤ op := by omega
    have hO := fun w => order_spec k a t k' a' t' w
    have hX := ordV_range (k, a, t.data.toList) (k', a', t'.data.toList)
    rw [hR]
    clear hR hva2 hvb2
    generalize ordV (k, a, t.data.toList) (k', a', t'.data.toList) = x at hO hX ⊢
    have hM := fun w => compare_spec op x w h3 h8 hX
    generalize holdsB op x = y at hM ⊢
    have hB := fun w => boolValue_spec y w
    unfold boolC
    generalize (if y then (1 : Int) else 0) = z at hB ⊢
    clear hX
    go_enter Try.func19, Try.ntmps19
    go_wp2_with fail
    have H := fr_new w k a t k' a' t'
    generalize (((w.alloc (.cells #[.int .i64 k, .int .i64 a, .string t] 27)).alloc (.cells #[.int .i64 k', .int .i64 a', .string t'] 27)).alloc (.cells #[.int .i64 0, .int .i64 0, .string ⟨#[]⟩] 27)) = V at H ⊢
    refine (hI _).mono ?_
    rintro e w0 ⟨rfl, rfl⟩
    obtain ⟨ca0, ca1, ca2⟩ := H.a0.cells
    go_wp2_with fail
    refine (hV _).mono ?_
    rintro e w1 ⟨rfl, hbn1⟩
    replace H := H.next hbn1
    clear hbn1
    clear ca0 ca1 ca2
    obtain ⟨cb0, cb1, cb2⟩ := H.b0.cells
    go_wp2_with fail
    refine (hW _).mono ?_
    rintro e w2 ⟨rfl, hbn2⟩
    replace H := H.next hbn2
    clear hbn2
    clear cb0 cb1 cb2
    obtain ⟨ca0, ca1, ca2⟩ := H.a0.cells
    obtain ⟨cb0, cb1, cb2⟩ := H.b0.cells
    go_wp2_with fail
    refine (hT _).mono ?_
    rintro e w3 ⟨rfl, hbn3⟩
    replace H := H.next hbn3
    clear hbn3
    clear ca0 ca1 ca2
    clear cb0 cb1 cb2
    obtain ⟨ca0, ca1, ca2⟩ := H.a0.cells
    go_wp2_with fail
    refine (hNa _).mono ?_
    rintro e w4 ⟨rfl, hbn4⟩
    replace H := H.next hbn4
    clear hbn4
    clear ca0 ca1 ca2
    obtain ⟨cb0, cb1, cb2⟩ := H.b0.cells
    go_wp2_with fail
    refine (hNb _).mono ?_
    rintro e w5 ⟨rfl, hbn5⟩
    replace H := H.next hbn5
    clear hbn5
    clear cb0 cb1 cb2
    obtain ⟨ca0, ca1, ca2⟩ := H.a0.cells
    obtain ⟨cb0, cb1, cb2⟩ := H.b0.cells
    go_wp2_with fail
    refine (hO _).mono ?_
    rintro e w6 ⟨rfl, hbn6⟩
    replace H := H.next hbn6
    clear hbn6
    clear ca0 ca1 ca2
    clear cb0 cb1 cb2
    go_wp2_with fail
    refine (hM _).mono ?_
    rintro e wm ⟨rfl, rfl⟩
    go_wp2_with fail
    refine (hB _).mono ?_
    rintro e w8 ⟨rfl, hbn8⟩
    replace H := H.next hbn8
    clear hbn8
    obtain ⟨z0, z1, z2⟩ := H.r0.soft
    obtain ⟨g0, g1, g2⟩ := H.r0.cells
    obtain ⟨f0, f1, f2, hbF⟩ := H.fin (3) (z) (⟨#[]⟩)
    go_wp2_with fail
    rw [put_eq]
    generalize put _ (w.heap.size + 2) (3) (z) (⟨#[]⟩) = wf at f0 f1 f2 hbF ⊢
    refine bodyPost_ret (v := .tuple #[.agg #[.int .i64 (3), .int .i64 (z), .string (⟨#[]⟩)], .int .i64 (0)]) (by simp [results, Try.results19, go_sem, f0, f1, f2]) rfl ?_
    exact ⟨rfl, hbF⟩
  rw [if_neg h8] at hR
  by_cases h9 : op = 9
  · subst h9
    rw [if_pos rfl] at hR
    have hs := text_small hva2
    have hs' := text_small hvb2
    rw [hR]
    clear hR hva2 hvb2 h8 h2
    unfold catC
    by_cases hl : t.size + t'.size ≤ 200
    · rw [if_pos hl]
      have hd : decide (200 < (t.size : Int) + (t'.size : Int)) = false := by simp; omega
      have hX := fun w => textValue_spec (t ++ t') w
      clear hl
      go_enter Try.func19, Try.ntmps19
      go_wp2_with fail
      have H := fr_new w k a t k' a' t'
      generalize (((w.alloc (.cells #[.int .i64 k, .int .i64 a, .string t] 27)).alloc (.cells #[.int .i64 k', .int .i64 a', .string t'] 27)).alloc (.cells #[.int .i64 0, .int .i64 0, .string ⟨#[]⟩] 27)) = V at H ⊢
      refine (hI _).mono ?_
      rintro e w0 ⟨rfl, rfl⟩
      obtain ⟨ca0, ca1, ca2⟩ := H.a0.cells
      go_wp2_with fail
      refine (hV _).mono ?_
      rintro e w1 ⟨rfl, hbn1⟩
      replace H := H.next hbn1
      clear hbn1
      clear ca0 ca1 ca2
      obtain ⟨cb0, cb1, cb2⟩ := H.b0.cells
      go_wp2_with fail
      refine (hW _).mono ?_
      rintro e w2 ⟨rfl, hbn2⟩
      replace H := H.next hbn2
      clear hbn2
      clear cb0 cb1 cb2
      obtain ⟨ca0, ca1, ca2⟩ := H.a0.cells
      obtain ⟨cb0, cb1, cb2⟩ := H.b0.cells
      go_wp2_with fail
      refine (hT _).mono ?_
      rintro e w3 ⟨rfl, hbn3⟩
      replace H := H.next hbn3
      clear hbn3
      clear ca0 ca1 ca2
      clear cb0 cb1 cb2
      obtain ⟨ca0, ca1, ca2⟩ := H.a0.cells
      go_wp2_with fail
      refine (hNa _).mono ?_
      rintro e w4 ⟨rfl, hbn4⟩
      replace H := H.next hbn4
      clear hbn4
      clear ca0 ca1 ca2
      obtain ⟨cb0, cb1, cb2⟩ := H.b0.cells
      go_wp2_with fail
      refine (hNb _).mono ?_
      rintro e w5 ⟨rfl, hbn5⟩
      replace H := H.next hbn5
      clear hbn5
      clear cb0 cb1 cb2
      obtain ⟨ca0, ca1, ca2⟩ := H.a0.cells
      obtain ⟨cb0, cb1, cb2⟩ := H.b0.cells
      go_wp2_with fail
      refine (hX _).mono ?_
      rintro e w6 ⟨rfl, hbn6⟩
      replace H := H.next hbn6
      clear hbn6
      clear ca0 ca1 ca2
      clear cb0 cb1 cb2
      obtain ⟨z0, z1, z2⟩ := H.r0.soft
      obtain ⟨g0, g1, g2⟩ := H.r0.cells
      obtain ⟨f0, f1, f2, hbF⟩ := H.fin (2) (0) (t ++ t')
      go_wp2_with fail
      rw [put_eq]
      generalize put _ (w.heap.size + 2) (2) (0) (t ++ t') = wf at f0 f1 f2 hbF ⊢
      refine bodyPost_ret (v := .tuple #[.agg #[.int .i64 (2), .int .i64 (0), .string (t ++ t')], .int .i64 (0)]) (by simp [results, Try.results19, go_sem, f0, f1, f2]) rfl ?_
      exact ⟨rfl, hbF⟩
    · rw [if_neg hl]
      have hd : decide (200 < (t.size : Int) + (t'.size : Int)) = true := by simp; omega
      unfold errC
      clear hl
      go_enter Try.func19, Try.ntmps19
      go_wp2_with fail
      have H := fr_new w k a t k' a' t'
      generalize (((w.alloc (.cells #[.int .i64 k, .int .i64 a, .string t] 27)).alloc (.cells #[.int .i64 k', .int .i64 a', .string t'] 27)).alloc (.cells #[.int .i64 0, .int .i64 0, .string ⟨#[]⟩] 27)) = V at H ⊢
      refine (hI _).mono ?_
      rintro e w0 ⟨rfl, rfl⟩
      obtain ⟨ca0, ca1, ca2⟩ := H.a0.cells
      go_wp2_with fail
      refine (hV _).mono ?_
      rintro e w1 ⟨rfl, hbn1⟩
      replace H := H.next hbn1
      clear hbn1
      clear ca0 ca1 ca2
      obtain ⟨cb0, cb1, cb2⟩ := H.b0.cells
      go_wp2_with fail
      refine (hW _).mono ?_
      rintro e w2 ⟨rfl, hbn2⟩
      replace H := H.next hbn2
      clear hbn2
      clear cb0 cb1 cb2
      obtain ⟨ca0, ca1, ca2⟩ := H.a0.cells
      obtain ⟨cb0, cb1, cb2⟩ := H.b0.cells
      go_wp2_with fail
      refine (hT _).mono ?_
      rintro e w3 ⟨rfl, hbn3⟩
      replace H := H.next hbn3
      clear hbn3
      clear ca0 ca1 ca2
      clear cb0 cb1 cb2
      obtain ⟨ca0, ca1, ca2⟩ := H.a0.cells
      go_wp2_with fail
      refine (hNa _).mono ?_
      rintro e w4 ⟨rfl, hbn4⟩
      replace H := H.next hbn4
      clear hbn4
      clear ca0 ca1 ca2
      obtain ⟨cb0, cb1, cb2⟩ := H.b0.cells
      go_wp2_with fail
      refine (hNb _).mono ?_
      rintro e w5 ⟨rfl, hbn5⟩
      replace H := H.next hbn5
      clear hbn5
      clear cb0 cb1 cb2
      obtain ⟨ca0, ca1, ca2⟩ := H.a0.cells
      obtain ⟨cb0, cb1, cb2⟩ := H.b0.cells
      obtain ⟨z0, z1, z2⟩ := H.r0.soft
      obtain ⟨g0, g1, g2⟩ := H.r0.cells
      obtain ⟨f0, f1, f2, hbF⟩ := H.fin (0) (0) (⟨#[]⟩)
      go_wp2_with fail
      rw [put_eq]
      generalize put _ (w.heap.size + 2) (0) (0) (⟨#[]⟩) = wf at f0 f1 f2 hbF ⊢
      refine bodyPost_ret (v := .tuple #[.agg #[.int .i64 (0), .int .i64 (0), .string (⟨#[]⟩)], .int .i64 (2)]) (by simp [results, Try.results19, go_sem, f0, f1, f2]) rfl ?_
      exact ⟨rfl, hbF⟩
  have q9 : (op == 9) = false := by simpa using h9
  rw [if_neg h9] at hR
  clear hva2 hvb2
  by_cases h10 : op = 10
  · subst h10
    have hE1 : numOpC 10 a a' = numC (a + a') := rfl
    rw [hR, hE1]
    clear hR hE1
    have hN := fun w => addNum_spec a a' w ha0 ha1 hb0 hb1
    have hX := fun w => numC_spec (a + a') w
    unfold NumR at hN
    generalize outI (a + a') = x at hN hX
    generalize fits (a + a') = c at hN hX
    obtain ⟨rk, rn, rt, rc, hE⟩ := CR.eta (numC (a + a'))
    rw [hE] at hX ⊢
    clear hE
    go_enter Try.func19, Try.ntmps19
    go_wp2_with fail
    have H := fr_new w k a t k' a' t'
    generalize (((w.alloc (.cells #[.int .i64 k, .int .i64 a, .string t] 27)).alloc (.cells #[.int .i64 k', .int .i64 a', .string t'] 27)).alloc (.cells #[.int .i64 0, .int .i64 0, .string ⟨#[]⟩] 27)) = V at H ⊢
    refine (hI _).mono ?_
    rintro e w0 ⟨rfl, rfl⟩
    obtain ⟨ca0, ca1, ca2⟩ := H.a0.cells
    go_wp2_with fail
    refine (hV _).mono ?_
    rintro e w1 ⟨rfl, hbn1⟩
    replace H := H.next hbn1
    clear hbn1
    clear ca0 ca1 ca2
    obtain ⟨cb0, cb1, cb2⟩ := H.b0.cells
    go_wp2_with fail
    refine (hW _).mono ?_
    rintro e w2 ⟨rfl, hbn2⟩
    replace H := H.next hbn2
    clear hbn2
    clear cb0 cb1 cb2
    obtain ⟨ca0, ca1, ca2⟩ := H.a0.cells
    obtain ⟨cb0, cb1, cb2⟩ := H.b0.cells
    go_wp2_with fail
    refine (hT _).mono ?_
    rintro e w3 ⟨rfl, hbn3⟩
    replace H := H.next hbn3
    clear hbn3
    clear ca0 ca1 ca2
    clear cb0 cb1 cb2
    obtain ⟨ca0, ca1, ca2⟩ := H.a0.cells
    go_wp2_with fail
    refine (hNa _).mono ?_
    rintro e w4 ⟨rfl, hbn4⟩
    replace H := H.next hbn4
    clear hbn4
    clear ca0 ca1 ca2
    obtain ⟨cb0, cb1, cb2⟩ := H.b0.cells
    go_wp2_with fail
    refine (hNb _).mono ?_
    rintro e w5 ⟨rfl, hbn5⟩
    replace H := H.next hbn5
    clear hbn5
    clear cb0 cb1 cb2
    obtain ⟨ca0, ca1, ca2⟩ := H.a0.cells
    obtain ⟨cb0, cb1, cb2⟩ := H.b0.cells
    go_wp2_with fail
    refine (hN _).mono ?_
    rintro e w6 ⟨rfl, rfl⟩
    go_wp2_with fail
    refine (hX _).mono ?_
    rintro e w7 ⟨rfl, hbn7⟩
    replace H := H.next hbn7
    clear hbn7
    clear ca0 ca1 ca2
    clear cb0 cb1 cb2
    obtain ⟨z0, z1, z2⟩ := H.r0.soft
    obtain ⟨g0, g1, g2⟩ := H.r0.cells
    obtain ⟨f0, f1, f2, hbF⟩ := H.fin (rk) (rn) (rt)
    go_wp2_with fail
    rw [put_eq]
    generalize put _ (w.heap.size + 2) (rk) (rn) (rt) = wf at f0 f1 f2 hbF ⊢
    refine bodyPost_ret (v := .tuple #[.agg #[.int .i64 (rk), .int .i64 (rn), .string (rt)], .int .i64 (rc)]) (by simp [results, Try.results19, go_sem, f0, f1, f2]) rfl ?_
    exact ⟨rfl, hbF⟩
  have q10 : (op == 10) = false := by simpa using h10
  by_cases h11 : op = 11
  · subst h11
    have hE1 : numOpC 11 a a' = numC (a - a') := rfl
    rw [hR, hE1]
    clear hR hE1
    have hN := fun w => subNum_spec a a' w ha0 ha1 hb0 hb1
    have hX := fun w => numC_spec (a - a') w
    unfold NumR at hN
    generalize outI (a - a') = x at hN hX
    generalize fits (a - a') = c at hN hX
    obtain ⟨rk, rn, rt, rc, hE⟩ := CR.eta (numC (a - a'))
    rw [hE] at hX ⊢
    clear hE
    go_enter Try.func19, Try.ntmps19
    go_wp2_with fail
    have H := fr_new w k a t k' a' t'
    generalize (((w.alloc (.cells #[.int .i64 k, .int .i64 a, .string t] 27)).alloc (.cells #[.int .i64 k', .int .i64 a', .string t'] 27)).alloc (.cells #[.int .i64 0, .int .i64 0, .string ⟨#[]⟩] 27)) = V at H ⊢
    refine (hI _).mono ?_
    rintro e w0 ⟨rfl, rfl⟩
    obtain ⟨ca0, ca1, ca2⟩ := H.a0.cells
    go_wp2_with fail
    refine (hV _).mono ?_
    rintro e w1 ⟨rfl, hbn1⟩
    replace H := H.next hbn1
    clear hbn1
    clear ca0 ca1 ca2
    obtain ⟨cb0, cb1, cb2⟩ := H.b0.cells
    go_wp2_with fail
    refine (hW _).mono ?_
    rintro e w2 ⟨rfl, hbn2⟩
    replace H := H.next hbn2
    clear hbn2
    clear cb0 cb1 cb2
    obtain ⟨ca0, ca1, ca2⟩ := H.a0.cells
    obtain ⟨cb0, cb1, cb2⟩ := H.b0.cells
    go_wp2_with fail
    refine (hT _).mono ?_
    rintro e w3 ⟨rfl, hbn3⟩
    replace H := H.next hbn3
    clear hbn3
    clear ca0 ca1 ca2
    clear cb0 cb1 cb2
    obtain ⟨ca0, ca1, ca2⟩ := H.a0.cells
    go_wp2_with fail
    refine (hNa _).mono ?_
    rintro e w4 ⟨rfl, hbn4⟩
    replace H := H.next hbn4
    clear hbn4
    clear ca0 ca1 ca2
    obtain ⟨cb0, cb1, cb2⟩ := H.b0.cells
    go_wp2_with fail
    refine (hNb _).mono ?_
    rintro e w5 ⟨rfl, hbn5⟩
    replace H := H.next hbn5
    clear hbn5
    clear cb0 cb1 cb2
    obtain ⟨ca0, ca1, ca2⟩ := H.a0.cells
    obtain ⟨cb0, cb1, cb2⟩ := H.b0.cells
    go_wp2_with fail
    refine (hN _).mono ?_
    rintro e w6 ⟨rfl, rfl⟩
    go_wp2_with fail
    refine (hX _).mono ?_
    rintro e w7 ⟨rfl, hbn7⟩
    replace H := H.next hbn7
    clear hbn7
    clear ca0 ca1 ca2
    clear cb0 cb1 cb2
    obtain ⟨z0, z1, z2⟩ := H.r0.soft
    obtain ⟨g0, g1, g2⟩ := H.r0.cells
    obtain ⟨f0, f1, f2, hbF⟩ := H.fin (rk) (rn) (rt)
    go_wp2_with fail
    rw [put_eq]
    generalize put _ (w.heap.size + 2) (rk) (rn) (rt) = wf at f0 f1 f2 hbF ⊢
    refine bodyPost_ret (v := .tuple #[.agg #[.int .i64 (rk), .int .i64 (rn), .string (rt)], .int .i64 (rc)]) (by simp [results, Try.results19, go_sem, f0, f1, f2]) rfl ?_
    exact ⟨rfl, hbF⟩
  have q11 : (op == 11) = false := by simpa using h11
  by_cases h12 : op = 12
  · subst h12
    have hE1 : numOpC 12 a a' = numC (a * a') := rfl
    rw [hR, hE1]
    clear hR hE1
    have hN := fun w => mulNum_spec a a' w ha0 ha1 hb0 hb1
    have hX := fun w => numC_spec (a * a') w
    unfold NumR at hN
    generalize outI (a * a') = x at hN hX
    generalize fits (a * a') = c at hN hX
    obtain ⟨rk, rn, rt, rc, hE⟩ := CR.eta (numC (a * a'))
    rw [hE] at hX ⊢
    clear hE
    go_enter Try.func19, Try.ntmps19
    go_wp2_with fail
    have H := fr_new w k a t k' a' t'
    generalize (((w.alloc (.cells #[.int .i64 k, .int .i64 a, .string t] 27)).alloc (.cells #[.int .i64 k', .int .i64 a', .string t'] 27)).alloc (.cells #[.int .i64 0, .int .i64 0, .string ⟨#[]⟩] 27)) = V at H ⊢
    refine (hI _).mono ?_
    rintro e w0 ⟨rfl, rfl⟩
    obtain ⟨ca0, ca1, ca2⟩ := H.a0.cells
    go_wp2_with fail
    refine (hV _).mono ?_
    rintro e w1 ⟨rfl, hbn1⟩
    replace H := H.next hbn1
    clear hbn1
    clear ca0 ca1 ca2
    obtain ⟨cb0, cb1, cb2⟩ := H.b0.cells
    go_wp2_with fail
    refine (hW _).mono ?_
    rintro e w2 ⟨rfl, hbn2⟩
    replace H := H.next hbn2
    clear hbn2
    clear cb0 cb1 cb2
    obtain ⟨ca0, ca1, ca2⟩ := H.a0.cells
    obtain ⟨cb0, cb1, cb2⟩ := H.b0.cells
    go_wp2_with fail
    refine (hT _).mono ?_
    rintro e w3 ⟨rfl, hbn3⟩
    replace H := H.next hbn3
    clear hbn3
    clear ca0 ca1 ca2
    clear cb0 cb1 cb2
    obtain ⟨ca0, ca1, ca2⟩ := H.a0.cells
    go_wp2_with fail
    refine (hNa _).mono ?_
    rintro e w4 ⟨rfl, hbn4⟩
    replace H := H.next hbn4
    clear hbn4
    clear ca0 ca1 ca2
    obtain ⟨cb0, cb1, cb2⟩ := H.b0.cells
    go_wp2_with fail
    refine (hNb _).mono ?_
    rintro e w5 ⟨rfl, hbn5⟩
    replace H := H.next hbn5
    clear hbn5
    clear cb0 cb1 cb2
    obtain ⟨ca0, ca1, ca2⟩ := H.a0.cells
    obtain ⟨cb0, cb1, cb2⟩ := H.b0.cells
    go_wp2_with fail
    refine (hN _).mono ?_
    rintro e w6 ⟨rfl, rfl⟩
    go_wp2_with fail
    refine (hX _).mono ?_
    rintro e w7 ⟨rfl, hbn7⟩
    replace H := H.next hbn7
    clear hbn7
    clear ca0 ca1 ca2
    clear cb0 cb1 cb2
    obtain ⟨z0, z1, z2⟩ := H.r0.soft
    obtain ⟨g0, g1, g2⟩ := H.r0.cells
    obtain ⟨f0, f1, f2, hbF⟩ := H.fin (rk) (rn) (rt)
    go_wp2_with fail
    rw [put_eq]
    generalize put _ (w.heap.size + 2) (rk) (rn) (rt) = wf at f0 f1 f2 hbF ⊢
    refine bodyPost_ret (v := .tuple #[.agg #[.int .i64 (rk), .int .i64 (rn), .string (rt)], .int .i64 (rc)]) (by simp [results, Try.results19, go_sem, f0, f1, f2]) rfl ?_
    exact ⟨rfl, hbF⟩
  have q12 : (op == 12) = false := by simpa using h12
  have hX := fun w => divide_spec op a a' w (by omega) h14 ha0 ha1 hb0 hb1
  rw [hR]
  clear hR
  obtain ⟨rk, rn, rt, rc, hE⟩ := CR.eta (numOpC op a a')
  rw [hE] at hX ⊢
  clear hE
  rcases (show op = 13 ∨ op = 14 by omega) with rfl | rfl
  all_goals
    go_enter Try.func19, Try.ntmps19
    go_wp2_with fail
    have H := fr_new w k a t k' a' t'
    generalize (((w.alloc (.cells #[.int .i64 k, .int .i64 a, .string t] 27)).alloc (.cells #[.int .i64 k', .int .i64 a', .string t'] 27)).alloc (.cells #[.int .i64 0, .int .i64 0, .string ⟨#[]⟩] 27)) = V at H ⊢
    refine (hI _).mono ?_
    rintro e w0 ⟨rfl, rfl⟩
    obtain ⟨ca0, ca1, ca2⟩ := H.a0.cells
    go_wp2_with fail
    refine (hV _).mono ?_
    rintro e w1 ⟨rfl, hbn1⟩
    replace H := H.next hbn1
    clear hbn1
    clear ca0 ca1 ca2
    obtain ⟨cb0, cb1, cb2⟩ := H.b0.cells
    go_wp2_with fail
    refine (hW _).mono ?_
    rintro e w2 ⟨rfl, hbn2⟩
    replace H := H.next hbn2
    clear hbn2
    clear cb0 cb1 cb2
    obtain ⟨ca0, ca1, ca2⟩ := H.a0.cells
    obtain ⟨cb0, cb1, cb2⟩ := H.b0.cells
    go_wp2_with fail
    refine (hT _).mono ?_
    rintro e w3 ⟨rfl, hbn3⟩
    replace H := H.next hbn3
    clear hbn3
    clear ca0 ca1 ca2
    clear cb0 cb1 cb2
    obtain ⟨ca0, ca1, ca2⟩ := H.a0.cells
    go_wp2_with fail
    refine (hNa _).mono ?_
    rintro e w4 ⟨rfl, hbn4⟩
    replace H := H.next hbn4
    clear hbn4
    clear ca0 ca1 ca2
    obtain ⟨cb0, cb1, cb2⟩ := H.b0.cells
    go_wp2_with fail
    refine (hNb _).mono ?_
    rintro e w5 ⟨rfl, hbn5⟩
    replace H := H.next hbn5
    clear hbn5
    clear cb0 cb1 cb2
    obtain ⟨ca0, ca1, ca2⟩ := H.a0.cells
    obtain ⟨cb0, cb1, cb2⟩ := H.b0.cells
    go_wp2_with fail
    refine (hX _).mono ?_
    rintro e w7 ⟨rfl, hbn7⟩
    replace H := H.next hbn7
    clear hbn7
    clear ca0 ca1 ca2
    clear cb0 cb1 cb2
    obtain ⟨z0, z1, z2⟩ := H.r0.soft
    obtain ⟨g0, g1, g2⟩ := H.r0.cells
    obtain ⟨f0, f1, f2, hbF⟩ := H.fin (rk) (rn) (rt)
    go_wp2_with fail
    rw [put_eq]
    generalize put _ (w.heap.size + 2) (rk) (rn) (rt) = wf at f0 f1 f2 hbF ⊢
    refine bodyPost_ret (v := .tuple #[.agg #[.int .i64 (rk), .int .i64 (rn), .string (rt)], .int .i64 (rc)]) (by simp [results, Try.results19, go_sem, f0, f1, f2]) rfl ?_
    exact ⟨rfl, hbF⟩
end Go.Proofs.Ytjekhgekldkopaa
