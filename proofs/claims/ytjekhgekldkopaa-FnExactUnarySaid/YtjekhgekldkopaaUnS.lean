
/- The contract of the model's Unary. -/
import Derived.Test.YtjekhgekldkopaaUnDef
import Derived.Test.YtjekhgekldkopaaCalcS0
import Derived.Test.YtjekhgekldkopaaNumS
namespace Go.Proofs.Ytjekhgekldkopaa
open Go.RowKit

set_option maxRecDepth 100000 in
set_option maxHeartbeats 4000000 in
theorem unary_spec (op k a : Int) (t : ByteArray) (w : World) (ht : t.size ≤ 9223372036854775807) (ha0 : -9223372036854775808 ≤ a) (ha1 : a ≤ 9223372036854775807) : Calls Try.prog 36 #[.int .i64 op, .agg #[.int .i64 k, .int .i64 a, .string t]] w (CalcE (unC op k a t) w) := by
  have hV := fun w => valueOk_spec k a t w ht
  cases hva : valOk k a t.data.toList
  · rw [un_bad hva]
    rw [hva] at hV
    clear hva
    unfold errC
    go_enter Try.func36, Try.ntmps36
    go_wp2_with fail
    have H := frU_new w k a t
    generalize ((w.alloc (.cells #[.int .i64 k, .int .i64 a, .string t] 27)).alloc (.cells #[.int .i64 0, .int .i64 0, .string ⟨#[]⟩] 27)) = V at H ⊢
    obtain ⟨ca0, ca1, ca2⟩ := H.a0.cells
    refine (hV _).mono ?_
    rintro e w1 ⟨rfl, hbn1⟩
    replace H := H.next hbn1
    clear hbn1
    clear ca0 ca1 ca2
    obtain ⟨z0, z1, z2⟩ := H.r0.soft
    obtain ⟨g0, g1, g2⟩ := H.r0.cells
    obtain ⟨f0, f1, f2, hbF⟩ := H.fin (0) (0) (⟨#[]⟩)
    go_wp2_with fail
    rw [put_eq]
    generalize put _ (w.heap.size + 1) (0) (0) (⟨#[]⟩) = wf at f0 f1 f2 hbF ⊢
    refine bodyPost_ret (v := .tuple #[.agg #[.int .i64 (0), .int .i64 (0), .string (⟨#[]⟩)], .int .i64 (1)]) (by simp [results, Try.results36, go_sem, f0, f1, f2]) rfl ?_
    exact ⟨rfl, hbF⟩
  rw [hva] at hV
  by_cases h15 : op = 15
  · subst h15
    have hI := fun w => is_spec k a 3 t w
    cases hk : kindIn k 3
    · rw [not_kind hva hk]
      rw [hk] at hI
      clear hva hk
      unfold errC
      go_enter Try.func36, Try.ntmps36
      go_wp2_with fail
      have H := frU_new w k a t
      generalize ((w.alloc (.cells #[.int .i64 k, .int .i64 a, .string t] 27)).alloc (.cells #[.int .i64 0, .int .i64 0, .string ⟨#[]⟩] 27)) = V at H ⊢
      obtain ⟨ca0, ca1, ca2⟩ := H.a0.cells
      refine (hV _).mono ?_
      rintro e w1 ⟨rfl, hbn1⟩
      replace H := H.next hbn1
      clear hbn1
      clear ca0 ca1 ca2
      obtain ⟨ca0, ca1, ca2⟩ := H.a0.cells
      go_wp2_with fail
      refine (hI _).mono ?_
      rintro e w2 ⟨rfl, hbn2⟩
      replace H := H.next hbn2
      clear hbn2
      clear ca0 ca1 ca2
      obtain ⟨z0, z1, z2⟩ := H.r0.soft
      obtain ⟨g0, g1, g2⟩ := H.r0.cells
      obtain ⟨f0, f1, f2, hbF⟩ := H.fin (0) (0) (⟨#[]⟩)
      go_wp2_with fail
      rw [put_eq]
      generalize put _ (w.heap.size + 1) (0) (0) (⟨#[]⟩) = wf at f0 f1 f2 hbF ⊢
      refine bodyPost_ret (v := .tuple #[.agg #[.int .i64 (0), .int .i64 (0), .string (⟨#[]⟩)], .int .i64 (1)]) (by simp [results, Try.results36, go_sem, f0, f1, f2]) rfl ?_
      exact ⟨rfl, hbF⟩
    have hN := fun w => null_spec k a t w
    rw [hk] at hI
    by_cases h0 : k = 0
    · subst h0
      obtain ⟨hr, rfl, rfl⟩ := not_null hva
      rw [hr]
      clear hva hk hr
      show Calls _ _ _ w (CalcE ⟨0, 0, ⟨#[]⟩, 0⟩ w)
      go_enter Try.func36, Try.ntmps36
      go_wp2_with fail
      have H := frU_new w 0 0 ⟨#[]⟩
      generalize ((w.alloc (.cells #[.int .i64 0, .int .i64 0, .string ⟨#[]⟩] 27)).alloc (.cells #[.int .i64 0, .int .i64 0, .string ⟨#[]⟩] 27)) = V at H ⊢
      obtain ⟨ca0, ca1, ca2⟩ := H.a0.cells
      refine (hV _).mono ?_
      rintro e w1 ⟨rfl, hbn1⟩
      replace H := H.next hbn1
      clear hbn1
      clear ca0 ca1 ca2
      obtain ⟨ca0, ca1, ca2⟩ := H.a0.cells
      go_wp2_with fail
      refine (hI _).mono ?_
      rintro e w2 ⟨rfl, hbn2⟩
      replace H := H.next hbn2
      clear hbn2
      clear ca0 ca1 ca2
      obtain ⟨ca0, ca1, ca2⟩ := H.a0.cells
      go_wp2_with fail
      refine (hN _).mono ?_
      rintro e w3 ⟨rfl, hbn3⟩
      replace H := H.next hbn3
      clear hbn3
      clear ca0 ca1 ca2
      obtain ⟨ca0, ca1, ca2⟩ := H.a0.cells
      obtain ⟨z0, z1, z2⟩ := H.r0.soft
      obtain ⟨g0, g1, g2⟩ := H.r0.cells
      obtain ⟨f0, f1, f2, hbF⟩ := H.fin (0) (0) (⟨#[]⟩)
      go_wp2_with fail
      rw [put_eq]
      generalize put _ (w.heap.size + 1) (0) (0) (⟨#[]⟩) = wf at f0 f1 f2 hbF ⊢
      refine bodyPost_ret (v := .tuple #[.agg #[.int .i64 (0), .int .i64 (0), .string (⟨#[]⟩)], .int .i64 (0)]) (by simp [results, Try.results36, go_sem, f0, f1, f2]) rfl ?_
      exact ⟨rfl, hbF⟩
    obtain rfl : k = 3 := by unfold kindIn at hk; rw [Bool.or_eq_true] at hk; rcases hk with h | h <;> simp at h <;> omega
    rw [not_bool hva]
    clear hva hk h0
    have hB := fun w => boolValue_spec (a == 0) w
    unfold boolC
    generalize (if (a == 0) = true then (1 : Int) else 0) = z at hB ⊢
    go_enter Try.func36, Try.ntmps36
    go_wp2_with fail
    have H := frU_new w 3 a t
    generalize ((w.alloc (.cells #[.int .i64 3, .int .i64 a, .string t] 27)).alloc (.cells #[.int .i64 0, .int .i64 0, .string ⟨#[]⟩] 27)) = V at H ⊢
    obtain ⟨ca0, ca1, ca2⟩ := H.a0.cells
    refine (hV _).mono ?_
    rintro e w1 ⟨rfl, hbn1⟩
    replace H := H.next hbn1
    clear hbn1
    clear ca0 ca1 ca2
    obtain ⟨ca0, ca1, ca2⟩ := H.a0.cells
    go_wp2_with fail
    refine (hI _).mono ?_
    rintro e w2 ⟨rfl, hbn2⟩
    replace H := H.next hbn2
    clear hbn2
    clear ca0 ca1 ca2
    obtain ⟨ca0, ca1, ca2⟩ := H.a0.cells
    go_wp2_with fail
    refine (hN _).mono ?_
    rintro e w3 ⟨rfl, hbn3⟩
    replace H := H.next hbn3
    clear hbn3
    clear ca0 ca1 ca2
    obtain ⟨ca0, ca1, ca2⟩ := H.a0.cells
    go_wp2_with fail
    refine (hB _).mono ?_
    rintro e w4 ⟨rfl, hbn4⟩
    replace H := H.next hbn4
    clear hbn4
    clear ca0 ca1 ca2
    obtain ⟨z0, z1, z2⟩ := H.r0.soft
    obtain ⟨g0, g1, g2⟩ := H.r0.cells
    obtain ⟨f0, f1, f2, hbF⟩ := H.fin (3) (z) (⟨#[]⟩)
    go_wp2_with fail
    rw [put_eq]
    generalize put _ (w.heap.size + 1) (3) (z) (⟨#[]⟩) = wf at f0 f1 f2 hbF ⊢
    refine bodyPost_ret (v := .tuple #[.agg #[.int .i64 (3), .int .i64 (z), .string (⟨#[]⟩)], .int .i64 (0)]) (by simp [results, Try.results36, go_sem, f0, f1, f2]) rfl ?_
    exact ⟨rfl, hbF⟩
  have q15 : (op == 15) = false := by simpa using h15
  by_cases h16 : op = 16
  · subst h16
    have hI := fun w => is_spec k a 1 t w
    cases hk : kindIn k 1
    · rw [neg_kind hk]
      rw [hk] at hI
      clear hva hk
      unfold errC
      go_enter Try.func36, Try.ntmps36
      go_wp2_with fail
      have H := frU_new w k a t
      generalize ((w.alloc (.cells #[.int .i64 k, .int .i64 a, .string t] 27)).alloc (.cells #[.int .i64 0, .int .i64 0, .string ⟨#[]⟩] 27)) = V at H ⊢
      obtain ⟨ca0, ca1, ca2⟩ := H.a0.cells
      refine (hV _).mono ?_
      rintro e w1 ⟨rfl, hbn1⟩
      replace H := H.next hbn1
      clear hbn1
      clear ca0 ca1 ca2
      obtain ⟨ca0, ca1, ca2⟩ := H.a0.cells
      go_wp2_with fail
      refine (hI _).mono ?_
      rintro e w2 ⟨rfl, hbn2⟩
      replace H := H.next hbn2
      clear hbn2
      clear ca0 ca1 ca2
      obtain ⟨z0, z1, z2⟩ := H.r0.soft
      obtain ⟨g0, g1, g2⟩ := H.r0.cells
      obtain ⟨f0, f1, f2, hbF⟩ := H.fin (0) (0) (⟨#[]⟩)
      go_wp2_with fail
      rw [put_eq]
      generalize put _ (w.heap.size + 1) (0) (0) (⟨#[]⟩) = wf at f0 f1 f2 hbF ⊢
      refine bodyPost_ret (v := .tuple #[.agg #[.int .i64 (0), .int .i64 (0), .string (⟨#[]⟩)], .int .i64 (1)]) (by simp [results, Try.results36, go_sem, f0, f1, f2]) rfl ?_
      exact ⟨rfl, hbF⟩
    have hN := fun w => null_spec k a t w
    rw [hk] at hI
    by_cases h0 : k = 0
    · subst h0
      have hr := neg_null hva
      obtain ⟨_, rfl, rfl⟩ := not_null hva
      rw [hr]
      clear hva hk hr
      show Calls _ _ _ w (CalcE ⟨0, 0, ⟨#[]⟩, 0⟩ w)
      go_enter Try.func36, Try.ntmps36
      go_wp2_with fail
      have H := frU_new w 0 0 ⟨#[]⟩
      generalize ((w.alloc (.cells #[.int .i64 0, .int .i64 0, .string ⟨#[]⟩] 27)).alloc (.cells #[.int .i64 0, .int .i64 0, .string ⟨#[]⟩] 27)) = V at H ⊢
      obtain ⟨ca0, ca1, ca2⟩ := H.a0.cells
      refine (hV _).mono ?_
      rintro e w1 ⟨rfl, hbn1⟩
      replace H := H.next hbn1
      clear hbn1
      clear ca0 ca1 ca2
      obtain ⟨ca0, ca1, ca2⟩ := H.a0.cells
      go_wp2_with fail
      refine (hI _).mono ?_
      rintro e w2 ⟨rfl, hbn2⟩
      replace H := H.next hbn2
      clear hbn2
      clear ca0 ca1 ca2
      obtain ⟨ca0, ca1, ca2⟩ := H.a0.cells
      go_wp2_with fail
      refine (hN _).mono ?_
      rintro e w3 ⟨rfl, hbn3⟩
      replace H := H.next hbn3
      clear hbn3
      clear ca0 ca1 ca2
      obtain ⟨ca0, ca1, ca2⟩ := H.a0.cells
      obtain ⟨z0, z1, z2⟩ := H.r0.soft
      obtain ⟨g0, g1, g2⟩ := H.r0.cells
      obtain ⟨f0, f1, f2, hbF⟩ := H.fin (0) (0) (⟨#[]⟩)
      go_wp2_with fail
      rw [put_eq]
      generalize put _ (w.heap.size + 1) (0) (0) (⟨#[]⟩) = wf at f0 f1 f2 hbF ⊢
      refine bodyPost_ret (v := .tuple #[.agg #[.int .i64 (0), .int .i64 (0), .string (⟨#[]⟩)], .int .i64 (0)]) (by simp [results, Try.results36, go_sem, f0, f1, f2]) rfl ?_
      exact ⟨rfl, hbF⟩
    obtain rfl : k = 1 := by unfold kindIn at hk; rw [Bool.or_eq_true] at hk; rcases hk with h | h <;> simp at h <;> omega
    rw [neg_num hva]
    clear hva hk h0
    have hS := fun w => subNum_spec 0 a w (by omega) (by omega) ha0 ha1
    have hX := fun w => numC_spec (0 - a) w
    unfold NumR at hS
    generalize outI (0 - a) = x at hS hX
    generalize fits (0 - a) = c at hS hX
    obtain ⟨rk, rn, rt, rc, hE⟩ := CR.eta (numC (0 - a))
    rw [hE] at hX ⊢
    clear hE
    go_enter Try.func36, Try.ntmps36
    go_wp2_with fail
    have H := frU_new w 1 a t
    generalize ((w.alloc (.cells #[.int .i64 1, .int .i64 a, .string t] 27)).alloc (.cells #[.int .i64 0, .int .i64 0, .string ⟨#[]⟩] 27)) = V at H ⊢
    obtain ⟨ca0, ca1, ca2⟩ := H.a0.cells
    refine (hV _).mono ?_
    rintro e w1 ⟨rfl, hbn1⟩
    replace H := H.next hbn1
    clear hbn1
    clear ca0 ca1 ca2
    obtain ⟨ca0, ca1, ca2⟩ := H.a0.cells
    go_wp2_with fail
    refine (hI _).mono ?_
    rintro e w2 ⟨rfl, hbn2⟩
    replace H := H.next hbn2
    clear hbn2
    clear ca0 ca1 ca2
    obtain ⟨ca0, ca1, ca2⟩ := H.a0.cells
    go_wp2_with fail
    refine (hN _).mono ?_
    rintro e w3 ⟨rfl, hbn3⟩
    replace H := H.next hbn3
    clear hbn3
    clear ca0 ca1 ca2
    obtain ⟨ca0, ca1, ca2⟩ := H.a0.cells
    go_wp2_with fail
    refine (hS _).mono ?_
    rintro e w6 ⟨rfl, rfl⟩
    go_wp2_with fail
    refine (hX _).mono ?_
    rintro e w7 ⟨rfl, hbn7⟩
    replace H := H.next hbn7
    clear hbn7
    clear ca0 ca1 ca2
    obtain ⟨z0, z1, z2⟩ := H.r0.soft
    obtain ⟨g0, g1, g2⟩ := H.r0.cells
    obtain ⟨f0, f1, f2, hbF⟩ := H.fin (rk) (rn) (rt)
    go_wp2_with fail
    rw [put_eq]
    generalize put _ (w.heap.size + 1) (rk) (rn) (rt) = wf at f0 f1 f2 hbF ⊢
    refine bodyPost_ret (v := .tuple #[.agg #[.int .i64 (rk), .int .i64 (rn), .string (rt)], .int .i64 (rc)]) (by simp [results, Try.results36, go_sem, f0, f1, f2]) rfl ?_
    exact ⟨rfl, hbF⟩
  have q16 : (op == 16) = false := by simpa using h16
  have hr : unC op k a t = errC 1 := by unfold unC; rw [if_neg h15, if_neg h16]
  rw [hr]
  clear hr hva
  unfold errC
  go_enter Try.func36, Try.ntmps36
  go_wp2_with fail
  have H := frU_new w k a t
  generalize ((w.alloc (.cells #[.int .i64 k, .int .i64 a, .string t] 27)).alloc (.cells #[.int .i64 0, .int .i64 0, .string ⟨#[]⟩] 27)) = V at H ⊢
  obtain ⟨ca0, ca1, ca2⟩ := H.a0.cells
  refine (hV _).mono ?_
  rintro e w1 ⟨rfl, hbn1⟩
  replace H := H.next hbn1
  clear hbn1
  clear ca0 ca1 ca2
  obtain ⟨z0, z1, z2⟩ := H.r0.soft
  obtain ⟨g0, g1, g2⟩ := H.r0.cells
  obtain ⟨f0, f1, f2, hbF⟩ := H.fin (0) (0) (⟨#[]⟩)
  go_wp2_with fail
  rw [put_eq]
  generalize put _ (w.heap.size + 1) (0) (0) (⟨#[]⟩) = wf at f0 f1 f2 hbF ⊢
  refine bodyPost_ret (v := .tuple #[.agg #[.int .i64 (0), .int .i64 (0), .string (⟨#[]⟩)], .int .i64 (1)]) (by simp [results, Try.results36, go_sem, f0, f1, f2]) rfl ?_
  exact ⟨rfl, hbF⟩
end Go.Proofs.Ytjekhgekldkopaa
