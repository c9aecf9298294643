
/- Contracts of the program's arithmetic on values and of its concatenation. -/
import Derived.Test.YtjekhgekldkopaaCalcI0
import Derived.Test.YtjekhgekldkopaaNumS
namespace Go.Proofs.Ytjekhgekldkopaa
open Go.RowKit

set_option maxRecDepth 100000 in
set_option maxHeartbeats 4000000 in
theorem calcNum_impl (op a b : Int) (w : World) (h1 : 10 ≤ op) (h2 : op ≤ 14) (ha0 : -9223372036854775808 ≤ a) (ha1 : a ≤ 9223372036854775807) (hb0 : -9223372036854775808 ≤ b) (hb1 : b ≤ 9223372036854775807) : Calls Try.prog 51 #[.int .i64 op, .int .i64 a, .int .i64 b] w (CalcE (numOpC op a b) w) := by
  by_cases h10 : op = 10
  · subst h10
    have hV : numOpC 10 a b = numC (a + b) := rfl
    rw [hV]
    clear hV
    have hN := fun w => addNum_impl a b w ha0 ha1 hb0 hb1
    have hC := fun w => numC_impl (a + b) w
    unfold NumR at hN
    generalize outI (a + b) = x at hN hC
    generalize fits (a + b) = c at hN hC
    obtain ⟨rk, rn, rt, rc, hR⟩ := CR.eta (numC (a + b))
    rw [hR] at hC ⊢
    clear hR
    go_enter Try.func51, Try.ntmps51
    go_wp2_with fail
    have H := fr1_new w
    generalize w.alloc (.cells #[.int .i64 0, .int .i64 0, .string ⟨#[]⟩] 27) = V at H ⊢
    refine (hN _).mono ?_
    rintro e w1 ⟨rfl, rfl⟩
    go_wp2_with fail
    refine (hC _).mono ?_
    rintro e w7 ⟨rfl, hbn7⟩
    replace H := H.next hbn7
    clear hbn7
    obtain ⟨z0, z1, z2⟩ := H.r0.soft
    obtain ⟨g0, g1, g2⟩ := H.r0.cells
    obtain ⟨f0, f1, f2, hbF⟩ := H.fin (rk) (rn) (rt)
    go_wp2_with fail
    rw [put_eq]
    generalize put _ (w.heap.size) (rk) (rn) (rt) = wf at f0 f1 f2 hbF ⊢
    refine bodyPost_ret (v := .tuple #[.agg #[.int .i64 (rk), .int .i64 (rn), .string (rt)], .int .i64 (rc)]) (by simp [results, Try.results51, go_sem, f0, f1, f2]) rfl ?_
    exact ⟨rfl, hbF⟩
  by_cases h11 : op = 11
  · subst h11
    have hV : numOpC 11 a b = numC (a - b) := rfl
    rw [hV]
    clear hV
    have hN := fun w => subNum_impl a b w ha0 ha1 hb0 hb1
    have hC := fun w => numC_impl (a - b) w
    unfold NumR at hN
    generalize outI (a - b) = x at hN hC
    generalize fits (a - b) = c at hN hC
    obtain ⟨rk, rn, rt, rc, hR⟩ := CR.eta (numC (a - b))
    rw [hR] at hC ⊢
    clear hR
    go_enter Try.func51, Try.ntmps51
    go_wp2_with fail
    have H := fr1_new w
    generalize w.alloc (.cells #[.int .i64 0, .int .i64 0, .string ⟨#[]⟩] 27) = V at H ⊢
    refine (hN _).mono ?_
    rintro e w1 ⟨rfl, rfl⟩
    go_wp2_with fail
    refine (hC _).mono ?_
    rintro e w7 ⟨rfl, hbn7⟩
    replace H := H.next hbn7
    clear hbn7
    obtain ⟨z0, z1, z2⟩ := H.r0.soft
    obtain ⟨g0, g1, g2⟩ := H.r0.cells
    obtain ⟨f0, f1, f2, hbF⟩ := H.fin (rk) (rn) (rt)
    go_wp2_with fail
    rw [put_eq]
    generalize put _ (w.heap.size) (rk) (rn) (rt) = wf at f0 f1 f2 hbF ⊢
    refine bodyPost_ret (v := .tuple #[.agg #[.int .i64 (rk), .int .i64 (rn), .string (rt)], .int .i64 (rc)]) (by simp [results, Try.results51, go_sem, f0, f1, f2]) rfl ?_
    exact ⟨rfl, hbF⟩
  by_cases h12 : op = 12
  · subst h12
    have hV : numOpC 12 a b = numC (a * b) := rfl
    rw [hV]
    clear hV
    have hN := fun w => mulNum_impl a b w ha0 ha1 hb0 hb1
    have hC := fun w => numC_impl (a * b) w
    unfold NumR at hN
    generalize outI (a * b) = x at hN hC
    generalize fits (a * b) = c at hN hC
    obtain ⟨rk, rn, rt, rc, hR⟩ := CR.eta (numC (a * b))
    rw [hR] at hC ⊢
    clear hR
    go_enter Try.func51, Try.ntmps51
    go_wp2_with fail
    have H := fr1_new w
    generalize w.alloc (.cells #[.int .i64 0, .int .i64 0, .string ⟨#[]⟩] 27) = V at H ⊢
    refine (hN _).mono ?_
    rintro e w1 ⟨rfl, rfl⟩
    go_wp2_with fail
    refine (hC _).mono ?_
    rintro e w7 ⟨rfl, hbn7⟩
    replace H := H.next hbn7
    clear hbn7
    obtain ⟨z0, z1, z2⟩ := H.r0.soft
    obtain ⟨g0, g1, g2⟩ := H.r0.cells
    obtain ⟨f0, f1, f2, hbF⟩ := H.fin (rk) (rn) (rt)
    go_wp2_with fail
    rw [put_eq]
    generalize put _ (w.heap.size) (rk) (rn) (rt) = wf at f0 f1 f2 hbF ⊢
    refine bodyPost_ret (v := .tuple #[.agg #[.int .i64 (rk), .int .i64 (rn), .string (rt)], .int .i64 (rc)]) (by simp [results, Try.results51, go_sem, f0, f1, f2]) rfl ?_
    exact ⟨rfl, hbF⟩
  have hO : numOpC op a b = if b = 0 then errC 3 else if op = 13 then numC (a.tdiv b) else numC (a.tmod b) := by unfold numOpC; rw [if_neg (by omega), if_neg (by omega), if_neg (by omega)]
  rw [hO]
  clear hO
  by_cases hb : b = 0
  · subst hb
    rw [if_pos rfl]
    unfold errC
    go_enter Try.func51, Try.ntmps51
    have H := fr1_new w
    obtain ⟨f0, f1, f2⟩ := H.r0.cells
    have hbF := H.b
    go_wp2_with fail
    generalize w.alloc (.cells #[.int .i64 0, .int .i64 0, .string ⟨#[]⟩] 27) = wf at f0 f1 f2 hbF ⊢
    refine bodyPost_ret (v := .tuple #[.agg #[.int .i64 (0), .int .i64 (0), .string (⟨#[]⟩)], .int .i64 (3)]) (by simp [results, Try.results51, go_sem, f0, f1, f2]) rfl ?_
    exact ⟨rfl, hbF⟩
  rw [if_neg hb]
  have qb : (b == 0) = false := by simpa using hb
  by_cases h13 : op = 13
  · subst h13
    rw [if_pos rfl]
    by_cases hm : b = -1
    · subst hm
      rw [tdiv_m1]
      have hN := fun w => subNum_impl 0 a w (by omega) (by omega) ha0 ha1
      have hC := fun w => numC_impl (0 - a) w
      unfold NumR at hN
      generalize outI (0 - a) = x at hN hC
      generalize fits (0 - a) = c at hN hC
      obtain ⟨rk, rn, rt, rc, hR⟩ := CR.eta (numC (0 - a))
      rw [hR] at hC ⊢
      clear hR
      go_enter Try.func51, Try.ntmps51
      go_wp2_with fail
      have H := fr1_new w
      generalize w.alloc (.cells #[.int .i64 0, .int .i64 0, .string ⟨#[]⟩] 27) = V at H ⊢
      refine (hN _).mono ?_
      rintro e w1 ⟨rfl, rfl⟩
      go_wp2_with fail
      refine (hC _).mono ?_
      rintro e w7 ⟨rfl, hbn7⟩
      replace H := H.next hbn7
      clear hbn7
      obtain ⟨z0, z1, z2⟩ := H.r0.soft
      obtain ⟨g0, g1, g2⟩ := H.r0.cells
      obtain ⟨f0, f1, f2, hbF⟩ := H.fin (rk) (rn) (rt)
      go_wp2_with fail
      rw [put_eq]
      generalize put _ (w.heap.size) (rk) (rn) (rt) = wf at f0 f1 f2 hbF ⊢
      refine bodyPost_ret (v := .tuple #[.agg #[.int .i64 (rk), .int .i64 (rn), .string (rt)], .int .i64 (rc)]) (by simp [results, Try.results51, go_sem, f0, f1, f2]) rfl ?_
      exact ⟨rfl, hbF⟩
    have qm : (b == -1) = false := by simpa using hm
    obtain ⟨q0, q1⟩ := quo_fits ⟨ha0, ha1⟩ hb hm
    rw [numC_yes (fits_iff.2 ⟨q0, q1⟩)]
    have hI := fun w => intValue_implC (a.tdiv b) w
    go_enter Try.func51, Try.ntmps51
    go_wp2_with fail
    have H := fr1_new w
    generalize w.alloc (.cells #[.int .i64 0, .int .i64 0, .string ⟨#[]⟩] 27) = V at H ⊢
    refine (hI _).mono ?_
    rintro e w1 ⟨rfl, hbn1⟩
    replace H := H.next hbn1
    clear hbn1
    obtain ⟨z0, z1, z2⟩ := H.r0.soft
    obtain ⟨g0, g1, g2⟩ := H.r0.cells
    obtain ⟨f0, f1, f2, hbF⟩ := H.fin (1) (a.tdiv b) (⟨#[]⟩)
    go_wp2_with fail
    rw [put_eq]
    generalize put _ (w.heap.size) (1) (a.tdiv b) (⟨#[]⟩) = wf at f0 f1 f2 hbF ⊢
    refine bodyPost_ret (v := .tuple #[.agg #[.int .i64 (1), .int .i64 (a.tdiv b), .string (⟨#[]⟩)], .int .i64 (0)]) (by simp [results, Try.results51, go_sem, f0, f1, f2]) rfl ?_
    exact ⟨rfl, hbF⟩
  obtain rfl : op = 14 := by omega
  rw [if_neg h13]
  obtain ⟨q0, q1⟩ := tmod_fits (a := a) hb hb0 hb1
  rw [numC_yes (fits_iff.2 ⟨q0, q1⟩)]
  have hI := fun w => intValue_implC (a.tmod b) w
  go_enter Try.func51, Try.ntmps51
  go_wp2_with fail
  have H := fr1_new w
  generalize w.alloc (.cells #[.int .i64 0, .int .i64 0, .string ⟨#[]⟩] 27) = V at H ⊢
  refine (hI _).mono ?_
  rintro e w1 ⟨rfl, hbn1⟩
  replace H := H.next hbn1
  clear hbn1
  obtain ⟨z0, z1, z2⟩ := H.r0.soft
  obtain ⟨g0, g1, g2⟩ := H.r0.cells
  obtain ⟨f0, f1, f2, hbF⟩ := H.fin (1) (a.tmod b) (⟨#[]⟩)
  go_wp2_with fail
  rw [put_eq]
  generalize put _ (w.heap.size) (1) (a.tmod b) (⟨#[]⟩) = wf at f0 f1 f2 hbF ⊢
  refine bodyPost_ret (v := .tuple #[.agg #[.int .i64 (1), .int .i64 (a.tmod b), .string (⟨#[]⟩)], .int .i64 (0)]) (by simp [results, Try.results51, go_sem, f0, f1, f2]) rfl ?_
  exact ⟨rfl, hbF⟩
set_option maxRecDepth 100000 in
set_option maxHeartbeats 1000000 in
theorem concat_impl (t t' : ByteArray) (w : World) (ht : t.size ≤ 200) (ht' : t'.size ≤ 200) : Calls Try.prog 50 #[.string t, .string t'] w (CalcE (catC t t') w) := by
  unfold catC
  by_cases h : t.size + t'.size ≤ 200
  · rw [if_pos h]
    have hd : decide (200 < (t.size : Int) + (t'.size : Int)) = false := by simp; omega
    have hI := fun w => textValue_implC (t ++ t') w
    clear h
    go_enter Try.func50, Try.ntmps50
    go_wp2_with fail
    have H := fr1_new w
    generalize w.alloc (.cells #[.int .i64 0, .int .i64 0, .string ⟨#[]⟩] 27) = V at H ⊢
    refine (hI _).mono ?_
    rintro e w1 ⟨rfl, hbn1⟩
    replace H := H.next hbn1
    clear hbn1
    obtain ⟨z0, z1, z2⟩ := H.r0.soft
    obtain ⟨g0, g1, g2⟩ := H.r0.cells
    obtain ⟨f0, f1, f2, hbF⟩ := H.fin (2) (0) (t ++ t')
    go_wp2_with fail
    rw [put_eq]
    generalize put _ (w.heap.size) (2) (0) (t ++ t') = wf at f0 f1 f2 hbF ⊢
    refine bodyPost_ret (v := .tuple #[.agg #[.int .i64 (2), .int .i64 (0), .string (t ++ t')], .int .i64 (0)]) (by simp [results, Try.results50, go_sem, f0, f1, f2]) rfl ?_
    exact ⟨rfl, hbF⟩
  · rw [if_neg h]
    unfold errC
    have hd : decide (200 < (t.size : Int) + (t'.size : Int)) = true := by simp; omega
    clear h
    go_enter Try.func50, Try.ntmps50
    have H := fr1_new w
    obtain ⟨f0, f1, f2⟩ := H.r0.cells
    have hbF := H.b
    go_wp2_with fail
    generalize w.alloc (.cells #[.int .i64 0, .int .i64 0, .string ⟨#[]⟩] 27) = wf at f0 f1 f2 hbF ⊢
    refine bodyPost_ret (v := .tuple #[.agg #[.int .i64 (0), .int .i64 (0), .string (⟨#[]⟩)], .int .i64 (2)]) (by simp [results, Try.results50, go_sem, f0, f1, f2]) rfl ?_
    exact ⟨rfl, hbF⟩
end Go.Proofs.Ytjekhgekldkopaa
