
/- The contract of the program's Unary. -/
import Derived.Test.YtjekhgekldkopaaUnDef
import Derived.Test.YtjekhgekldkopaaCalcI
import Derived.Deep.RegionWith
namespace Go.Proofs.Ytjekhgekldkopaa
open Go.RowKit

set_option maxRecDepth 100000 in
set_option maxHeartbeats 8000000 in
theorem unary_impl (op k a : Int) (t : ByteArray) (w : World) (ht : t.size ≤ 9223372036854775807) (ha0 : -9223372036854775808 ≤ a) (ha1 : a ≤ 9223372036854775807) : Calls Try.prog 23 #[.int .i64 op, .agg #[.int .i64 k, .int .i64 a, .string t]] w (CalcE (unC op k a t) w) := by
  by_cases h15 : op = 15
  · subst h15
    have hr : unC 15 k a t = calcC 3 k a t 3 0 ⟨#[]⟩ := rfl
    have hX := fun w => calc_impl 3 k a t 3 0 ⟨#[]⟩ w ht (by decide) ha0 ha1 (by decide) (by decide)
    have hB : ∀ w, Calls Try.prog 21 #[.bool false] w (CopyV 3 0 ⟨#[]⟩ w) := fun w => boolValue_implC false w
    rw [hr]
    clear hr
    obtain ⟨rk, rn, rt, rc, hE⟩ := CR.eta (calcC 3 k a t 3 0 ⟨#[]⟩)
    rw [hE] at hX ⊢
    clear hE
    go_enter Try.func23, Try.ntmps23
    go_wp2_with fail
    have H := frU_new w k a t
    generalize ((w.alloc (.cells #[.int .i64 k, .int .i64 a, .string t] 27)).alloc (.cells #[.int .i64 0, .int .i64 0, .string ⟨#[]⟩] 27)) = V at H ⊢
    have Hd := H.next ((Below.refl V.heap.size V).drew)
    obtain ⟨ca0, ca1, ca2⟩ := Hd.a0.cells
    go_region_with (first
      | (go_at_call 21; refine (hB _).mono ?_; rintro e w1 ⟨rfl, hb1⟩; have H1 := Hd.next hb1; obtain ⟨cb0, cb1, cb2⟩ := H1.a0.cells)
      | (go_at_call 17; refine (hX _).mono ?_; rintro e w2 ⟨rfl, hb2⟩; have H2 := H1.next hb2; obtain ⟨z0, z1, z2⟩ := H2.r0.soft; obtain ⟨g0, g1, g2⟩ := H2.r0.cells; obtain ⟨f0, f1, f2, hbF⟩ := H2.fin rk rn rt))
    all_goals
      go_wp2_with fail
      rw [put_eq]
      generalize put _ (w.heap.size + 1) rk rn rt = wf at f0 f1 f2 hbF ⊢
      refine bodyPost_ret (v := .tuple #[.agg #[.int .i64 rk, .int .i64 rn, .string rt], .int .i64 rc]) (by simp [results, Try.results23, go_sem, f0, f1, f2]) rfl ?_
      exact ⟨rfl, hbF⟩
  have q15 : (op == 15) = false := by simpa using h15
  by_cases h16 : op = 16
  · subst h16
    have hr : unC 16 k a t = calcC 11 1 0 ⟨#[]⟩ k a t := rfl
    have hX := fun w => calc_impl 11 1 0 ⟨#[]⟩ k a t w (by decide) ht (by decide) (by decide) ha0 ha1
    have hB := fun w => intValue_implC 0 w
    rw [hr]
    clear hr
    obtain ⟨rk, rn, rt, rc, hE⟩ := CR.eta (calcC 11 1 0 ⟨#[]⟩ k a t)
    rw [hE] at hX ⊢
    clear hE
    go_enter Try.func23, Try.ntmps23
    go_wp2_with fail
    have H := frU_new w k a t
    generalize ((w.alloc (.cells #[.int .i64 k, .int .i64 a, .string t] 27)).alloc (.cells #[.int .i64 0, .int .i64 0, .string ⟨#[]⟩] 27)) = V at H ⊢
    have Hd := H.next ((Below.refl V.heap.size V).drew)
    obtain ⟨ca0, ca1, ca2⟩ := Hd.a0.cells
    go_region_with (first
      | (go_at_call 18; refine (hB _).mono ?_; rintro e w1 ⟨rfl, hb1⟩; have H1 := Hd.next hb1; obtain ⟨cb0, cb1, cb2⟩ := H1.a0.cells)
      | (go_at_call 17; refine (hX _).mono ?_; rintro e w2 ⟨rfl, hb2⟩; have H2 := H1.next hb2; obtain ⟨z0, z1, z2⟩ := H2.r0.soft; obtain ⟨g0, g1, g2⟩ := H2.r0.cells; obtain ⟨f0, f1, f2, hbF⟩ := H2.fin rk rn rt))
    all_goals
      go_wp2_with fail
      rw [put_eq]
      generalize put _ (w.heap.size + 1) rk rn rt = wf at f0 f1 f2 hbF ⊢
      refine bodyPost_ret (v := .tuple #[.agg #[.int .i64 rk, .int .i64 rn, .string rt], .int .i64 rc]) (by simp [results, Try.results23, go_sem, f0, f1, f2]) rfl ?_
      exact ⟨rfl, hbF⟩
  have q16 : (op == 16) = false := by simpa using h16
  have hr : unC op k a t = errC 1 := by unfold unC; rw [if_neg h15, if_neg h16]
  rw [hr]
  clear hr
  unfold errC
  go_enter Try.func23, Try.ntmps23
  go_wp2_with fail
  have H := frU_new w k a t
  generalize ((w.alloc (.cells #[.int .i64 k, .int .i64 a, .string t] 27)).alloc (.cells #[.int .i64 0, .int .i64 0, .string ⟨#[]⟩] 27)) = V at H ⊢
  obtain ⟨f0, f1, f2⟩ := H.r0.cells
  have hbF := H.b
  refine bodyPost_ret (v := .tuple #[.agg #[.int .i64 0, .int .i64 0, .string ⟨#[]⟩], .int .i64 1]) (by simp [results, Try.results23, go_sem, f0, f1, f2]) rfl ?_
  exact ⟨rfl, hbF⟩
end Go.Proofs.Ytjekhgekldkopaa
