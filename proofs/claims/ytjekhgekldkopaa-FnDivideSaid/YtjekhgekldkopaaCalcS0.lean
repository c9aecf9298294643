
/- Contracts of the model's operators. -/
import Derived.Test.YtjekhgekldkopaaCalcDef
import Derived.Test.YtjekhgekldkopaaOpNum
namespace Go.Proofs.Ytjekhgekldkopaa
open Go.RowKit

set_option maxRecDepth 100000 in
set_option maxHeartbeats 1000000 in
theorem null_spec (k a : Int) (t : ByteArray) (w : World) : Calls Try.prog 56 #[.agg #[.int .i64 k, .int .i64 a, .string t]] w (BoolE (k == 0) w) := by
  have hbb := (Below.refl w.heap.size w).alloc (Nat.le_refl _) (.cells #[.int .i64 k, .int .i64 a, .string t] 27)
  go_enter Try.func56, Try.ntmps56
  go_wp2_with fail
  go_ret
  exact ⟨rfl, hbb⟩
set_option maxRecDepth 100000 in
set_option maxHeartbeats 1000000 in
theorem is_spec (k a c : Int) (t : ByteArray) (w : World) : Calls Try.prog 69 #[.agg #[.int .i64 k, .int .i64 a, .string t], .int .i64 c] w (BoolE (kindIn k c) w) := by
  have hbb := (Below.refl w.heap.size w).alloc (Nat.le_refl _) (.cells #[.int .i64 k, .int .i64 a, .string t] 27)
  have hN := fun w => null_spec k a t w
  have hV : kindIn k c = ((k == c) || (k == 0)) := rfl
  rw [hV]
  clear hV
  generalize (k == 0) = y at hN ⊢
  cases hc : (k == c)
  · go_enter Try.func69, Try.ntmps69
    go_wp2_with fail
    refine (hN _).mono ?_
    rintro e w1 ⟨rfl, hb1⟩
    have hB := hbb.trans (hb1.mono (by simp))
    go_wp2_with fail
    go_ret
    exact ⟨rfl, hB⟩
  · go_enter Try.func69, Try.ntmps69
    go_wp2_with fail
    go_ret
    exact ⟨rfl, hbb⟩
set_option maxRecDepth 100000 in
set_option maxHeartbeats 2000000 in
theorem types_spec (op : Int) (k a : Int) (t : ByteArray) (k' a' : Int) (t' : ByteArray) (w : World) (hop : 3 ≤ op) (hop2 : op ≤ 14) : Calls Try.prog 55 #[.int .i64 op, .agg #[.int .i64 k, .int .i64 a, .string t], .agg #[.int .i64 k', .int .i64 a', .string t']] w (BoolE (fitsOp op k k') w) := by
  by_cases h9 : op = 9
  · subst h9
    have hV : fitsOp 9 k k' = (kindIn k 2 && kindIn k' 2) := rfl
    rw [hV]
    clear hV
    have hA := fun w => is_spec k a 2 t w
    have hB := fun w => is_spec k' a' 2 t' w
    generalize kindIn k 2 = x at hA ⊢
    generalize kindIn k' 2 = y at hB ⊢
    cases x
    · go_enter Try.func55, Try.ntmps55
      go_wp2_with fail
      have H := fr2_new w k a t k' a' t'
      generalize ((w.alloc (.cells #[.int .i64 k, .int .i64 a, .string t] 27)).alloc (.cells #[.int .i64 k', .int .i64 a', .string t'] 27)) = V at H ⊢
      obtain ⟨ca0, ca1, ca2⟩ := H.a0.cells
      refine (hA _).mono ?_
      rintro e w1 ⟨rfl, hbn1⟩
      replace H := H.next hbn1
      clear hbn1
      clear ca0 ca1 ca2
      go_wp2_with fail
      go_ret
      exact ⟨rfl, H.b⟩
    · go_enter Try.func55, Try.ntmps55
      go_wp2_with fail
      have H := fr2_new w k a t k' a' t'
      generalize ((w.alloc (.cells #[.int .i64 k, .int .i64 a, .string t] 27)).alloc (.cells #[.int .i64 k', .int .i64 a', .string t'] 27)) = V at H ⊢
      obtain ⟨ca0, ca1, ca2⟩ := H.a0.cells
      refine (hA _).mono ?_
      rintro e w1 ⟨rfl, hbn1⟩
      replace H := H.next hbn1
      clear hbn1
      clear ca0 ca1 ca2
      obtain ⟨cb0, cb1, cb2⟩ := H.b0.cells
      go_wp2_with fail
      refine (hB _).mono ?_
      rintro e w2 ⟨rfl, hbn2⟩
      replace H := H.next hbn2
      clear hbn2
      clear cb0 cb1 cb2
      go_wp2_with fail
      go_ret
      exact ⟨rfl, H.b⟩
  have q9 : (op == 9) = false := by simpa using h9
  by_cases h10 : 10 ≤ op
  · have d10 : decide (10 ≤ op) = true := by simpa using h10
    have hV : fitsOp op k k' = (kindIn k 1 && kindIn k' 1) := by unfold fitsOp; rw [if_neg (by omega), if_neg (by omega), if_neg h9]
    rw [hV]
    clear hV
    have hA := fun w => is_spec k a 1 t w
    have hB := fun w => is_spec k' a' 1 t' w
    generalize kindIn k 1 = x at hA ⊢
    generalize kindIn k' 1 = y at hB ⊢
    cases x
    · go_enter Try.func55, Try.ntmps55
      go_wp2_with fail
      have H := fr2_new w k a t k' a' t'
      generalize ((w.alloc (.cells #[.int .i64 k, .int .i64 a, .string t] 27)).alloc (.cells #[.int .i64 k', .int .i64 a', .string t'] 27)) = V at H ⊢
      obtain ⟨ca0, ca1, ca2⟩ := H.a0.cells
      refine (hA _).mono ?_
      rintro e w1 ⟨rfl, hbn1⟩
      replace H := H.next hbn1
      clear hbn1
      clear ca0 ca1 ca2
      go_wp2_with fail
      go_ret
      exact ⟨rfl, H.b⟩
    · go_enter Try.func55, Try.ntmps55
      go_wp2_with fail
      have H := fr2_new w k a t k' a' t'
      generalize ((w.alloc (.cells #[.int .i64 k, .int .i64 a, .string t] 27)).alloc (.cells #[.int .i64 k', .int .i64 a', .string t'] 27)) = V at H ⊢
      obtain ⟨ca0, ca1, ca2⟩ := H.a0.cells
      refine (hA _).mono ?_
      rintro e w1 ⟨rfl, hbn1⟩
      replace H := H.next hbn1
      clear hbn1
      clear ca0 ca1 ca2
      obtain ⟨cb0, cb1, cb2⟩ := H.b0.cells
      go_wp2_with fail
      refine (hB _).mono ?_
      rintro e w2 ⟨rfl, hbn2⟩
      replace H := H.next hbn2
      clear hbn2
      clear cb0 cb1 cb2
      go_wp2_with fail
      go_ret
      exact ⟨rfl, H.b⟩
  have d10 : decide (10 ≤ op) = false := by simpa using h10
  have hV : fitsOp op k k' = ((k == k') || ((k == 0) || (k' == 0))) := by unfold fitsOp; rw [if_neg (by omega), if_pos (by omega)]
  rw [hV]
  clear hV
  have hA := fun w => null_spec k a t w
  have hB := fun w => null_spec k' a' t' w
  generalize (k == 0) = x at hA ⊢
  generalize (k' == 0) = y at hB ⊢
  cases hk : (k == k')
  · cases x
    · go_enter Try.func55, Try.ntmps55
      go_wp2_with fail
      have H := fr2_new w k a t k' a' t'
      generalize ((w.alloc (.cells #[.int .i64 k, .int .i64 a, .string t] 27)).alloc (.cells #[.int .i64 k', .int .i64 a', .string t'] 27)) = V at H ⊢
      obtain ⟨ca0, ca1, ca2⟩ := H.a0.cells
      refine (hA _).mono ?_
      rintro e w1 ⟨rfl, hbn1⟩
      replace H := H.next hbn1
      clear hbn1
      clear ca0 ca1 ca2
      obtain ⟨cb0, cb1, cb2⟩ := H.b0.cells
      go_wp2_with fail
      refine (hB _).mono ?_
      rintro e w2 ⟨rfl, hbn2⟩
      replace H := H.next hbn2
      clear hbn2
      clear cb0 cb1 cb2
      go_wp2_with fail
      go_ret
      exact ⟨rfl, H.b⟩
    · go_enter Try.func55, Try.ntmps55
      go_wp2_with fail
      have H := fr2_new w k a t k' a' t'
      generalize ((w.alloc (.cells #[.int .i64 k, .int .i64 a, .string t] 27)).alloc (.cells #[.int .i64 k', .int .i64 a', .string t'] 27)) = V at H ⊢
      obtain ⟨ca0, ca1, ca2⟩ := H.a0.cells
      refine (hA _).mono ?_
      rintro e w1 ⟨rfl, hbn1⟩
      replace H := H.next hbn1
      clear hbn1
      clear ca0 ca1 ca2
      obtain ⟨cb0, cb1, cb2⟩ := H.b0.cells
      go_wp2_with fail
      go_ret
      exact ⟨rfl, H.b⟩
  · have H := fr2_new w k a t k' a' t'
    go_enter Try.func55, Try.ntmps55
    go_wp2_with fail
    go_ret
    exact ⟨rfl, H.b⟩
set_option maxRecDepth 100000 in
set_option maxHeartbeats 1000000 in
theorem numC_spec (x : Int) (w : World) : Calls Try.prog 58 #[.int .i64 (outI x), .bool (fits x)] w (CalcE (numC x) w) := by
  cases hf : fits x
  · rw [numC_no hf]
    unfold errC
    generalize outI x = y
    have H := fr1_new w
    go_enter Try.func58, Try.ntmps58
    obtain ⟨f0, f1, f2⟩ := H.r0.cells
    have hbF := H.b
    go_wp2_with fail
    generalize w.alloc (.cells #[.int .i64 0, .int .i64 0, .string ⟨#[]⟩] 27) = wf at f0 f1 f2 hbF ⊢
    refine bodyPost_ret (v := .tuple #[.agg #[.int .i64 (0), .int .i64 (0), .string (⟨#[]⟩)], .int .i64 (2)]) (by simp [results, Try.results58, go_sem, f0, f1, f2]) rfl ?_
    exact ⟨rfl, hbF⟩
  · rw [numC_yes hf]
    have ho : outI x = x := by unfold outI; rw [if_pos hf]
    rw [ho]
    have hI := fun w => intValue_spec x w
    go_enter Try.func58, Try.ntmps58
    go_wp2_with fail
    have H := fr1_new w
    generalize w.alloc (.cells #[.int .i64 0, .int .i64 0, .string ⟨#[]⟩] 27) = V at H ⊢
    refine (hI _).mono ?_
    rintro e w1 ⟨rfl, hbn1⟩
    replace H := H.next hbn1
    clear hbn1
    obtain ⟨z0, z1, z2⟩ := H.r0.soft
    obtain ⟨g0, g1, g2⟩ := H.r0.cells
    obtain ⟨f0, f1, f2, hbF⟩ := H.fin (1) (x) (⟨#[]⟩)
    go_wp2_with fail
    rw [put_eq]
    generalize put _ (w.heap.size) (1) (x) (⟨#[]⟩) = wf at f0 f1 f2 hbF ⊢
    refine bodyPost_ret (v := .tuple #[.agg #[.int .i64 (1), .int .i64 (x), .string (⟨#[]⟩)], .int .i64 (0)]) (by simp [results, Try.results58, go_sem, f0, f1, f2]) rfl ?_
    exact ⟨rfl, hbF⟩
set_option maxRecDepth 100000 in
set_option maxHeartbeats 2000000 in
theorem compare_spec (op o : Int) (w : World) (h3 : 3 ≤ op) (h8 : op ≤ 8) (ho : o = -1 ∨ o = 0 ∨ o = 1) : Calls Try.prog 60 #[.int .i64 op, .int .i64 o] w (PureE (.bool (holdsB op o)) w) := by
  rcases (show op = 3 ∨ op = 4 ∨ op = 5 ∨ op = 6 ∨ op = 7 ∨ op = 8 by omega) with rfl | rfl | rfl | rfl | rfl | rfl <;> rcases ho with rfl | rfl | rfl <;>
  (go_enter Try.func60, Try.ntmps60
   go_wp2_with fail
   go_ret
   exact ⟨rfl, rfl⟩)
end Go.Proofs.Ytjekhgekldkopaa
