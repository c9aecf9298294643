/- Joined texts: SameQ. -/
import Derived.Test.YtcliijfdlcagoaaGreatQHSameE
namespace Go.Proofs.YtcliijfdlcagoaaGreat
set_option linter.unusedVariables false
set_option linter.unusedSimpArgs false
open Go.RowKit
theorem sameR_item {c c' : Nat → Dat} {x0 y0 : Bool} {x1 y1 x12 y12 : ByteArray} (e0 : c 0 = .v (.bool x0)) (l0 : c' 0 = .v (.bool y0)) (e1 : c 1 = .v (.string x1)) (l1 : c' 1 = .v (.string y1)) (e12 : c 12 = .v (.string x12)) (l12 : c' 12 = .v (.string y12)) :
    sameC (rowTy .items) c c' = ((x0 == y0) && (decide (x1 = y1) && (decide (x12 = y12) && sameC exprTy (cut 2 c) (cut 2 c')))) := by
  unfold sameC
  simp only [rowTy, exprTy, List.length_cons, List.length_nil, List.length_append, Nat.zero_add, Nat.reduceAdd, List.range_succ, List.range_zero, List.nil_append, List.cons_append, List.all_cons, List.all_nil, Bool.and_true, List.getD_cons_succ, List.getD_cons_zero, cut, e0, l0, e1, l1, e12, l12, same_bool, same_str, Bool.and_assoc]
  congr 2
  rw [Bool.and_comm (decide (x12 = y12))]
  simp only [Bool.and_assoc]
theorem sameR_source {c c' : Nat → Dat} {x0 y0 x1 y1 : ByteArray} (e0 : c 0 = .v (.string x0)) (l0 : c' 0 = .v (.string y0)) (e1 : c 1 = .v (.string x1)) (l1 : c' 1 = .v (.string y1)) :
    sameC (rowTy .sources) c c' = (decide (x0 = y0) && (decide (x1 = y1) && same (c 2) (c' 2) .exprs)) := by
  unfold sameC
  simp only [rowTy, List.length_cons, List.length_nil, Nat.zero_add, Nat.reduceAdd, List.range_succ, List.range_zero, List.nil_append, List.cons_append, List.all_cons, List.all_nil, Bool.and_true, List.getD_cons_succ, List.getD_cons_zero, e0, l0, e1, l1, same_str, Bool.and_assoc]
theorem sameR_key {c c' : Nat → Dat} {x10 y10 : Bool} (e10 : c 10 = .v (.bool x10)) (l10 : c' 10 = .v (.bool y10)) :
    sameC (rowTy .keys) c c' = ((x10 == y10) && sameC exprTy c c') := by
  unfold sameC
  simp only [rowTy, exprTy, List.length_cons, List.length_nil, List.length_append, Nat.zero_add, Nat.reduceAdd, List.range_succ, List.range_zero, List.nil_append, List.cons_append, List.all_cons, List.all_nil, Bool.and_true, List.getD_cons_succ, List.getD_cons_zero, e10, l10, same_bool, Bool.and_assoc]
  rw [Bool.and_comm (x10 == y10)]
  simp only [Bool.and_assoc]
theorem sameR_query {c c' : Nat → Dat} {x0 y0 : Bool} {x5 y5 : Int} (e0 : c 0 = .v (.bool x0)) (l0 : c' 0 = .v (.bool y0)) (e5 : c 5 = .v (.int .i64 x5)) (l5 : c' 5 = .v (.int .i64 y5)) :
    sameC (rowTy .queries) c c' = ((x0 == y0) && (same (c 1) (c' 1) .items && (same (c 2) (c' 2) .sources && (same (c 3) (c' 3) .exprs && (same (c 4) (c' 4) .keys && (x5 == y5)))))) := by
  unfold sameC
  simp only [rowTy, List.length_cons, List.length_nil, Nat.zero_add, Nat.reduceAdd, List.range_succ, List.range_zero, List.nil_append, List.cons_append, List.all_cons, List.all_nil, Bool.and_true, List.getD_cons_succ, List.getD_cons_zero, e0, l0, e5, l5, same_bool, same_int, Bool.and_assoc]
set_option maxRecDepth 100000 in
set_option maxHeartbeats 16000000 in
theorem sameQuery_step (q q' : Nat → Dat) (n1 n2 n4 n1' n2' n4' : Nat) (f1 f2 f4 f1' f2' f4' : Nat → Nat → Dat) (h1 : q 1 = .sl n1 13 f1) (h2 : q 2 = .sl n2 3 f2) (h4 : q 4 = .sl n4 11 f4) (h1' : q' 1 = .sl n1' 13 f1') (h2' : q' 2 = .sl n2' 3 f2') (h4' : q' 4 = .sl n4' 11 f4')
    (hK : SameSP (q 3) (q' 3)) (IH1 : ∀ i, i < n1 → SameExprP (cut 2 (f1 i)) (cut 2 (f1' i))) (IH2 : ∀ i, i < n2 → SameSP (f2 i 2) (f2' i 2)) (IH4 : ∀ i, i < n4 → SameExprP (f4 i) (f4' i)) : SameQueryP q q' := by
  intro x0 x1 x2 x3 x4 x5 y0 y1 y2 y3 y4 y5 w e0 l0 e5 l5 r1 q1 r2 q2 r3 q3 r4 q4 s1 t1 s2 t2 s3 t3 s4 t4
  rw [sameR_query e0 l0 e5 l5]
  clear e0 l0 e5 l5
  rw [h1] at r1 q1
  rw [h2] at r2 q2
  rw [h4] at r4 q4
  rw [h1'] at s1 t1
  rw [h2'] at s2 t2
  rw [h4'] at s4 t4
  rw [h1, h1', h2, h2', h4, h4', same_sl, same_sl, same_sl]
  obtain ⟨a1, p1, rfl⟩ := r1.slice
  obtain ⟨a2, p2, rfl⟩ := r2.slice
  obtain ⟨a4, p4, rfl⟩ := r4.slice
  obtain ⟨a1', p1', rfl⟩ := s1.slice
  obtain ⟨a2', p2', rfl⟩ := s2.slice
  obtain ⟨a4', p4', rfl⟩ := s4.slice
  obtain ⟨a3, n3, p3, rfl⟩ := r3.slice_of q3 rfl
  obtain ⟨a3', n3', p3', rfl⟩ := s3.slice_of t3 rfl
  have hn1 := q1.2.1
  have hn2 := q2.2.1
  have hn4 := q4.2.1
  by_cases g0 : x0 = y0
  case neg =>
    have hv : ((x0 == y0) && (((n1 == n1') && (List.range n1).all fun i => sameC (rowTy .items) (f1 i) (f1' i)) && (((n2 == n2') && (List.range n2).all fun i => sameC (rowTy .sources) (f2 i) (f2' i)) && (same (q 3) (q' 3) .exprs && (((n4 == n4') && (List.range n4).all fun i => sameC (rowTy .keys) (f4 i) (f4' i)) && (x5 == y5)))))) = false := by simp [g0]
    rw [hv]
    clear hv hK IH1 IH2 IH4
    have d : (x0 != y0) = true := by simpa using g0
    go_enter Tryz.func33, Tryz.ntmps33
    go_wp2_with fail
    go_ret
    exact ⟨rfl, ((Below.refl _ _).alloc (Nat.le_refl _) _).alloc (by simp) _⟩
  obtain rfl := g0
  by_cases g5 : x5 = y5
  case neg =>
    have hv : ((x0 == x0) && (((n1 == n1') && (List.range n1).all fun i => sameC (rowTy .items) (f1 i) (f1' i)) && (((n2 == n2') && (List.range n2).all fun i => sameC (rowTy .sources) (f2 i) (f2' i)) && (same (q 3) (q' 3) .exprs && (((n4 == n4') && (List.range n4).all fun i => sameC (rowTy .keys) (f4 i) (f4' i)) && (x5 == y5)))))) = false := by simp [g5]
    rw [hv]
    clear hv hK IH1 IH2 IH4
    have d : (x5 != y5) = true := by simpa using g5
    go_enter Tryz.func33, Tryz.ntmps33
    go_wp2_with fail
    go_ret
    exact ⟨rfl, ((Below.refl _ _).alloc (Nat.le_refl _) _).alloc (by simp) _⟩
  obtain rfl := g5
  by_cases g1 : n1 = n1'
  case neg =>
    have hv : ((x0 == x0) && (((n1 == n1') && (List.range n1).all fun i => sameC (rowTy .items) (f1 i) (f1' i)) && (((n2 == n2') && (List.range n2).all fun i => sameC (rowTy .sources) (f2 i) (f2' i)) && (same (q 3) (q' 3) .exprs && (((n4 == n4') && (List.range n4).all fun i => sameC (rowTy .keys) (f4 i) (f4' i)) && (x5 == x5)))))) = false := by simp [g1]
    rw [hv]
    clear hv hK IH1 IH2 IH4
    have d : ((n1 : Int) != (n1' : Int)) = true := by simp; omega
    go_enter Tryz.func33, Tryz.ntmps33
    go_wp2_with fail
    go_ret
    exact ⟨rfl, ((Below.refl _ _).alloc (Nat.le_refl _) _).alloc (by simp) _⟩
  subst g1
  by_cases g2 : n2 = n2'
  case neg =>
    have hv : ((x0 == x0) && (((n1 == n1) && (List.range n1).all fun i => sameC (rowTy .items) (f1 i) (f1' i)) && (((n2 == n2') && (List.range n2).all fun i => sameC (rowTy .sources) (f2 i) (f2' i)) && (same (q 3) (q' 3) .exprs && (((n4 == n4') && (List.range n4).all fun i => sameC (rowTy .keys) (f4 i) (f4' i)) && (x5 == x5)))))) = false := by simp [g2]
    rw [hv]
    clear hv hK IH1 IH2 IH4
    have d : ((n2 : Int) != (n2' : Int)) = true := by simp; omega
    go_enter Tryz.func33, Tryz.ntmps33
    go_wp2_with fail
    go_ret
    exact ⟨rfl, ((Below.refl _ _).alloc (Nat.le_refl _) _).alloc (by simp) _⟩
  subst g2
  by_cases g4 : n4 = n4'
  case neg =>
    have hv : ((x0 == x0) && (((n1 == n1) && (List.range n1).all fun i => sameC (rowTy .items) (f1 i) (f1' i)) && (((n2 == n2) && (List.range n2).all fun i => sameC (rowTy .sources) (f2 i) (f2' i)) && (same (q 3) (q' 3) .exprs && (((n4 == n4') && (List.range n4).all fun i => sameC (rowTy .keys) (f4 i) (f4' i)) && (x5 == x5)))))) = false := by simp [g4]
    rw [hv]
    clear hv hK IH1 IH2 IH4
    have d : ((n4 : Int) != (n4' : Int)) = true := by simp; omega
    go_enter Tryz.func33, Tryz.ntmps33
    go_wp2_with fail
    go_ret
    exact ⟨rfl, ((Below.refl _ _).alloc (Nat.le_refl _) _).alloc (by simp) _⟩
  subst g4
  have hS : ((x0 == x0) && (((n1 == n1) && (List.range n1).all fun i => sameC (rowTy .items) (f1 i) (f1' i)) && (((n2 == n2) && (List.range n2).all fun i => sameC (rowTy .sources) (f2 i) (f2' i)) && (same (q 3) (q' 3) .exprs && (((n4 == n4) && (List.range n4).all fun i => sameC (rowTy .keys) (f4 i) (f4' i)) && (x5 == x5)))))) = (same (q 3) (q' 3) .exprs && (((List.range n1).all fun i => sameC (rowTy .items) (f1 i) (f1' i)) && (((List.range n2).all fun i => sameC (rowTy .sources) (f2 i) (f2' i)) && ((List.range n4).all fun i => sameC (rowTy .keys) (f4 i) (f4' i))))) := by
    simp only [beq_self_eq_true, Bool.true_and, Bool.and_true]
    cases same (q 3) (q' 3) .exprs <;> simp
  rw [hS]
  clear hS
  have hK2 := fun (v : World) (h : Below w.heap.size w v) => hK (.slice a3 n3 p3) (.slice a3' n3' p3') v (Rd.later r3 h) q3 (Rd.later s3 h) t3
  clear hK
  have hA := (RowAt.new w 39 #[.bool x0, .slice a1 n1 p1, .slice a2 n2 p2, .slice a3 n3 p3, .slice a4 n4 p4, .int .i64 x5]).alloc (.cells #[.bool x0, .slice a1' n1 p1', .slice a2' n2 p2', .slice a3' n3' p3', .slice a4' n4 p4', .int .i64 x5] 39)
  have hC := RowAt.new1 w (.cells #[.bool x0, .slice a1 n1 p1, .slice a2 n2 p2, .slice a3 n3 p3, .slice a4 n4 p4, .int .i64 x5] 39) 39 #[.bool x0, .slice a1' n1 p1', .slice a2' n2 p2', .slice a3' n3' p3', .slice a4' n4 p4', .int .i64 x5]
  have hB := ((Below.refl w.heap.size w).alloc (Nat.le_refl _) (.cells #[.bool x0, .slice a1 n1 p1, .slice a2 n2 p2, .slice a3 n3 p3, .slice a4 n4 p4, .int .i64 x5] 39)).alloc (by simp) (.cells #[.bool x0, .slice a1' n1 p1', .slice a2' n2 p2', .slice a3' n3' p3', .slice a4' n4 p4', .int .i64 x5] 39)
  cases hk : same (q 3) (q' 3) .exprs
  case false =>
    simp only [hk] at hK2
    rw [Bool.false_and]
    clear hk IH1 IH2 IH4
    go_enter Tryz.func33, Tryz.ntmps33
    go_wp2_with fail
    generalize (w.alloc (.cells #[.bool x0, .slice a1 n1 p1, .slice a2 n2 p2, .slice a3 n3 p3, .slice a4 n4 p4, .int .i64 x5] 39)).alloc (.cells #[.bool x0, .slice a1' n1 p1', .slice a2' n2 p2', .slice a3' n3' p3', .slice a4' n4 p4', .int .i64 x5] 39) = w0 at hA hC hB ⊢
    refine (hK2 _ hB).mono ?_
    rintro e w1 ⟨rfl, hb⟩
    have hbb := hB.trans (hb.mono hB.size)
    go_wp2_with fail
    go_ret
    exact ⟨rfl, hbb⟩
  simp only [hk] at hK2
  rw [Bool.true_and]
  clear hk
  go_enter Tryz.func33, Tryz.ntmps33
  go_wp2_with fail
  generalize (w.alloc (.cells #[.bool x0, .slice a1 n1 p1, .slice a2 n2 p2, .slice a3 n3 p3, .slice a4 n4 p4, .int .i64 x5] 39)).alloc (.cells #[.bool x0, .slice a1' n1 p1', .slice a2' n2 p2', .slice a3' n3' p3', .slice a4' n4 p4', .int .i64 x5] 39) = w0 at hA hC hB ⊢
  refine (hK2 _ hB).mono ?_
  rintro e w1 ⟨rfl, hb⟩
  replace hA := hA.later hb
  replace hC := hC.later hb
  replace hB := hB.trans (hb.mono hB.size)
  clear hb hK2
  go_wp2_with fail
  go_loopw [5] (fun i wr => ∃ j : Nat, j ≤ n1 ∧ i = .int .i64 (j : Int) ∧ Hid (((List.range j).all fun i => sameC (rowTy .items) (f1 i) (f1' i)) = true) ∧ RowAt wr w.heap.size 39 #[.bool x0, .slice a1 n1 p1, .slice a2 n2 p2, .slice a3 n3 p3, .slice a4 n4 p4, .int .i64 x5] ∧ RowAt wr (w.heap.size + 1) 39 #[.bool x0, .slice a1' n1 p1', .slice a2' n2 p2', .slice a3' n3' p3', .slice a4' n4 p4', .int .i64 x5] ∧ Below w.heap.size w wr) (fun i _ => n1 - (intOf i).toNat)
  case atStart => exact ⟨0, by omega, rfl, rfl, hA, hC, hB⟩
  case round =>
    obtain ⟨j, hj, rfl, HA, hA, hC, hB⟩ := hrel
    have ba := hA.cell (i := 1) (v := .slice a1 n1 p1) rfl
    have bc := hC.cell (i := 1) (v := .slice a1' n1 p1') rfl
    have hlA : w.heap.size < wr.heap.size := hA.lt
    have hlC : w.heap.size + 1 < wr.heap.size := hC.lt
    by_cases hlt : j < n1
    · have hlt2 : (j : Int) < (n1 : Int) := by omega
      obtain ⟨g, o, rfl, -, hg, u0, u1, u2, u3, u4, u5, u6, u7, u8, u9, u10, u11, u12, ⟨z0, z1, z2, z3, z4, z5, z6, z7, z8, z9, z10, z11, z12⟩, ⟨e0, ⟨e1, b1⟩, ⟨e2, b2⟩, ⟨e3, b3⟩, e4, ⟨e5, b5⟩, ⟨e6, b6⟩, ⟨e7, b7⟩, ⟨e8, b8⟩, ⟨e9, b9⟩, ⟨ra10, qa10⟩, ⟨ra11, qa11⟩, ⟨e12, b12⟩⟩⟩ := row_items (r1.later hB) q1 hlt
      obtain ⟨g2, o2, rfl, -, hg2, v0, v1, v2, v3, v4, v5, v6, v7, v8, v9, v10, v11, v12, ⟨k0, k1, k2, k3, k4, k5, k6, k7, k8, k9, k10, k11, k12⟩, ⟨l0, ⟨l1, m1⟩, ⟨l2, m2⟩, ⟨l3, m3⟩, l4, ⟨l5, m5⟩, ⟨l6, m6⟩, ⟨l7, m7⟩, ⟨l8, m8⟩, ⟨l9, m9⟩, ⟨rc10, qc10⟩, ⟨rc11, qc11⟩, ⟨l12, m12⟩⟩⟩ := row_items (s1.later hB) t1 hlt
      obtain ⟨ua, un, up, rfl⟩ := ra10.slice_of qa10 rfl
      obtain ⟨ub, um, uq, rfl⟩ := ra11.slice_of qa11 rfl
      obtain ⟨va, vn, vp, rfl⟩ := rc10.slice_of qc10 rfl
      obtain ⟨vb, vm, vq, rfl⟩ := rc11.slice_of qc11 rfl
      have HL := Lib.hid (sameR_item e0 l0 e1 l1 e12 l12)
      have hE := fun (v : World) (h : Below wr.heap.size wr v) => IH1 j hlt u2 u3 u4 u5 u6 u7 u8 u9 (.slice ua un up) (.slice ub um uq) v2 v3 v4 v5 v6 v7 v8 v9 (.slice va vn vp) (.slice vb vm vq) v (Rd.later ra10 h) qa10 (Rd.later ra11 h) qa11 (Rd.later rc10 h) qc10 (Rd.later rc11 h) qc11
      simp only [← sameC_expr (c := cut 2 (f1 j)) (c' := cut 2 (f1' j)) e2 l2 e3 l3 e4 l4 e5 l5 e6 l6 e7 l7 e8 l8 e9 l9] at hE
      have hbb := (hB.alloc hB.size (.cells #[.bool u0, .string u1, .int .i64 u2, .int .i64 u3, .bool u4, .int .i64 u5, .int .i64 u6, .string u7, .string u8, .string u9, .slice ua un up, .slice ub um uq, .string u12] 111)).alloc (by have := hB.size; simp; omega) (.cells #[.bool v0, .string v1, .int .i64 v2, .int .i64 v3, .bool v4, .int .i64 v5, .int .i64 v6, .string v7, .string v8, .string v9, .slice va vn vp, .slice vb vm vq, .string v12] 111)
      clear e0 l0 e1 l1 e2 l2 e3 l3 e4 l4 e5 l5 e6 l6 e7 l7 e8 l8 e9 l9 e12 l12
      by_cases g0 : u0 = v0
      case neg =>
        have d : (u0 != v0) = true := by simpa using g0
        go_wp2_with fail
        go_ret
        refine ⟨?_, hbb⟩
        have h : ((List.range n1).all fun i => sameC (rowTy .items) (f1 i) (f1' i)) = false := by
          rw [List.all_eq_false]
          exact ⟨j, List.mem_range.2 hlt, by rw [HL.out]; simp [g0]⟩
        rw [h]
        simp
      obtain rfl := g0
      by_cases g1 : u1 = v1
      case neg =>
        have d := str_ne g1
        have d2 := str_ne2 g1
        go_wp2_with fail
        go_ret
        refine ⟨?_, hbb⟩
        have h : ((List.range n1).all fun i => sameC (rowTy .items) (f1 i) (f1' i)) = false := by
          rw [List.all_eq_false]
          exact ⟨j, List.mem_range.2 hlt, by rw [HL.out]; simp [g1]⟩
        rw [h]
        simp
      obtain rfl := g1
      by_cases g12 : u12 = v12
      case neg =>
        have d := str_ne g12
        have d2 := str_ne2 g12
        go_wp2_with fail
        go_ret
        refine ⟨?_, hbb⟩
        have h : ((List.range n1).all fun i => sameC (rowTy .items) (f1 i) (f1' i)) = false := by
          rw [List.all_eq_false]
          exact ⟨j, List.mem_range.2 hlt, by rw [HL.out]; simp [g12]⟩
        rw [h]
        simp
      obtain rfl := g12
      have hbn := ((Below.refl wr.heap.size wr).alloc (Nat.le_refl _) (.cells #[.bool u0, .string u1, .int .i64 u2, .int .i64 u3, .bool u4, .int .i64 u5, .int .i64 u6, .string u7, .string u8, .string u9, .slice ua un up, .slice ub um uq, .string u12] 111)).alloc (by simp) (.cells #[.bool u0, .string u1, .int .i64 v2, .int .i64 v3, .bool v4, .int .i64 v5, .int .i64 v6, .string v7, .string v8, .string v9, .slice va vn vp, .slice vb vm vq, .string u12] 111)
      cases hV : sameC exprTy (cut 2 (f1 j)) (cut 2 (f1' j))
      all_goals
        rw [hV] at hE
        have HV2 := Lib.hid hV
        clear hV
        have hA2 := hA.later hbn
        have hC2 := hC.later hbn
        go_wp2_with fail
        refine (hE _ hbn).mono ?_
        rintro e w2 ⟨rfl, hb⟩
        replace hA2 := hA2.later hb
        replace hC2 := hC2.later hb
        replace hbb := hbb.trans (hb.mono hbb.size)
        clear hE hb hbn hA hC
      · go_wp2_with fail
        go_ret
        refine ⟨?_, hbb⟩
        have h : ((List.range n1).all fun i => sameC (rowTy .items) (f1 i) (f1' i)) = false := by
          rw [List.all_eq_false]
          exact ⟨j, List.mem_range.2 hlt, by rw [HL.out, HV2.out]; simp⟩
        rw [h]
        simp
      · have HA2 : Hid (((List.range (j + 1)).all fun i => sameC (rowTy .items) (f1 i) (f1' i)) = true) := by show _ = true; rw [all_succ, HA.out, HL.out, HV2.out]; simp
        go_wp2_with fail
        go_roundw
        case rel => exact ⟨j + 1, by omega, by go_num, HA2, hA2, hC2, hbb⟩
        case measure => simp [intOf]; omega
    · obtain rfl : n1 = j := by omega
      have HT1 := HA
      go_wp2_with fail
      clear hlt hj HA ba bc hlA hlC
      go_loopw [8] (fun i wr => ∃ j : Nat, j ≤ n2 ∧ i = .int .i64 (j : Int) ∧ Hid (((List.range j).all fun i => sameC (rowTy .sources) (f2 i) (f2' i)) = true) ∧ RowAt wr w.heap.size 39 #[.bool x0, .slice a1 n1 p1, .slice a2 n2 p2, .slice a3 n3 p3, .slice a4 n4 p4, .int .i64 x5] ∧ RowAt wr (w.heap.size + 1) 39 #[.bool x0, .slice a1' n1 p1', .slice a2' n2 p2', .slice a3' n3' p3', .slice a4' n4 p4', .int .i64 x5] ∧ Below w.heap.size w wr) (fun i _ => n2 - (intOf i).toNat)
      case atStart => exact ⟨0, by omega, rfl, rfl, hA, hC, hB⟩
      case round =>
        obtain ⟨j, hj, rfl, HA, hA, hC, hB⟩ := hrel
        have ba := hA.cell (i := 2) (v := .slice a2 n2 p2) rfl
        have bc := hC.cell (i := 2) (v := .slice a2' n2 p2') rfl
        have hlA : w.heap.size < wr.heap.size := hA.lt
        have hlC : w.heap.size + 1 < wr.heap.size := hC.lt
        by_cases hlt : j < n2
        · have hlt2 : (j : Int) < (n2 : Int) := by omega
          obtain ⟨g, o, rfl, -, hg, u0, u1, u2, ⟨z0, z1, z2⟩, ⟨⟨e0, b0⟩, ⟨e1, b1⟩, ⟨ra2, qa2⟩⟩⟩ := row_sources (r2.later hB) q2 hlt
          obtain ⟨g2, o2, rfl, -, hg2, v0, v1, v2, ⟨k0, k1, k2⟩, ⟨⟨l0, m0⟩, ⟨l1, m1⟩, ⟨rc2, qc2⟩⟩⟩ := row_sources (s2.later hB) t2 hlt
          obtain ⟨ua, un, up, rfl⟩ := ra2.slice_of qa2 rfl
          obtain ⟨va, vn, vp, rfl⟩ := rc2.slice_of qc2 rfl
          have HL := Lib.hid (sameR_source e0 l0 e1 l1)
          have hE := fun (v : World) (h : Below wr.heap.size wr v) => IH2 j hlt (.slice ua un up) (.slice va vn vp) v (Rd.later ra2 h) qa2 (Rd.later rc2 h) qc2
          have hbb := (hB.alloc hB.size (.cells #[.string u0, .string u1, .slice ua un up] 113)).alloc (by have := hB.size; simp; omega) (.cells #[.string v0, .string v1, .slice va vn vp] 113)
          clear e0 e1 l0 l1
          by_cases g0 : u0 = v0
          case neg =>
            have d := str_ne g0
            have d2 := str_ne2 g0
            go_wp2_with fail
            go_ret
            refine ⟨?_, hbb⟩
            have h : ((List.range n2).all fun i => sameC (rowTy .sources) (f2 i) (f2' i)) = false := by
              rw [List.all_eq_false]
              exact ⟨j, List.mem_range.2 hlt, by rw [HL.out]; simp [g0]⟩
            rw [HT1.out, h]
            simp
          obtain rfl := g0
          by_cases g1 : u1 = v1
          case neg =>
            have d := str_ne g1
            have d2 := str_ne2 g1
            go_wp2_with fail
            go_ret
            refine ⟨?_, hbb⟩
            have h : ((List.range n2).all fun i => sameC (rowTy .sources) (f2 i) (f2' i)) = false := by
              rw [List.all_eq_false]
              exact ⟨j, List.mem_range.2 hlt, by rw [HL.out]; simp [g1]⟩
            rw [HT1.out, h]
            simp
          obtain rfl := g1
          have hbn := ((Below.refl wr.heap.size wr).alloc (Nat.le_refl _) (.cells #[.string u0, .string u1, .slice ua un up] 113)).alloc (by simp) (.cells #[.string u0, .string u1, .slice va vn vp] 113)
          cases hV : same (f2 j 2) (f2' j 2) .exprs
          all_goals
            rw [hV] at hE
            have HV2 := Lib.hid hV
            clear hV
            have hA2 := hA.later hbn
            have hC2 := hC.later hbn
            go_wp2_with fail
            refine (hE _ hbn).mono ?_
            rintro e w2 ⟨rfl, hb⟩
            replace hA2 := hA2.later hb
            replace hC2 := hC2.later hb
            replace hbb := hbb.trans (hb.mono hbb.size)
            clear hE hb hbn hA hC
          · go_wp2_with fail
            go_ret
            refine ⟨?_, hbb⟩
            have h : ((List.range n2).all fun i => sameC (rowTy .sources) (f2 i) (f2' i)) = false := by
              rw [List.all_eq_false]
              exact ⟨j, List.mem_range.2 hlt, by rw [HL.out, HV2.out]; simp⟩
            rw [HT1.out, h]
            simp
          · have HA2 : Hid (((List.range (j + 1)).all fun i => sameC (rowTy .sources) (f2 i) (f2' i)) = true) := by show _ = true; rw [all_succ, HA.out, HL.out, HV2.out]; simp
            go_wp2_with fail
            go_roundw
            case rel => exact ⟨j + 1, by omega, by go_num, HA2, hA2, hC2, hbb⟩
            case measure => simp [intOf]; omega
        · obtain rfl : n2 = j := by omega
          have HT2 := HA
          go_wp2_with fail
          clear hlt hj HA ba bc hlA hlC
          go_loopw [11] (fun i wr => ∃ j : Nat, j ≤ n4 ∧ i = .int .i64 (j : Int) ∧ Hid (((List.range j).all fun i => sameC (rowTy .keys) (f4 i) (f4' i)) = true) ∧ RowAt wr w.heap.size 39 #[.bool x0, .slice a1 n1 p1, .slice a2 n2 p2, .slice a3 n3 p3, .slice a4 n4 p4, .int .i64 x5] ∧ RowAt wr (w.heap.size + 1) 39 #[.bool x0, .slice a1' n1 p1', .slice a2' n2 p2', .slice a3' n3' p3', .slice a4' n4 p4', .int .i64 x5] ∧ Below w.heap.size w wr) (fun i _ => n4 - (intOf i).toNat)
          case atStart => exact ⟨0, by omega, rfl, rfl, hA, hC, hB⟩
          case round =>
            obtain ⟨j, hj, rfl, HA, hA, hC, hB⟩ := hrel
            have ba := hA.cell (i := 4) (v := .slice a4 n4 p4) rfl
            have bc := hC.cell (i := 4) (v := .slice a4' n4 p4') rfl
            have hlA : w.heap.size < wr.heap.size := hA.lt
            have hlC : w.heap.size + 1 < wr.heap.size := hC.lt
            by_cases hlt : j < n4
            · have hlt2 : (j : Int) < (n4 : Int) := by omega
              obtain ⟨g, o, rfl, -, hg, u0, u1, u2, u3, u4, u5, u6, u7, u8, u9, u10, ⟨z0, z1, z2, z3, z4, z5, z6, z7, z8, z9, z10⟩, ⟨⟨e0, b0⟩, ⟨e1, b1⟩, e2, ⟨e3, b3⟩, ⟨e4, b4⟩, ⟨e5, b5⟩, ⟨e6, b6⟩, ⟨e7, b7⟩, ⟨ra8, qa8⟩, ⟨ra9, qa9⟩, e10⟩⟩ := row_keys (r4.later hB) q4 hlt
              obtain ⟨g2, o2, rfl, -, hg2, v0, v1, v2, v3, v4, v5, v6, v7, v8, v9, v10, ⟨k0, k1, k2, k3, k4, k5, k6, k7, k8, k9, k10⟩, ⟨⟨l0, m0⟩, ⟨l1, m1⟩, l2, ⟨l3, m3⟩, ⟨l4, m4⟩, ⟨l5, m5⟩, ⟨l6, m6⟩, ⟨l7, m7⟩, ⟨rc8, qc8⟩, ⟨rc9, qc9⟩, l10⟩⟩ := row_keys (s4.later hB) t4 hlt
              obtain ⟨ua, un, up, rfl⟩ := ra8.slice_of qa8 rfl
              obtain ⟨ub, um, uq, rfl⟩ := ra9.slice_of qa9 rfl
              obtain ⟨va, vn, vp, rfl⟩ := rc8.slice_of qc8 rfl
              obtain ⟨vb, vm, vq, rfl⟩ := rc9.slice_of qc9 rfl
              have HL := Lib.hid (sameR_key e10 l10)
              have hE := fun (v : World) (h : Below wr.heap.size wr v) => IH4 j hlt u0 u1 u2 u3 u4 u5 u6 u7 (.slice ua un up) (.slice ub um uq) v0 v1 v2 v3 v4 v5 v6 v7 (.slice va vn vp) (.slice vb vm vq) v (Rd.later ra8 h) qa8 (Rd.later ra9 h) qa9 (Rd.later rc8 h) qc8 (Rd.later rc9 h) qc9
              simp only [← sameC_expr (c := f4 j) (c' := f4' j) e0 l0 e1 l1 e2 l2 e3 l3 e4 l4 e5 l5 e6 l6 e7 l7] at hE
              clear e0 l0 e1 l1 e2 l2 e3 l3 e4 l4 e5 l5 e6 l6 e7 l7 e10 l10
              have ba2 := lat_cell ba
              have bc2 := lat_cell bc
              replace z0 := lat_cell z0
              replace k0 := lat_cell k0
              replace z1 := lat_cell z1
              replace k1 := lat_cell k1
              replace z2 := lat_cell z2
              replace k2 := lat_cell k2
              replace z3 := lat_cell z3
              replace k3 := lat_cell k3
              replace z4 := lat_cell z4
              replace k4 := lat_cell k4
              replace z5 := lat_cell z5
              replace k5 := lat_cell k5
              replace z6 := lat_cell z6
              replace k6 := lat_cell k6
              replace z7 := lat_cell z7
              replace k7 := lat_cell k7
              replace z8 := lat_cell z8
              replace k8 := lat_cell k8
              replace z9 := lat_cell z9
              replace k9 := lat_cell k9
              replace z10 := lat_cell z10
              replace k10 := lat_cell k10
              rcases (show (u10 = true ∧ v10 = false) ∨ (u10 = false ∧ v10 = true) ∨ (u10 = true ∧ v10 = true) ∨ (u10 = false ∧ v10 = false) by cases u10 <;> cases v10 <;> simp) with ⟨rfl, rfl⟩ | ⟨rfl, rfl⟩ | ⟨rfl, rfl⟩ | ⟨rfl, rfl⟩
              · have d : True := trivial
                go_wp2_with fail
                refine region_lat (by kernel_rfl) (by kernel_rfl) ?_
                iterate 29 (go_big_quiet_step (fail))
                refine wpQuiet_nil ?_
                rintro _ ⟨nq, rfl⟩
                have hbw := lat_below wr nq
                have hbb := hB.trans (hbw.mono hB.size)
                have hA2 := hA.later hbw
                have hC2 := hC.later hbw
                clear hE z0 k0 z1 k1 z2 k2 z3 k3 z4 k4 z5 k5 z6 k6 z7 k7 z8 k8 z9 k9 z10 k10 ba2 bc2 hbw hA hC
                generalize lat wr nq = wq at hbb hA2 hC2 ⊢
                go_wp2_with fail
                go_ret
                refine ⟨?_, hbb⟩
                have h : ((List.range n4).all fun i => sameC (rowTy .keys) (f4 i) (f4' i)) = false := by
                  rw [List.all_eq_false]
                  exact ⟨j, List.mem_range.2 hlt, by rw [HL.out]; simp⟩
                rw [HT1.out, HT2.out, h]
                simp
              · have d : True := trivial
                go_wp2_with fail
                refine region_lat (by kernel_rfl) (by kernel_rfl) ?_
                iterate 29 (go_big_quiet_step (fail))
                refine wpQuiet_nil ?_
                rintro _ ⟨nq, rfl⟩
                have hbw := lat_below wr nq
                have hbb := hB.trans (hbw.mono hB.size)
                have hA2 := hA.later hbw
                have hC2 := hC.later hbw
                clear hE z0 k0 z1 k1 z2 k2 z3 k3 z4 k4 z5 k5 z6 k6 z7 k7 z8 k8 z9 k9 z10 k10 ba2 bc2 hbw hA hC
                generalize lat wr nq = wq at hbb hA2 hC2 ⊢
                go_wp2_with fail
                go_ret
                refine ⟨?_, hbb⟩
                have h : ((List.range n4).all fun i => sameC (rowTy .keys) (f4 i) (f4' i)) = false := by
                  rw [List.all_eq_false]
                  exact ⟨j, List.mem_range.2 hlt, by rw [HL.out]; simp⟩
                rw [HT1.out, HT2.out, h]
                simp
              · cases hV : sameC exprTy (f4 j) (f4' j)
                all_goals
                  rw [hV] at hE
                  have HV2 := Lib.hid hV
                  clear hV
                  go_wp2_with fail
                  refine region_lat (by kernel_rfl) (by kernel_rfl) ?_
                  iterate 29 (go_big_quiet_step ((refine (hE _ (lat_below wr _)).mono ?_; rintro e w'' ⟨rfl, hb''⟩; exact ⟨rfl, lat_to hb''⟩)))
                  refine wpQuiet_nil ?_
                  rintro _ ⟨nq, rfl⟩
                  have hbw := lat_below wr nq
                  have hbb := hB.trans (hbw.mono hB.size)
                  have hA2 := hA.later hbw
                  have hC2 := hC.later hbw
                  clear hE z0 k0 z1 k1 z2 k2 z3 k3 z4 k4 z5 k5 z6 k6 z7 k7 z8 k8 z9 k9 z10 k10 ba2 bc2 hbw hA hC
                  generalize lat wr nq = wq at hbb hA2 hC2 ⊢
                · go_wp2_with fail
                  go_ret
                  refine ⟨?_, hbb⟩
                  have h : ((List.range n4).all fun i => sameC (rowTy .keys) (f4 i) (f4' i)) = false := by
                    rw [List.all_eq_false]
                    exact ⟨j, List.mem_range.2 hlt, by rw [HL.out, HV2.out]; simp⟩
                  rw [HT1.out, HT2.out, h]
                  simp
                · have HA2 : Hid (((List.range (j + 1)).all fun i => sameC (rowTy .keys) (f4 i) (f4' i)) = true) := by show _ = true; rw [all_succ, HA.out, HL.out, HV2.out]; simp
                  go_wp2_with fail
                  go_roundw
                  case rel => exact ⟨j + 1, by omega, by go_num, HA2, hA2, hC2, hbb⟩
                  case measure => simp [intOf]; omega
              · cases hV : sameC exprTy (f4 j) (f4' j)
                all_goals
                  rw [hV] at hE
                  have HV2 := Lib.hid hV
                  clear hV
                  go_wp2_with fail
                  refine region_lat (by kernel_rfl) (by kernel_rfl) ?_
                  iterate 29 (go_big_quiet_step ((refine (hE _ (lat_below wr _)).mono ?_; rintro e w'' ⟨rfl, hb''⟩; exact ⟨rfl, lat_to hb''⟩)))
                  refine wpQuiet_nil ?_
                  rintro _ ⟨nq, rfl⟩
                  have hbw := lat_below wr nq
                  have hbb := hB.trans (hbw.mono hB.size)
                  have hA2 := hA.later hbw
                  have hC2 := hC.later hbw
                  clear hE z0 k0 z1 k1 z2 k2 z3 k3 z4 k4 z5 k5 z6 k6 z7 k7 z8 k8 z9 k9 z10 k10 ba2 bc2 hbw hA hC
                  generalize lat wr nq = wq at hbb hA2 hC2 ⊢
                · go_wp2_with fail
                  go_ret
                  refine ⟨?_, hbb⟩
                  have h : ((List.range n4).all fun i => sameC (rowTy .keys) (f4 i) (f4' i)) = false := by
                    rw [List.all_eq_false]
                    exact ⟨j, List.mem_range.2 hlt, by rw [HL.out, HV2.out]; simp⟩
                  rw [HT1.out, HT2.out, h]
                  simp
                · have HA2 : Hid (((List.range (j + 1)).all fun i => sameC (rowTy .keys) (f4 i) (f4' i)) = true) := by show _ = true; rw [all_succ, HA.out, HL.out, HV2.out]; simp
                  go_wp2_with fail
                  go_roundw
                  case rel => exact ⟨j + 1, by omega, by go_num, HA2, hA2, hC2, hbb⟩
                  case measure => simp [intOf]; omega
            · obtain rfl : n4 = j := by omega
              have HT4 := HA
              go_wp2_with fail
              clear hlt hj HA ba bc hlA hlC
              go_ret
              exact ⟨by rw [HT1.out, HT2.out, HT4.out]; rfl, hB⟩
end Go.Proofs.YtcliijfdlcagoaaGreat
