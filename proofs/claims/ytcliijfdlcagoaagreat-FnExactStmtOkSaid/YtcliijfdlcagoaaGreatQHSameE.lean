/- Joined texts: SameE. -/
import Derived.Test.YtcliijfdlcagoaaGreatQZAX
import Derived.Test.YtcliijfdlcagoaaGreatQZAC
namespace Go.Proofs.YtcliijfdlcagoaaGreat
set_option linter.unusedVariables false
set_option linter.unusedSimpArgs false
open Go.RowKit
theorem str_ne {a b : ByteArray} (h : ¬ a = b) : (a.toList != b.toList) = true := by
  have h1 := beq_lit a b.toList
  have h2 : b.toList = b.data.toList := ByteArray.toList_eq ..
  unfold bne
  rw [h1, h2]
  have h4 : ¬ a.data.toList = b.data.toList := fun e => h (by cases a; cases b; simpa using e)
  simp [h4]
theorem str_ne2 {a b : ByteArray} (h : ¬ a = b) : ¬ a.toList = b.toList := fun e => by have := str_ne h; rw [e] at this; simp at this
def SameQueryP (q q' : Nat → Dat) : Prop := ∀ (x0 : Bool) (x1 x2 x3 x4 : Value) (x5 : Int) (y0 : Bool) (y1 y2 y3 y4 : Value) (y5 : Int) (w : World), q 0 = .v (.bool x0) → q' 0 = .v (.bool y0) → q 5 = .v (.int .i64 x5) → q' 5 = .v (.int .i64 y5) →
  Rd w 0 x1 (q 1) → Fits (q 1) .items → Rd w 0 x2 (q 2) → Fits (q 2) .sources → Rd w 0 x3 (q 3) → Fits (q 3) .exprs → Rd w 0 x4 (q 4) → Fits (q 4) .keys →
  Rd w 0 y1 (q' 1) → Fits (q' 1) .items → Rd w 0 y2 (q' 2) → Fits (q' 2) .sources → Rd w 0 y3 (q' 3) → Fits (q' 3) .exprs → Rd w 0 y4 (q' 4) → Fits (q' 4) .keys →
  Calls Tryz.prog 33 #[.agg #[.bool x0, x1, x2, x3, x4, .int .i64 x5], .agg #[.bool y0, y1, y2, y3, y4, .int .i64 y5]] w (BoolE (sameC (rowTy .queries) q q') w)
set_option maxRecDepth 100000 in
set_option maxHeartbeats 8000000 in
theorem sameExpr_step (c c' : Nat → Dat) (hK : SameSP (c 8) (c' 8)) (n9 n9' : Nat) (f9 f9' : Nat → Nat → Dat) (h9 : c 9 = .sl n9 6 f9) (h9' : c' 9 = .sl n9' 6 f9') (IHs : ∀ i, i < n9 → i < n9' → SameQueryP (f9 i) (f9' i)) : SameExprP c c' := by
  intro x0 x1 x2 x3 x4 x5 x6 x7 x8 x9 y0 y1 y2 y3 y4 y5 y6 y7 y8 y9 w r8 q8 r9 q9 s8 t8 s9 t9
  by_cases h0 : x0 = y0
  case neg =>
    have hv : sameFields x0 y0 x1 y1 x2 y2 x3 y3 x4 y4 x5 y5 x6 y6 x7 y7 (same (c 8) (c' 8) .exprs) (same (c 9) (c' 9) .queries) = false := by unfold sameFields; simp [h0]
    rw [hv]
    clear hv hK IHs
    have d : (x0 != y0) = true := by simpa using h0
    go_enter Tryz.func70, Tryz.ntmps70
    go_wp2_with fail
    go_ret
    exact ⟨rfl, ((Below.refl _ _).alloc (Nat.le_refl _) _).alloc (by simp) _⟩
  obtain rfl := h0
  by_cases h1 : x1 = y1
  case neg =>
    have hv : sameFields x0 x0 x1 y1 x2 y2 x3 y3 x4 y4 x5 y5 x6 y6 x7 y7 (same (c 8) (c' 8) .exprs) (same (c 9) (c' 9) .queries) = false := by unfold sameFields; simp [h1]
    rw [hv]
    clear hv hK IHs
    have d : (x1 != y1) = true := by simpa using h1
    go_enter Tryz.func70, Tryz.ntmps70
    go_wp2_with fail
    go_ret
    exact ⟨rfl, ((Below.refl _ _).alloc (Nat.le_refl _) _).alloc (by simp) _⟩
  obtain rfl := h1
  by_cases h2 : x2 = y2
  case neg =>
    have hv : sameFields x0 x0 x1 x1 x2 y2 x3 y3 x4 y4 x5 y5 x6 y6 x7 y7 (same (c 8) (c' 8) .exprs) (same (c 9) (c' 9) .queries) = false := by unfold sameFields; simp [h2]
    rw [hv]
    clear hv hK IHs
    have d : (x2 != y2) = true := by simpa using h2
    go_enter Tryz.func70, Tryz.ntmps70
    go_wp2_with fail
    go_ret
    exact ⟨rfl, ((Below.refl _ _).alloc (Nat.le_refl _) _).alloc (by simp) _⟩
  obtain rfl := h2
  by_cases h3 : x3 = y3
  case neg =>
    have hv : sameFields x0 x0 x1 x1 x2 x2 x3 y3 x4 y4 x5 y5 x6 y6 x7 y7 (same (c 8) (c' 8) .exprs) (same (c 9) (c' 9) .queries) = false := by unfold sameFields; simp [h3]
    rw [hv]
    clear hv hK IHs
    go_enter Tryz.func70, Tryz.ntmps70
    go_wp2_with fail
    go_ret
    exact ⟨rfl, ((Below.refl _ _).alloc (Nat.le_refl _) _).alloc (by simp) _⟩
  obtain rfl := h3
  by_cases h4 : x4 = y4
  case neg =>
    have hv : sameFields x0 x0 x1 x1 x2 x2 x3 x3 x4 y4 x5 y5 x6 y6 x7 y7 (same (c 8) (c' 8) .exprs) (same (c 9) (c' 9) .queries) = false := by unfold sameFields; simp [h4]
    rw [hv]
    clear hv hK IHs
    go_enter Tryz.func70, Tryz.ntmps70
    go_wp2_with fail
    go_ret
    exact ⟨rfl, ((Below.refl _ _).alloc (Nat.le_refl _) _).alloc (by simp) _⟩
  obtain rfl := h4
  by_cases h5 : x5 = y5
  case neg =>
    have hv : sameFields x0 x0 x1 x1 x2 x2 x3 x3 x4 x4 x5 y5 x6 y6 x7 y7 (same (c 8) (c' 8) .exprs) (same (c 9) (c' 9) .queries) = false := by unfold sameFields; simp [h5]
    rw [hv]
    clear hv hK IHs
    have d := str_ne h5
    have d2 := str_ne2 h5
    go_enter Tryz.func70, Tryz.ntmps70
    go_wp2_with fail
    go_ret
    exact ⟨rfl, ((Below.refl _ _).alloc (Nat.le_refl _) _).alloc (by simp) _⟩
  obtain rfl := h5
  by_cases h6 : x6 = y6
  case neg =>
    have hv : sameFields x0 x0 x1 x1 x2 x2 x3 x3 x4 x4 x5 x5 x6 y6 x7 y7 (same (c 8) (c' 8) .exprs) (same (c 9) (c' 9) .queries) = false := by unfold sameFields; simp [h6]
    rw [hv]
    clear hv hK IHs
    have d := str_ne h6
    have d2 := str_ne2 h6
    go_enter Tryz.func70, Tryz.ntmps70
    go_wp2_with fail
    go_ret
    exact ⟨rfl, ((Below.refl _ _).alloc (Nat.le_refl _) _).alloc (by simp) _⟩
  obtain rfl := h6
  by_cases h7 : x7 = y7
  case neg =>
    have hv : sameFields x0 x0 x1 x1 x2 x2 x3 x3 x4 x4 x5 x5 x6 x6 x7 y7 (same (c 8) (c' 8) .exprs) (same (c 9) (c' 9) .queries) = false := by unfold sameFields; simp [h7]
    rw [hv]
    clear hv hK IHs
    have d := str_ne h7
    have d2 := str_ne2 h7
    go_enter Tryz.func70, Tryz.ntmps70
    go_wp2_with fail
    go_ret
    exact ⟨rfl, ((Below.refl _ _).alloc (Nat.le_refl _) _).alloc (by simp) _⟩
  obtain rfl := h7
  have hS : sameFields x0 x0 x1 x1 x2 x2 x3 x3 x4 x4 x5 x5 x6 x6 x7 x7 (same (c 8) (c' 8) .exprs) (same (c 9) (c' 9) .queries) = (same (c 8) (c' 8) .exprs && same (c 9) (c' 9) .queries) := by unfold sameFields; simp
  rw [hS]
  clear hS
  rw [h9] at r9 q9 ⊢
  rw [h9'] at s9 t9 ⊢
  obtain ⟨a9, p9, rfl⟩ := r9.slice
  obtain ⟨a9', p9', rfl⟩ := s9.slice
  rw [same_sl]
  have hn9 := q9.2.1
  by_cases hnn : n9 = n9'
  case neg =>
    have d : ((n9 : Int) != (n9' : Int)) = true := by simp; omega
    have d2 : (n9 == n9') = false := by simpa using hnn
    rw [d2, Bool.false_and, Bool.and_false]
    clear hnn d2 hK IHs
    go_enter Tryz.func70, Tryz.ntmps70
    go_wp2_with fail
    go_ret
    exact ⟨rfl, ((Below.refl _ _).alloc (Nat.le_refl _) _).alloc (by simp) _⟩
  subst hnn
  have HV : Hid (((n9 == n9) && (List.range n9).all fun i => sameC (rowTy .queries) (f9 i) (f9' i)) = (List.range n9).all fun i => sameC (rowTy .queries) (f9 i) (f9' i)) := by show _ = _; simp
  rw [HV.out]
  clear HV
  have hK2 := fun (v : World) (h : Below w.heap.size w v) => hK x8 y8 v (Rd.later r8 h) q8 (Rd.later s8 h) t8
  clear hK
  have hA := (RowAt.new w 79 #[.int .i64 x0, .int .i64 x1, .bool x2, .int .i64 x3, .int .i64 x4, .string x5, .string x6, .string x7, x8, .slice a9 n9 p9]).alloc (.cells #[.int .i64 x0, .int .i64 x1, .bool x2, .int .i64 x3, .int .i64 x4, .string x5, .string x6, .string x7, y8, .slice a9' n9 p9'] 79)
  have hC := RowAt.new1 w (.cells #[.int .i64 x0, .int .i64 x1, .bool x2, .int .i64 x3, .int .i64 x4, .string x5, .string x6, .string x7, x8, .slice a9 n9 p9] 79) 79 #[.int .i64 x0, .int .i64 x1, .bool x2, .int .i64 x3, .int .i64 x4, .string x5, .string x6, .string x7, y8, .slice a9' n9 p9']
  have hB := ((Below.refl w.heap.size w).alloc (Nat.le_refl _) (.cells #[.int .i64 x0, .int .i64 x1, .bool x2, .int .i64 x3, .int .i64 x4, .string x5, .string x6, .string x7, x8, .slice a9 n9 p9] 79)).alloc (by simp) (.cells #[.int .i64 x0, .int .i64 x1, .bool x2, .int .i64 x3, .int .i64 x4, .string x5, .string x6, .string x7, y8, .slice a9' n9 p9'] 79)
  cases hk : same (c 8) (c' 8) .exprs
  case false =>
    rw [hk] at hK2
    clear hk IHs
    go_enter Tryz.func70, Tryz.ntmps70
    go_wp2_with fail
    generalize (w.alloc (.cells #[.int .i64 x0, .int .i64 x1, .bool x2, .int .i64 x3, .int .i64 x4, .string x5, .string x6, .string x7, x8, .slice a9 n9 p9] 79)).alloc (.cells #[.int .i64 x0, .int .i64 x1, .bool x2, .int .i64 x3, .int .i64 x4, .string x5, .string x6, .string x7, y8, .slice a9' n9 p9'] 79) = w0 at hA hC hB ⊢
    refine (hK2 _ hB).mono ?_
    rintro e w1 ⟨rfl, hb⟩
    have hbb := hB.trans (hb.mono hB.size)
    go_wp2_with fail
    go_ret
    exact ⟨rfl, hbb⟩
  rw [hk] at hK2
  rw [Bool.true_and]
  clear hk
  go_enter Tryz.func70, Tryz.ntmps70
  go_wp2_with fail
  generalize (w.alloc (.cells #[.int .i64 x0, .int .i64 x1, .bool x2, .int .i64 x3, .int .i64 x4, .string x5, .string x6, .string x7, x8, .slice a9 n9 p9] 79)).alloc (.cells #[.int .i64 x0, .int .i64 x1, .bool x2, .int .i64 x3, .int .i64 x4, .string x5, .string x6, .string x7, y8, .slice a9' n9 p9'] 79) = w0 at hA hC hB ⊢
  refine (hK2 _ hB).mono ?_
  rintro e w1 ⟨rfl, hb⟩
  replace hA := hA.later hb
  replace hC := hC.later hb
  replace hB := hB.trans (hb.mono hB.size)
  clear hb hK2
  go_wp2_with fail
  go_loopw [5] (fun i wr => ∃ j : Nat, j ≤ n9 ∧ i = .int .i64 (j : Int) ∧ Hid (((List.range j).all fun i => sameC (rowTy .queries) (f9 i) (f9' i)) = true) ∧ RowAt wr w.heap.size 79 #[.int .i64 x0, .int .i64 x1, .bool x2, .int .i64 x3, .int .i64 x4, .string x5, .string x6, .string x7, x8, .slice a9 n9 p9] ∧ RowAt wr (w.heap.size + 1) 79 #[.int .i64 x0, .int .i64 x1, .bool x2, .int .i64 x3, .int .i64 x4, .string x5, .string x6, .string x7, y8, .slice a9' n9 p9'] ∧ Below w.heap.size w wr) (fun i _ => n9 - (intOf i).toNat)
  case atStart => exact ⟨0, by omega, rfl, rfl, hA, hC, hB⟩
  case round =>
    obtain ⟨j, hj, rfl, HA, hA, hC, hB⟩ := hrel
    have ba := hA.cell (i := 9) (v := .slice a9 n9 p9) rfl
    have bc := hC.cell (i := 9) (v := .slice a9' n9 p9') rfl
    by_cases hlt : j < n9
    · have hlt2 : (j : Int) < (n9 : Int) := by omega
      obtain ⟨g, o, rfl, -, hg, u0, u1, u2, u3, u4, u5, ⟨z0, z1, z2, z3, z4, z5⟩, ⟨e0, ⟨ra1, qa1⟩, ⟨ra2, qa2⟩, ⟨ra3, qa3⟩, ⟨ra4, qa4⟩, ⟨e5, b5⟩⟩⟩ := row_queries (r9.later hB) q9 hlt
      obtain ⟨g2, o2, rfl, -, hg2, v0, v1, v2, v3, v4, v5, ⟨k0, k1, k2, k3, k4, k5⟩, ⟨l0, ⟨rc1, qc1⟩, ⟨rc2, qc2⟩, ⟨rc3, qc3⟩, ⟨rc4, qc4⟩, ⟨l5, m5⟩⟩⟩ := row_queries (s9.later hB) t9 hlt
      have hE := fun (v : World) (h : Below wr.heap.size wr v) => IHs j hlt hlt u0 u1 u2 u3 u4 u5 v0 v1 v2 v3 v4 v5 v e0 l0 e5 l5 (Rd.later ra1 h) qa1 (Rd.later ra2 h) qa2 (Rd.later ra3 h) qa3 (Rd.later ra4 h) qa4 (Rd.later rc1 h) qc1 (Rd.later rc2 h) qc2 (Rd.later rc3 h) qc3 (Rd.later rc4 h) qc4
      clear e0 e5 l0 l5
      have ba2 := lat_cell ba
      have bc2 := lat_cell bc
      replace z0 := lat_cell z0
      replace k0 := lat_cell k0
      replace z1 := lat_cell z1
      replace k1 := lat_cell k1
      replace z2 := lat_cell z2
      replace k2 := lat_cell k2
      replace z3 := lat_cell z3
      replace k3 := lat_cell k3
      replace z4 := lat_cell z4
      replace k4 := lat_cell k4
      replace z5 := lat_cell z5
      replace k5 := lat_cell k5
      cases hV : sameC (rowTy .queries) (f9 j) (f9' j)
      all_goals
        rw [hV] at hE
        have HV2 := Lib.hid hV
        clear hV
        go_wp2_with fail
        refine region_lat (by kernel_rfl) (by kernel_rfl) ?_
        iterate 12 (go_big_quiet_step ((refine (hE _ (lat_below wr _)).mono ?_; rintro e w'' ⟨rfl, hb''⟩; exact ⟨rfl, lat_to hb''⟩)))
        refine wpQuiet_nil ?_
        rintro _ ⟨nq, rfl⟩
        have hbw := lat_below wr nq
        have hbq := hB.trans (hbw.mono hB.size)
        have hA2 := hA.later hbw
        have hC2 := hC.later hbw
        clear hE z0 k0 z1 k1 z2 k2 z3 k3 z4 k4 z5 k5 ba2 bc2 hbw hA hC
        generalize lat wr nq = wq at hbq hA2 hC2 ⊢
      · go_wp2_with fail
        go_ret
        refine ⟨?_, hbq⟩
        have h : ((List.range n9).all fun i => sameC (rowTy .queries) (f9 i) (f9' i)) = false := by
          rw [List.all_eq_false]
          exact ⟨j, List.mem_range.2 hlt, by rw [HV2.out]; simp⟩
        rw [h]
        rfl
      · have HA2 : Hid (((List.range (j + 1)).all fun i => sameC (rowTy .queries) (f9 i) (f9' i)) = true) := by show _ = true; rw [all_succ, HA.out, HV2.out]; rfl
        go_wp2_with fail
        go_roundw
        case rel => exact ⟨j + 1, by omega, by go_num, HA2, hA2, hC2, hbq⟩
        case measure => simp [intOf]; omega
    · obtain rfl : n9 = j := by omega
      go_wp2_with fail
      go_ret
      exact ⟨by rw [HA.out]; rfl, hB⟩
end Go.Proofs.YtcliijfdlcagoaaGreat
