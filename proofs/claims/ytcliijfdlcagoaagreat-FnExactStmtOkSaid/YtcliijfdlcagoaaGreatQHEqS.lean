/- Joined texts: EqS. -/
import Derived.Test.YtcliijfdlcagoaaGreatQZAA
import Derived.Test.YtcliijfdlcagoaaGreatQZAD
import Derived.Test.YtcliijfdlcagoaaGreatQZAB
import Derived.Test.YtcliijfdlcagoaaGreatQZAE
namespace Go.Proofs.YtcliijfdlcagoaaGreat
set_option linter.unusedVariables false
set_option linter.unusedSimpArgs false
open Go.RowKit
def eqFn : Ty → Nat
  | .exprs => 28
  | .items => 60
  | .sources => 61
  | .keys => 62
  | .queries => 108
  | _ => 0
def EqP (d : Dat) (ty : Ty) : Prop := ∀ (x y : Value) (w : World), Rd w 0 x d → Rd w 0 y d → Fits d ty → Calls Tryz.prog (eqFn ty) #[x, y] w (BoolE true w)
def EqAll (d : Dat) : Prop := ∀ ty, tree ty = true → EqP d ty
set_option maxRecDepth 100000 in
set_option maxHeartbeats 400000 in
theorem eqValue_same (k a : Int) (t : ByteArray) (w : World) :
    Calls Tryz.prog 107 #[.agg #[.int .i64 k, .int .i64 a, .string t], .agg #[.int .i64 k, .int .i64 a, .string t]] w (BoolE true w) := by
  go_enter Tryz.func107, Tryz.ntmps107
  go_wp2_with fail
  go_ret
  exact ⟨rfl, ((Below.refl _ _).alloc (Nat.le_refl _) _).alloc (by simp) _⟩
set_option maxRecDepth 100000 in
set_option maxHeartbeats 4000000 in
theorem eqExpr_any (c0 : Int) (c1 : Int) (c2 : Bool) (c3 : Int) (c4 : Int) (c5 : ByteArray) (c6 : ByteArray) (c7 : ByteArray) (c8 : Value) (c9 : Value) (p8 : Value) (p9 : Value) (d8 : Dat) (d9 : Dat) (w : World) (h8 : EqP d8 .exprs) (h9 : EqP d9 .queries) (r8 : Rd w 0 c8 d8) (s8 : Rd w 0 p8 d8) (q8 : Fits d8 .exprs) (r9 : Rd w 0 c9 d9) (s9 : Rd w 0 p9 d9) (q9 : Fits d9 .queries) :
    Calls Tryz.prog 63 #[.agg #[.int .i64 c0, .int .i64 c1, .bool c2, .int .i64 c3, .int .i64 c4, .string c5, .string c6, .string c7, c8, c9], .agg #[.int .i64 c0, .int .i64 c1, .bool c2, .int .i64 c3, .int .i64 c4, .string c5, .string c6, .string c7, p8, p9]] w (BoolE true w) := by
  have hA := (RowAt.new w 79 #[.int .i64 c0, .int .i64 c1, .bool c2, .int .i64 c3, .int .i64 c4, .string c5, .string c6, .string c7, c8, c9]).alloc (.cells #[.int .i64 c0, .int .i64 c1, .bool c2, .int .i64 c3, .int .i64 c4, .string c5, .string c6, .string c7, p8, p9] 79)
  have hC := RowAt.new1 w (.cells #[.int .i64 c0, .int .i64 c1, .bool c2, .int .i64 c3, .int .i64 c4, .string c5, .string c6, .string c7, c8, c9] 79) 79 #[.int .i64 c0, .int .i64 c1, .bool c2, .int .i64 c3, .int .i64 c4, .string c5, .string c6, .string c7, p8, p9]
  have hB := ((Below.refl w.heap.size w).alloc (Nat.le_refl _) (.cells #[.int .i64 c0, .int .i64 c1, .bool c2, .int .i64 c3, .int .i64 c4, .string c5, .string c6, .string c7, c8, c9] 79)).alloc (by simp) (.cells #[.int .i64 c0, .int .i64 c1, .bool c2, .int .i64 c3, .int .i64 c4, .string c5, .string c6, .string c7, p8, p9] 79)
  go_enter Tryz.func63, Tryz.ntmps63
  go_wp2_with fail
  generalize (w.alloc (.cells #[.int .i64 c0, .int .i64 c1, .bool c2, .int .i64 c3, .int .i64 c4, .string c5, .string c6, .string c7, c8, c9] 79)).alloc (.cells #[.int .i64 c0, .int .i64 c1, .bool c2, .int .i64 c3, .int .i64 c4, .string c5, .string c6, .string c7, p8, p9] 79) = w0 at hA hC hB ⊢
  refine (eqValue_same _ _ _ _).mono ?_
  rintro e w1 ⟨rfl, hb⟩
  replace hA := hA.later hb
  replace hC := hC.later hb
  replace hB := hB.trans (hb.mono hB.size)
  clear hb
  have a6 := hA.cell (i := 6) (v := .string c6) rfl
  have b6 := hC.cell (i := 6) (v := .string c6) rfl
  have a7 := hA.cell (i := 7) (v := .string c7) rfl
  have b7 := hC.cell (i := 7) (v := .string c7) rfl
  have a8 := hA.cell (i := 8) (v := c8) rfl
  have b8 := hC.cell (i := 8) (v := p8) rfl
  go_wp2_with fail
  clear a6 b6 a7 b7 a8 b8
  refine (h8 _ _ _ (r8.later hB) (s8.later hB) q8).mono ?_
  rintro e w2 ⟨rfl, hb⟩
  replace hA := hA.later hb
  replace hC := hC.later hb
  replace hB := hB.trans (hb.mono hB.size)
  clear hb
  have a9 := hA.cell (i := 9) (v := c9) rfl
  have b9 := hC.cell (i := 9) (v := p9) rfl
  go_wp2_with fail
  clear a9 b9
  refine (h9 _ _ _ (r9.later hB) (s9.later hB) q9).mono ?_
  rintro e w3 ⟨rfl, hb⟩
  replace hA := hA.later hb
  replace hC := hC.later hb
  replace hB := hB.trans (hb.mono hB.size)
  clear hb
  go_wp2_with fail
  go_ret
  exact ⟨rfl, hB⟩
set_option maxRecDepth 100000 in
set_option maxHeartbeats 4000000 in
theorem eqItem_any (c0 : Bool) (c1 : ByteArray) (c2 : Int) (c3 : Int) (c4 : Bool) (c5 : Int) (c6 : Int) (c7 : ByteArray) (c8 : ByteArray) (c9 : ByteArray) (c10 : Value) (c11 : Value) (c12 : ByteArray) (p10 : Value) (p11 : Value) (d10 : Dat) (d11 : Dat) (w : World) (h10 : EqP d10 .exprs) (h11 : EqP d11 .queries) (r10 : Rd w 0 c10 d10) (s10 : Rd w 0 p10 d10) (q10 : Fits d10 .exprs) (r11 : Rd w 0 c11 d11) (s11 : Rd w 0 p11 d11) (q11 : Fits d11 .queries) :
    Calls Tryz.prog 104 #[.agg #[.bool c0, .string c1, .int .i64 c2, .int .i64 c3, .bool c4, .int .i64 c5, .int .i64 c6, .string c7, .string c8, .string c9, c10, c11, .string c12], .agg #[.bool c0, .string c1, .int .i64 c2, .int .i64 c3, .bool c4, .int .i64 c5, .int .i64 c6, .string c7, .string c8, .string c9, p10, p11, .string c12]] w (BoolE true w) := by
  have hA := (RowAt.new w 111 #[.bool c0, .string c1, .int .i64 c2, .int .i64 c3, .bool c4, .int .i64 c5, .int .i64 c6, .string c7, .string c8, .string c9, c10, c11, .string c12]).alloc (.cells #[.bool c0, .string c1, .int .i64 c2, .int .i64 c3, .bool c4, .int .i64 c5, .int .i64 c6, .string c7, .string c8, .string c9, p10, p11, .string c12] 111)
  have hC := RowAt.new1 w (.cells #[.bool c0, .string c1, .int .i64 c2, .int .i64 c3, .bool c4, .int .i64 c5, .int .i64 c6, .string c7, .string c8, .string c9, c10, c11, .string c12] 111) 111 #[.bool c0, .string c1, .int .i64 c2, .int .i64 c3, .bool c4, .int .i64 c5, .int .i64 c6, .string c7, .string c8, .string c9, p10, p11, .string c12]
  have hB := ((Below.refl w.heap.size w).alloc (Nat.le_refl _) (.cells #[.bool c0, .string c1, .int .i64 c2, .int .i64 c3, .bool c4, .int .i64 c5, .int .i64 c6, .string c7, .string c8, .string c9, c10, c11, .string c12] 111)).alloc (by simp) (.cells #[.bool c0, .string c1, .int .i64 c2, .int .i64 c3, .bool c4, .int .i64 c5, .int .i64 c6, .string c7, .string c8, .string c9, p10, p11, .string c12] 111)
  go_enter Tryz.func104, Tryz.ntmps104
  go_wp2_with fail
  generalize (w.alloc (.cells #[.bool c0, .string c1, .int .i64 c2, .int .i64 c3, .bool c4, .int .i64 c5, .int .i64 c6, .string c7, .string c8, .string c9, c10, c11, .string c12] 111)).alloc (.cells #[.bool c0, .string c1, .int .i64 c2, .int .i64 c3, .bool c4, .int .i64 c5, .int .i64 c6, .string c7, .string c8, .string c9, p10, p11, .string c12] 111) = w0 at hA hC hB ⊢
  refine (eqExpr_any _ _ _ _ _ _ _ _ _ _ _ _ _ _ _ h10 h11 (r10.later hB) (s10.later hB) q10 (r11.later hB) (s11.later hB) q11).mono ?_
  rintro e w1 ⟨rfl, hb⟩
  replace hA := hA.later hb
  replace hC := hC.later hb
  replace hB := hB.trans (hb.mono hB.size)
  clear hb
  have a12 := hA.cell (i := 12) (v := .string c12) rfl
  have b12 := hC.cell (i := 12) (v := .string c12) rfl
  go_wp2_with fail
  go_ret
  exact ⟨rfl, hB⟩
set_option maxRecDepth 100000 in
set_option maxHeartbeats 4000000 in
theorem eqSource_any (c0 : ByteArray) (c1 : ByteArray) (c2 : Value) (p2 : Value) (d2 : Dat) (w : World) (h2 : EqP d2 .exprs) (r2 : Rd w 0 c2 d2) (s2 : Rd w 0 p2 d2) (q2 : Fits d2 .exprs) :
    Calls Tryz.prog 105 #[.agg #[.string c0, .string c1, c2], .agg #[.string c0, .string c1, p2]] w (BoolE true w) := by
  have hA := (RowAt.new w 113 #[.string c0, .string c1, c2]).alloc (.cells #[.string c0, .string c1, p2] 113)
  have hC := RowAt.new1 w (.cells #[.string c0, .string c1, c2] 113) 113 #[.string c0, .string c1, p2]
  have hB := ((Below.refl w.heap.size w).alloc (Nat.le_refl _) (.cells #[.string c0, .string c1, c2] 113)).alloc (by simp) (.cells #[.string c0, .string c1, p2] 113)
  go_enter Tryz.func105, Tryz.ntmps105
  go_wp2_with fail
  generalize (w.alloc (.cells #[.string c0, .string c1, c2] 113)).alloc (.cells #[.string c0, .string c1, p2] 113) = w0 at hA hC hB ⊢
  refine (h2 _ _ _ (r2.later hB) (s2.later hB) q2).mono ?_
  rintro e w1 ⟨rfl, hb⟩
  replace hA := hA.later hb
  replace hC := hC.later hb
  replace hB := hB.trans (hb.mono hB.size)
  clear hb
  go_wp2_with fail
  go_ret
  exact ⟨rfl, hB⟩
set_option maxRecDepth 100000 in
set_option maxHeartbeats 4000000 in
theorem eqSortKey_any (c0 : Int) (c1 : Int) (c2 : Bool) (c3 : Int) (c4 : Int) (c5 : ByteArray) (c6 : ByteArray) (c7 : ByteArray) (c8 : Value) (c9 : Value) (c10 : Bool) (p8 : Value) (p9 : Value) (d8 : Dat) (d9 : Dat) (w : World) (h8 : EqP d8 .exprs) (h9 : EqP d9 .queries) (r8 : Rd w 0 c8 d8) (s8 : Rd w 0 p8 d8) (q8 : Fits d8 .exprs) (r9 : Rd w 0 c9 d9) (s9 : Rd w 0 p9 d9) (q9 : Fits d9 .queries) :
    Calls Tryz.prog 106 #[.agg #[.int .i64 c0, .int .i64 c1, .bool c2, .int .i64 c3, .int .i64 c4, .string c5, .string c6, .string c7, c8, c9, .bool c10], .agg #[.int .i64 c0, .int .i64 c1, .bool c2, .int .i64 c3, .int .i64 c4, .string c5, .string c6, .string c7, p8, p9, .bool c10]] w (BoolE true w) := by
  have hA := (RowAt.new w 115 #[.int .i64 c0, .int .i64 c1, .bool c2, .int .i64 c3, .int .i64 c4, .string c5, .string c6, .string c7, c8, c9, .bool c10]).alloc (.cells #[.int .i64 c0, .int .i64 c1, .bool c2, .int .i64 c3, .int .i64 c4, .string c5, .string c6, .string c7, p8, p9, .bool c10] 115)
  have hC := RowAt.new1 w (.cells #[.int .i64 c0, .int .i64 c1, .bool c2, .int .i64 c3, .int .i64 c4, .string c5, .string c6, .string c7, c8, c9, .bool c10] 115) 115 #[.int .i64 c0, .int .i64 c1, .bool c2, .int .i64 c3, .int .i64 c4, .string c5, .string c6, .string c7, p8, p9, .bool c10]
  have hB := ((Below.refl w.heap.size w).alloc (Nat.le_refl _) (.cells #[.int .i64 c0, .int .i64 c1, .bool c2, .int .i64 c3, .int .i64 c4, .string c5, .string c6, .string c7, c8, c9, .bool c10] 115)).alloc (by simp) (.cells #[.int .i64 c0, .int .i64 c1, .bool c2, .int .i64 c3, .int .i64 c4, .string c5, .string c6, .string c7, p8, p9, .bool c10] 115)
  go_enter Tryz.func106, Tryz.ntmps106
  go_wp2_with fail
  generalize (w.alloc (.cells #[.int .i64 c0, .int .i64 c1, .bool c2, .int .i64 c3, .int .i64 c4, .string c5, .string c6, .string c7, c8, c9, .bool c10] 115)).alloc (.cells #[.int .i64 c0, .int .i64 c1, .bool c2, .int .i64 c3, .int .i64 c4, .string c5, .string c6, .string c7, p8, p9, .bool c10] 115) = w0 at hA hC hB ⊢
  refine (eqExpr_any _ _ _ _ _ _ _ _ _ _ _ _ _ _ _ h8 h9 (r8.later hB) (s8.later hB) q8 (r9.later hB) (s9.later hB) q9).mono ?_
  rintro e w1 ⟨rfl, hb⟩
  replace hA := hA.later hb
  replace hC := hC.later hb
  replace hB := hB.trans (hb.mono hB.size)
  clear hb
  have a10 := hA.cell (i := 10) (v := .bool c10) rfl
  have b10 := hC.cell (i := 10) (v := .bool c10) rfl
  go_wp2_with fail
  go_ret
  exact ⟨rfl, hB⟩
set_option maxRecDepth 100000 in
set_option maxHeartbeats 4000000 in
theorem eqQuery_any (c0 : Bool) (c1 : Value) (c2 : Value) (c3 : Value) (c4 : Value) (c5 : Int) (p1 : Value) (p2 : Value) (p3 : Value) (p4 : Value) (d1 : Dat) (d2 : Dat) (d3 : Dat) (d4 : Dat) (w : World) (h1 : EqP d1 .items) (h2 : EqP d2 .sources) (h3 : EqP d3 .exprs) (h4 : EqP d4 .keys) (r1 : Rd w 0 c1 d1) (s1 : Rd w 0 p1 d1) (q1 : Fits d1 .items) (r2 : Rd w 0 c2 d2) (s2 : Rd w 0 p2 d2) (q2 : Fits d2 .sources) (r3 : Rd w 0 c3 d3) (s3 : Rd w 0 p3 d3) (q3 : Fits d3 .exprs) (r4 : Rd w 0 c4 d4) (s4 : Rd w 0 p4 d4) (q4 : Fits d4 .keys) :
    Calls Tryz.prog 25 #[.agg #[.bool c0, c1, c2, c3, c4, .int .i64 c5], .agg #[.bool c0, p1, p2, p3, p4, .int .i64 c5]] w (BoolE true w) := by
  have hA := (RowAt.new w 39 #[.bool c0, c1, c2, c3, c4, .int .i64 c5]).alloc (.cells #[.bool c0, p1, p2, p3, p4, .int .i64 c5] 39)
  have hC := RowAt.new1 w (.cells #[.bool c0, c1, c2, c3, c4, .int .i64 c5] 39) 39 #[.bool c0, p1, p2, p3, p4, .int .i64 c5]
  have hB := ((Below.refl w.heap.size w).alloc (Nat.le_refl _) (.cells #[.bool c0, c1, c2, c3, c4, .int .i64 c5] 39)).alloc (by simp) (.cells #[.bool c0, p1, p2, p3, p4, .int .i64 c5] 39)
  go_enter Tryz.func25, Tryz.ntmps25
  go_wp2_with fail
  generalize (w.alloc (.cells #[.bool c0, c1, c2, c3, c4, .int .i64 c5] 39)).alloc (.cells #[.bool c0, p1, p2, p3, p4, .int .i64 c5] 39) = w0 at hA hC hB ⊢
  refine (h1 _ _ _ (r1.later hB) (s1.later hB) q1).mono ?_
  rintro e w1 ⟨rfl, hb⟩
  replace hA := hA.later hb
  replace hC := hC.later hb
  replace hB := hB.trans (hb.mono hB.size)
  clear hb
  have a2 := hA.cell (i := 2) (v := c2) rfl
  have b2 := hC.cell (i := 2) (v := p2) rfl
  go_wp2_with fail
  clear a2 b2
  refine (h2 _ _ _ (r2.later hB) (s2.later hB) q2).mono ?_
  rintro e w2 ⟨rfl, hb⟩
  replace hA := hA.later hb
  replace hC := hC.later hb
  replace hB := hB.trans (hb.mono hB.size)
  clear hb
  have a3 := hA.cell (i := 3) (v := c3) rfl
  have b3 := hC.cell (i := 3) (v := p3) rfl
  go_wp2_with fail
  clear a3 b3
  refine (h3 _ _ _ (r3.later hB) (s3.later hB) q3).mono ?_
  rintro e w3 ⟨rfl, hb⟩
  replace hA := hA.later hb
  replace hC := hC.later hb
  replace hB := hB.trans (hb.mono hB.size)
  clear hb
  have a4 := hA.cell (i := 4) (v := c4) rfl
  have b4 := hC.cell (i := 4) (v := p4) rfl
  go_wp2_with fail
  clear a4 b4
  refine (h4 _ _ _ (r4.later hB) (s4.later hB) q4).mono ?_
  rintro e w4 ⟨rfl, hb⟩
  replace hA := hA.later hb
  replace hC := hC.later hb
  replace hB := hB.trans (hb.mono hB.size)
  clear hb
  have a5 := hA.cell (i := 5) (v := .int .i64 c5) rfl
  have b5 := hC.cell (i := 5) (v := .int .i64 c5) rfl
  go_wp2_with fail
  go_ret
  exact ⟨rfl, hB⟩
set_option maxRecDepth 100000 in
set_option maxHeartbeats 4000000 in
theorem eqExprS_any {n k : Nat} {f : Nat → Nat → Dat} (IH : ∀ i j, EqAll (f i j)) : EqP (.sl n k f) .exprs := by
  intro x y w hr hs hf
  obtain ⟨a, cap, rfl⟩ := hr.slice
  obtain ⟨a2, cap2, rfl⟩ := hs.slice
  obtain rfl : k = 10 := hf.2.2.1
  have hn : n ≤ 9223372036854775807 := hf.2.1
  show Calls Tryz.prog 28 #[.slice a n cap, .slice a2 n cap2] w (BoolE true w)
  go_enter Tryz.func28, Tryz.ntmps28
  go_wp2_with fail
  go_loopw [5] (fun i wr => ∃ j : Nat, j ≤ n ∧ i = .int .i64 (j : Int) ∧ Below w.heap.size w wr) (fun i _ => n - (intOf i).toNat)
  case atStart => exact ⟨0, by omega, rfl, Below.refl _ _⟩
  case round =>
    obtain ⟨j, hj, rfl, hB⟩ := hrel
    by_cases hlt : j < n
    · have hlt2 : (j : Int) < (n : Int) := by omega
      have hr2 := hr.later hB
      have hs2 := hs.later hB
      obtain ⟨g, o, rfl, -, hg, c0, c1, c2, c3, c4, c5, c6, c7, c8, c9, ⟨z0, z1, z2, z3, z4, z5, z6, z7, z8, z9⟩, ⟨⟨e0, b0⟩, ⟨e1, b1⟩, e2, ⟨e3, b3⟩, ⟨e4, b4⟩, ⟨e5, b5⟩, ⟨e6, b6⟩, ⟨e7, b7⟩, ⟨r8, q8⟩, ⟨r9, q9⟩⟩⟩ := row_exprs hr2 hf hlt
      obtain ⟨g2, o2, rfl, -, hg2, x0, x1, x2, x3, x4, x5, x6, x7, x8, x9, ⟨k0, k1, k2, k3, k4, k5, k6, k7, k8, k9⟩, ⟨⟨l0, -⟩, ⟨l1, -⟩, l2, ⟨l3, -⟩, ⟨l4, -⟩, ⟨l5, -⟩, ⟨l6, -⟩, ⟨l7, -⟩, ⟨s8, -⟩, ⟨s9, -⟩⟩⟩ := row_exprs hs2 hf hlt
      obtain rfl : c0 = x0 := by rw [e0] at l0; injection l0 with l; injection l
      obtain rfl : c1 = x1 := by rw [e1] at l1; injection l1 with l; injection l
      obtain rfl : c2 = x2 := by rw [e2] at l2; injection l2 with l; injection l
      obtain rfl : c3 = x3 := by rw [e3] at l3; injection l3 with l; injection l
      obtain rfl : c4 = x4 := by rw [e4] at l4; injection l4 with l; injection l
      obtain rfl : c5 = x5 := by rw [e5] at l5; injection l5 with l; injection l
      obtain rfl : c6 = x6 := by rw [e6] at l6; injection l6 with l; injection l
      obtain rfl : c7 = x7 := by rw [e7] at l7; injection l7 with l; injection l
      have hE := fun (v : World) (h : Below wr.heap.size wr v) => eqExpr_any c0 c1 c2 c3 c4 c5 c6 c7 c8 c9 x8 x9 (f j 8) (f j 9) v (IH j 8 .exprs rfl) (IH j 9 .queries rfl) (Rd.later (w := wr) r8 h) (Rd.later (w := wr) s8 h) q8 (Rd.later (w := wr) r9 h) (Rd.later (w := wr) s9 h) q9
      clear hr2 hs2 e0 l0 e1 l1 e2 l2 e3 l3 e4 l4 e5 l5 e6 l6 e7 l7 b0 b1 b3 b4 b5 b6 b7
      go_wp2_with fail
      replace z0 := lat_cell z0
      replace k0 := lat_cell k0
      replace z1 := lat_cell z1
      replace k1 := lat_cell k1
      replace z2 := lat_cell z2
      replace k2 := lat_cell k2
      replace z3 := lat_cell z3
      replace k3 := lat_cell k3
      replace z4 := lat_cell z4
      replace k4 := lat_cell k4
      replace z5 := lat_cell z5
      replace k5 := lat_cell k5
      replace z6 := lat_cell z6
      replace k6 := lat_cell k6
      replace z7 := lat_cell z7
      replace k7 := lat_cell k7
      replace z8 := lat_cell z8
      replace k8 := lat_cell k8
      replace z9 := lat_cell z9
      replace k9 := lat_cell k9
      refine region_lat (by kernel_rfl) (by kernel_rfl) ?_
      iterate 10 (go_big_quiet_step ((refine (hE _ (lat_below wr _)).mono ?_; rintro e w'' ⟨rfl, hb''⟩; exact ⟨rfl, lat_to hb''⟩)))
      refine wpQuiet_nil ?_
      rintro _ ⟨nq, rfl⟩
      have hbq := hB.trans ((lat_below wr nq).mono hB.size)
      clear hE z0 k0 z1 k1 z2 k2 z3 k3 z4 k4 z5 k5 z6 k6 z7 k7 z8 k8 z9 k9
      generalize lat wr nq = wq at hbq ⊢
      go_wp2_with fail
      go_roundw
      case rel => exact ⟨j + 1, by omega, by go_num, hbq⟩
      case measure => simp [intOf]; omega
    · obtain rfl : j = n := by omega
      go_wp2_with fail
      go_ret
      exact ⟨rfl, hB⟩
set_option maxRecDepth 100000 in
set_option maxHeartbeats 4000000 in
theorem eqItemS_any {n k : Nat} {f : Nat → Nat → Dat} (IH : ∀ i j, EqAll (f i j)) : EqP (.sl n k f) .items := by
  intro x y w hr hs hf
  obtain ⟨a, cap, rfl⟩ := hr.slice
  obtain ⟨a2, cap2, rfl⟩ := hs.slice
  obtain rfl : k = 13 := hf.2.2.1
  have hn : n ≤ 9223372036854775807 := hf.2.1
  show Calls Tryz.prog 60 #[.slice a n cap, .slice a2 n cap2] w (BoolE true w)
  go_enter Tryz.func60, Tryz.ntmps60
  go_wp2_with fail
  go_loopw [5] (fun i wr => ∃ j : Nat, j ≤ n ∧ i = .int .i64 (j : Int) ∧ Below w.heap.size w wr) (fun i _ => n - (intOf i).toNat)
  case atStart => exact ⟨0, by omega, rfl, Below.refl _ _⟩
  case round =>
    obtain ⟨j, hj, rfl, hB⟩ := hrel
    by_cases hlt : j < n
    · have hlt2 : (j : Int) < (n : Int) := by omega
      have hr2 := hr.later hB
      have hs2 := hs.later hB
      obtain ⟨g, o, rfl, -, hg, c0, c1, c2, c3, c4, c5, c6, c7, c8, c9, c10, c11, c12, ⟨z0, z1, z2, z3, z4, z5, z6, z7, z8, z9, z10, z11, z12⟩, ⟨e0, ⟨e1, b1⟩, ⟨e2, b2⟩, ⟨e3, b3⟩, e4, ⟨e5, b5⟩, ⟨e6, b6⟩, ⟨e7, b7⟩, ⟨e8, b8⟩, ⟨e9, b9⟩, ⟨r10, q10⟩, ⟨r11, q11⟩, ⟨e12, b12⟩⟩⟩ := row_items hr2 hf hlt
      obtain ⟨g2, o2, rfl, -, hg2, x0, x1, x2, x3, x4, x5, x6, x7, x8, x9, x10, x11, x12, ⟨k0, k1, k2, k3, k4, k5, k6, k7, k8, k9, k10, k11, k12⟩, ⟨l0, ⟨l1, -⟩, ⟨l2, -⟩, ⟨l3, -⟩, l4, ⟨l5, -⟩, ⟨l6, -⟩, ⟨l7, -⟩, ⟨l8, -⟩, ⟨l9, -⟩, ⟨s10, -⟩, ⟨s11, -⟩, ⟨l12, -⟩⟩⟩ := row_items hs2 hf hlt
      obtain rfl : c0 = x0 := by rw [e0] at l0; injection l0 with l; injection l
      obtain rfl : c1 = x1 := by rw [e1] at l1; injection l1 with l; injection l
      obtain rfl : c2 = x2 := by rw [e2] at l2; injection l2 with l; injection l
      obtain rfl : c3 = x3 := by rw [e3] at l3; injection l3 with l; injection l
      obtain rfl : c4 = x4 := by rw [e4] at l4; injection l4 with l; injection l
      obtain rfl : c5 = x5 := by rw [e5] at l5; injection l5 with l; injection l
      obtain rfl : c6 = x6 := by rw [e6] at l6; injection l6 with l; injection l
      obtain rfl : c7 = x7 := by rw [e7] at l7; injection l7 with l; injection l
      obtain rfl : c8 = x8 := by rw [e8] at l8; injection l8 with l; injection l
      obtain rfl : c9 = x9 := by rw [e9] at l9; injection l9 with l; injection l
      obtain rfl : c12 = x12 := by rw [e12] at l12; injection l12 with l; injection l
      have hE := fun (v : World) (h : Below wr.heap.size wr v) => eqItem_any c0 c1 c2 c3 c4 c5 c6 c7 c8 c9 c10 c11 c12 x10 x11 (f j 10) (f j 11) v (IH j 10 .exprs rfl) (IH j 11 .queries rfl) (Rd.later (w := wr) r10 h) (Rd.later (w := wr) s10 h) q10 (Rd.later (w := wr) r11 h) (Rd.later (w := wr) s11 h) q11
      clear hr2 hs2 e0 l0 e1 l1 e2 l2 e3 l3 e4 l4 e5 l5 e6 l6 e7 l7 e8 l8 e9 l9 e12 l12 b1 b2 b3 b5 b6 b7 b8 b9 b12
      go_wp2_with fail
      replace z0 := lat_cell z0
      replace k0 := lat_cell k0
      replace z1 := lat_cell z1
      replace k1 := lat_cell k1
      replace z2 := lat_cell z2
      replace k2 := lat_cell k2
      replace z3 := lat_cell z3
      replace k3 := lat_cell k3
      replace z4 := lat_cell z4
      replace k4 := lat_cell k4
      replace z5 := lat_cell z5
      replace k5 := lat_cell k5
      replace z6 := lat_cell z6
      replace k6 := lat_cell k6
      replace z7 := lat_cell z7
      replace k7 := lat_cell k7
      replace z8 := lat_cell z8
      replace k8 := lat_cell k8
      replace z9 := lat_cell z9
      replace k9 := lat_cell k9
      replace z10 := lat_cell z10
      replace k10 := lat_cell k10
      replace z11 := lat_cell z11
      replace k11 := lat_cell k11
      replace z12 := lat_cell z12
      replace k12 := lat_cell k12
      refine region_lat (by kernel_rfl) (by kernel_rfl) ?_
      iterate 10 (go_big_quiet_step ((refine (hE _ (lat_below wr _)).mono ?_; rintro e w'' ⟨rfl, hb''⟩; exact ⟨rfl, lat_to hb''⟩)))
      refine wpQuiet_nil ?_
      rintro _ ⟨nq, rfl⟩
      have hbq := hB.trans ((lat_below wr nq).mono hB.size)
      clear hE z0 k0 z1 k1 z2 k2 z3 k3 z4 k4 z5 k5 z6 k6 z7 k7 z8 k8 z9 k9 z10 k10 z11 k11 z12 k12
      generalize lat wr nq = wq at hbq ⊢
      go_wp2_with fail
      go_roundw
      case rel => exact ⟨j + 1, by omega, by go_num, hbq⟩
      case measure => simp [intOf]; omega
    · obtain rfl : j = n := by omega
      go_wp2_with fail
      go_ret
      exact ⟨rfl, hB⟩
set_option maxRecDepth 100000 in
set_option maxHeartbeats 4000000 in
theorem eqSourceS_any {n k : Nat} {f : Nat → Nat → Dat} (IH : ∀ i j, EqAll (f i j)) : EqP (.sl n k f) .sources := by
  intro x y w hr hs hf
  obtain ⟨a, cap, rfl⟩ := hr.slice
  obtain ⟨a2, cap2, rfl⟩ := hs.slice
  obtain rfl : k = 3 := hf.2.2.1
  have hn : n ≤ 9223372036854775807 := hf.2.1
  show Calls Tryz.prog 61 #[.slice a n cap, .slice a2 n cap2] w (BoolE true w)
  go_enter Tryz.func61, Tryz.ntmps61
  go_wp2_with fail
  go_loopw [5] (fun i wr => ∃ j : Nat, j ≤ n ∧ i = .int .i64 (j : Int) ∧ Below w.heap.size w wr) (fun i _ => n - (intOf i).toNat)
  case atStart => exact ⟨0, by omega, rfl, Below.refl _ _⟩
  case round =>
    obtain ⟨j, hj, rfl, hB⟩ := hrel
    by_cases hlt : j < n
    · have hlt2 : (j : Int) < (n : Int) := by omega
      have hr2 := hr.later hB
      have hs2 := hs.later hB
      obtain ⟨g, o, rfl, -, hg, c0, c1, c2, ⟨z0, z1, z2⟩, ⟨⟨e0, b0⟩, ⟨e1, b1⟩, ⟨r2, q2⟩⟩⟩ := row_sources hr2 hf hlt
      obtain ⟨g2, o2, rfl, -, hg2, x0, x1, x2, ⟨k0, k1, k2⟩, ⟨⟨l0, -⟩, ⟨l1, -⟩, ⟨s2, -⟩⟩⟩ := row_sources hs2 hf hlt
      obtain rfl : c0 = x0 := by rw [e0] at l0; injection l0 with l; injection l
      obtain rfl : c1 = x1 := by rw [e1] at l1; injection l1 with l; injection l
      have hE := fun (v : World) (h : Below wr.heap.size wr v) => eqSource_any c0 c1 c2 x2 (f j 2) v (IH j 2 .exprs rfl) (Rd.later (w := wr) r2 h) (Rd.later (w := wr) s2 h) q2
      clear hr2 hs2 e0 l0 e1 l1 b0 b1
      go_wp2_with fail
      replace z0 := lat_cell z0
      replace k0 := lat_cell k0
      replace z1 := lat_cell z1
      replace k1 := lat_cell k1
      replace z2 := lat_cell z2
      replace k2 := lat_cell k2
      refine region_lat (by kernel_rfl) (by kernel_rfl) ?_
      iterate 10 (go_big_quiet_step ((refine (hE _ (lat_below wr _)).mono ?_; rintro e w'' ⟨rfl, hb''⟩; exact ⟨rfl, lat_to hb''⟩)))
      refine wpQuiet_nil ?_
      rintro _ ⟨nq, rfl⟩
      have hbq := hB.trans ((lat_below wr nq).mono hB.size)
      clear hE z0 k0 z1 k1 z2 k2
      generalize lat wr nq = wq at hbq ⊢
      go_wp2_with fail
      go_roundw
      case rel => exact ⟨j + 1, by omega, by go_num, hbq⟩
      case measure => simp [intOf]; omega
    · obtain rfl : j = n := by omega
      go_wp2_with fail
      go_ret
      exact ⟨rfl, hB⟩
set_option maxRecDepth 100000 in
set_option maxHeartbeats 4000000 in
theorem eqSortKeyS_any {n k : Nat} {f : Nat → Nat → Dat} (IH : ∀ i j, EqAll (f i j)) : EqP (.sl n k f) .keys := by
  intro x y w hr hs hf
  obtain ⟨a, cap, rfl⟩ := hr.slice
  obtain ⟨a2, cap2, rfl⟩ := hs.slice
  obtain rfl : k = 11 := hf.2.2.1
  have hn : n ≤ 9223372036854775807 := hf.2.1
  show Calls Tryz.prog 62 #[.slice a n cap, .slice a2 n cap2] w (BoolE true w)
  go_enter Tryz.func62, Tryz.ntmps62
  go_wp2_with fail
  go_loopw [5] (fun i wr => ∃ j : Nat, j ≤ n ∧ i = .int .i64 (j : Int) ∧ Below w.heap.size w wr) (fun i _ => n - (intOf i).toNat)
  case atStart => exact ⟨0, by omega, rfl, Below.refl _ _⟩
  case round =>
    obtain ⟨j, hj, rfl, hB⟩ := hrel
    by_cases hlt : j < n
    · have hlt2 : (j : Int) < (n : Int) := by omega
      have hr2 := hr.later hB
      have hs2 := hs.later hB
      obtain ⟨g, o, rfl, -, hg, c0, c1, c2, c3, c4, c5, c6, c7, c8, c9, c10, ⟨z0, z1, z2, z3, z4, z5, z6, z7, z8, z9, z10⟩, ⟨⟨e0, b0⟩, ⟨e1, b1⟩, e2, ⟨e3, b3⟩, ⟨e4, b4⟩, ⟨e5, b5⟩, ⟨e6, b6⟩, ⟨e7, b7⟩, ⟨r8, q8⟩, ⟨r9, q9⟩, e10⟩⟩ := row_keys hr2 hf hlt
      obtain ⟨g2, o2, rfl, -, hg2, x0, x1, x2, x3, x4, x5, x6, x7, x8, x9, x10, ⟨k0, k1, k2, k3, k4, k5, k6, k7, k8, k9, k10⟩, ⟨⟨l0, -⟩, ⟨l1, -⟩, l2, ⟨l3, -⟩, ⟨l4, -⟩, ⟨l5, -⟩, ⟨l6, -⟩, ⟨l7, -⟩, ⟨s8, -⟩, ⟨s9, -⟩, l10⟩⟩ := row_keys hs2 hf hlt
      obtain rfl : c0 = x0 := by rw [e0] at l0; injection l0 with l; injection l
      obtain rfl : c1 = x1 := by rw [e1] at l1; injection l1 with l; injection l
      obtain rfl : c2 = x2 := by rw [e2] at l2; injection l2 with l; injection l
      obtain rfl : c3 = x3 := by rw [e3] at l3; injection l3 with l; injection l
      obtain rfl : c4 = x4 := by rw [e4] at l4; injection l4 with l; injection l
      obtain rfl : c5 = x5 := by rw [e5] at l5; injection l5 with l; injection l
      obtain rfl : c6 = x6 := by rw [e6] at l6; injection l6 with l; injection l
      obtain rfl : c7 = x7 := by rw [e7] at l7; injection l7 with l; injection l
      obtain rfl : c10 = x10 := by rw [e10] at l10; injection l10 with l; injection l
      have hE := fun (v : World) (h : Below wr.heap.size wr v) => eqSortKey_any c0 c1 c2 c3 c4 c5 c6 c7 c8 c9 c10 x8 x9 (f j 8) (f j 9) v (IH j 8 .exprs rfl) (IH j 9 .queries rfl) (Rd.later (w := wr) r8 h) (Rd.later (w := wr) s8 h) q8 (Rd.later (w := wr) r9 h) (Rd.later (w := wr) s9 h) q9
      clear hr2 hs2 e0 l0 e1 l1 e2 l2 e3 l3 e4 l4 e5 l5 e6 l6 e7 l7 e10 l10 b0 b1 b3 b4 b5 b6 b7
      go_wp2_with fail
      replace z0 := lat_cell z0
      replace k0 := lat_cell k0
      replace z1 := lat_cell z1
      replace k1 := lat_cell k1
      replace z2 := lat_cell z2
      replace k2 := lat_cell k2
      replace z3 := lat_cell z3
      replace k3 := lat_cell k3
      replace z4 := lat_cell z4
      replace k4 := lat_cell k4
      replace z5 := lat_cell z5
      replace k5 := lat_cell k5
      replace z6 := lat_cell z6
      replace k6 := lat_cell k6
      replace z7 := lat_cell z7
      replace k7 := lat_cell k7
      replace z8 := lat_cell z8
      replace k8 := lat_cell k8
      replace z9 := lat_cell z9
      replace k9 := lat_cell k9
      replace z10 := lat_cell z10
      replace k10 := lat_cell k10
      refine region_lat (by kernel_rfl) (by kernel_rfl) ?_
      iterate 10 (go_big_quiet_step ((refine (hE _ (lat_below wr _)).mono ?_; rintro e w'' ⟨rfl, hb''⟩; exact ⟨rfl, lat_to hb''⟩)))
      refine wpQuiet_nil ?_
      rintro _ ⟨nq, rfl⟩
      have hbq := hB.trans ((lat_below wr nq).mono hB.size)
      clear hE z0 k0 z1 k1 z2 k2 z3 k3 z4 k4 z5 k5 z6 k6 z7 k7 z8 k8 z9 k9 z10 k10
      generalize lat wr nq = wq at hbq ⊢
      go_wp2_with fail
      go_roundw
      case rel => exact ⟨j + 1, by omega, by go_num, hbq⟩
      case measure => simp [intOf]; omega
    · obtain rfl : j = n := by omega
      go_wp2_with fail
      go_ret
      exact ⟨rfl, hB⟩
set_option maxRecDepth 100000 in
set_option maxHeartbeats 4000000 in
theorem eqQueryS_any {n k : Nat} {f : Nat → Nat → Dat} (IH : ∀ i j, EqAll (f i j)) : EqP (.sl n k f) .queries := by
  intro x y w hr hs hf
  obtain ⟨a, cap, rfl⟩ := hr.slice
  obtain ⟨a2, cap2, rfl⟩ := hs.slice
  obtain rfl : k = 6 := hf.2.2.1
  have hn : n ≤ 9223372036854775807 := hf.2.1
  show Calls Tryz.prog 108 #[.slice a n cap, .slice a2 n cap2] w (BoolE true w)
  go_enter Tryz.func108, Tryz.ntmps108
  go_wp2_with fail
  go_loopw [5] (fun i wr => ∃ j : Nat, j ≤ n ∧ i = .int .i64 (j : Int) ∧ Below w.heap.size w wr) (fun i _ => n - (intOf i).toNat)
  case atStart => exact ⟨0, by omega, rfl, Below.refl _ _⟩
  case round =>
    obtain ⟨j, hj, rfl, hB⟩ := hrel
    by_cases hlt : j < n
    · have hlt2 : (j : Int) < (n : Int) := by omega
      have hr2 := hr.later hB
      have hs2 := hs.later hB
      obtain ⟨g, o, rfl, -, hg, c0, c1, c2, c3, c4, c5, ⟨z0, z1, z2, z3, z4, z5⟩, ⟨e0, ⟨r1, q1⟩, ⟨r2, q2⟩, ⟨r3, q3⟩, ⟨r4, q4⟩, ⟨e5, b5⟩⟩⟩ := row_queries hr2 hf hlt
      obtain ⟨g2, o2, rfl, -, hg2, x0, x1, x2, x3, x4, x5, ⟨k0, k1, k2, k3, k4, k5⟩, ⟨l0, ⟨s1, -⟩, ⟨s2, -⟩, ⟨s3, -⟩, ⟨s4, -⟩, ⟨l5, -⟩⟩⟩ := row_queries hs2 hf hlt
      obtain rfl : c0 = x0 := by rw [e0] at l0; injection l0 with l; injection l
      obtain rfl : c5 = x5 := by rw [e5] at l5; injection l5 with l; injection l
      have hE := fun (v : World) (h : Below wr.heap.size wr v) => eqQuery_any c0 c1 c2 c3 c4 c5 x1 x2 x3 x4 (f j 1) (f j 2) (f j 3) (f j 4) v (IH j 1 .items rfl) (IH j 2 .sources rfl) (IH j 3 .exprs rfl) (IH j 4 .keys rfl) (Rd.later (w := wr) r1 h) (Rd.later (w := wr) s1 h) q1 (Rd.later (w := wr) r2 h) (Rd.later (w := wr) s2 h) q2 (Rd.later (w := wr) r3 h) (Rd.later (w := wr) s3 h) q3 (Rd.later (w := wr) r4 h) (Rd.later (w := wr) s4 h) q4
      clear hr2 hs2 e0 l0 e5 l5 b5
      go_wp2_with fail
      replace z0 := lat_cell z0
      replace k0 := lat_cell k0
      replace z1 := lat_cell z1
      replace k1 := lat_cell k1
      replace z2 := lat_cell z2
      replace k2 := lat_cell k2
      replace z3 := lat_cell z3
      replace k3 := lat_cell k3
      replace z4 := lat_cell z4
      replace k4 := lat_cell k4
      replace z5 := lat_cell z5
      replace k5 := lat_cell k5
      refine region_lat (by kernel_rfl) (by kernel_rfl) ?_
      iterate 10 (go_big_quiet_step ((refine (hE _ (lat_below wr _)).mono ?_; rintro e w'' ⟨rfl, hb''⟩; exact ⟨rfl, lat_to hb''⟩)))
      refine wpQuiet_nil ?_
      rintro _ ⟨nq, rfl⟩
      have hbq := hB.trans ((lat_below wr nq).mono hB.size)
      clear hE z0 k0 z1 k1 z2 k2 z3 k3 z4 k4 z5 k5
      generalize lat wr nq = wq at hbq ⊢
      go_wp2_with fail
      go_roundw
      case rel => exact ⟨j + 1, by omega, by go_num, hbq⟩
      case measure => simp [intOf]; omega
    · obtain rfl : j = n := by omega
      go_wp2_with fail
      go_ret
      exact ⟨rfl, hB⟩
theorem eqAll : ∀ d : Dat, EqAll d
  | .v x => fun ty hd y m w _ _ hf => by cases ty <;> first | (cases hd; done) | exact hf.elim
  | .sl n k f => fun ty hd => by
    have IH : ∀ i j, EqAll (f i j) := fun i j => eqAll (f i j)
    cases ty
    case int => cases hd
    case bool => cases hd
    case str => cases hd
    case rows => cases hd
    case names => cases hd
    case exprs => exact eqExprS_any IH
    case items => exact eqItemS_any IH
    case sources => exact eqSourceS_any IH
    case keys => exact eqSortKeyS_any IH
    case queries => exact eqQueryS_any IH
end Go.Proofs.YtcliijfdlcagoaaGreat
