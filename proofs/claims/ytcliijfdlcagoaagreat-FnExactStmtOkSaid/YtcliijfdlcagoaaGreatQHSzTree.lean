/- Joined texts: SzTree. -/
import Derived.Test.YtcliijfdlcagoaaGreatQZAA
import Derived.Test.YtcliijfdlcagoaaGreatQZAD
namespace Go.Proofs.YtcliijfdlcagoaaGreat
set_option linter.unusedVariables false
set_option linter.unusedSimpArgs false
open Go.RowKit
def szFn : Ty → Nat
  | .exprs => 12
  | .items => 29
  | .sources => 30
  | .keys => 31
  | .queries => 68
  | _ => 0
def SzP (d : Dat) (ty : Ty) : Prop := ∀ (x : Value) (m : Int) (w : World), 0 ≤ m → m ≤ 1048576 → Rd w 0 x d → Fits d ty → Calls Tryz.prog (szFn ty) #[x, .int .i64 m] w (IntE (leftOf m (msr d)) w)
def SzAll (d : Dat) : Prop := ∀ ty, tree ty = true → SzP d ty
theorem leftOf_no {m s : Int} (h : m - s < 0) : leftOf m s = -1 := by unfold leftOf; rw [if_pos h]
theorem leftOf_yes {m s : Int} (h : ¬ m - s < 0) : leftOf m s = m - s := by unfold leftOf; rw [if_neg h]
theorem leftOf_is {m r s : Int} (h : r = m - s) (h0 : 0 ≤ r) : r = leftOf m s := by rw [leftOf_yes (by omega)]; exact h
theorem leftOf_is1 {m s : Int} (h : m - s < 0) : -1 = leftOf m s := (leftOf_no h).symm
def rowm (f : Nat → Nat → Dat) (k i : Nat) : Nat := ((List.range k).map fun j => msr (f i j)).sum
def partm (f : Nat → Nat → Dat) (k i : Nat) : Nat := ((List.range i).map fun i => rowm f k i).sum
theorem partm_succ (f : Nat → Nat → Dat) (k i : Nat) : partm f k (i + 1) = partm f k i + rowm f k i := by unfold partm; rw [List.range_succ]; simp
theorem partm_le (f : Nat → Nat → Dat) (k : Nat) {i n : Nat} (h : i ≤ n) : partm f k i ≤ partm f k n := by
  induction n with
  | zero => obtain rfl : i = 0 := by omega
            exact Nat.le_refl _
  | succ n ih =>
    by_cases e : i = n + 1
    · rw [e]; exact Nat.le_refl _
    · rw [partm_succ]; have := ih (by omega); omega
theorem msr_is (n k : Nat) (f : Nat → Nat → Dat) : msr (.sl n k f) = n + partm f k n := by rw [msr]; rfl
theorem msr_str (s : ByteArray) : msr (.v (.string s)) = s.size := by unfold msr; rfl
theorem msr_int (k : IntKind) (n : Int) : msr (.v (.int k n)) = 0 := by unfold msr; rfl
theorem msr_bool (b : Bool) : msr (.v (.bool b)) = 0 := by unfold msr; rfl
set_option maxRecDepth 100000 in
set_option maxHeartbeats 4000000 in
theorem szExpr_any (c0 : Int) (c1 : Int) (c2 : Bool) (c3 : Int) (c4 : Int) (c5 : ByteArray) (c6 : ByteArray) (c7 : ByteArray) (c8 : Value) (c9 : Value) (d8 : Dat) (d9 : Dat) (m : Int) (w : World) (h0 : 0 ≤ m) (h1 : m ≤ 1048576) (h8 : SzP d8 .exprs) (h9 : SzP d9 .queries) (r8 : Rd w 0 c8 d8) (q8 : Fits d8 .exprs) (r9 : Rd w 0 c9 d9) (q9 : Fits d9 .queries) (b5 : c5.size ≤ 9223372036854775807) (b6 : c6.size ≤ 9223372036854775807) (b7 : c7.size ≤ 9223372036854775807) :
    Calls Tryz.prog 32 #[.agg #[.int .i64 c0, .int .i64 c1, .bool c2, .int .i64 c3, .int .i64 c4, .string c5, .string c6, .string c7, c8, c9], .int .i64 m] w (IntE (leftOf m (c5.size + c6.size + c7.size + msr d8 + msr d9)) w) := by
  have hR0 := RowAt.new w 70 #[.int .i64 c0, .int .i64 c1, .bool c2, .int .i64 c3, .int .i64 c4, .string c5, .string c6, .string c7, c8, c9]
  have hB0 := (Below.refl w.heap.size w).alloc (Nat.le_refl _) (.cells #[.int .i64 c0, .int .i64 c1, .bool c2, .int .i64 c3, .int .i64 c4, .string c5, .string c6, .string c7, c8, c9] 70)
  go_enter Tryz.func32, Tryz.ntmps32
  go_wp2_with fail
  generalize w.alloc (.cells #[.int .i64 c0, .int .i64 c1, .bool c2, .int .i64 c3, .int .i64 c4, .string c5, .string c6, .string c7, c8, c9] 70) = w0 at hR0 hB0 ⊢
  have y0 := fun (v : World) (hv : Below w.heap.size w v) => szValue_any c3 c4 c5 (m) v b5 (by omega) (by omega)
  by_cases t0 : m - (c5.size : Int) < 0
  · simp only [leftOf_no t0] at y0
    refine (y0 _ hB0).mono ?_
    rintro e w1 ⟨rfl, hb⟩
    have hB1 := hB0.trans (hb.mono hB0.size)
    go_wp2_with fail
    go_ret
    exact ⟨ret_i64 (leftOf_is1 (by omega)), hB1⟩
  obtain ⟨R1, hR1_⟩ : ∃ z : Int, z = m - (c5.size : Int) := ⟨_, rfl⟩
  have l0 := (leftOf_yes t0).trans hR1_.symm
  have E1 := Lib.hid hR1_
  have k1 : 0 ≤ R1 := by omega
  have kk1 : R1 ≤ 1048576 := by omega
  clear hR1_ t0
  simp only [l0] at y0
  clear l0
  have j1 : decide (R1 < 0) = false := by simpa using k1
  refine (y0 _ hB0).mono ?_
  rintro e w1 ⟨rfl, hb⟩
  have hB1 := hB0.trans (hb.mono hB0.size)
  have hR1 := hR0.later hb
  clear hb y0
  have a6 := hR1.cell (i := 6) rfl
  have a7 := hR1.cell (i := 7) rfl
  have a8 := hR1.cell (i := 8) rfl
  by_cases t1 : R1 - (c6.size : Int) < 0
  · have x1 : decide (R1 - (c6.size : Int) < 0) = true := by simpa using t1
    go_wp2_with fail
    go_ret
    exact ⟨ret_i64 (leftOf_is1 (by have := E1.out; omega)), hB1⟩
  have x1 : decide (R1 - (c6.size : Int) < 0) = false := by simpa using t1
  by_cases t2 : (R1 - (c6.size : Int)) - (c7.size : Int) < 0
  · have x2 : decide ((R1 - (c6.size : Int)) - (c7.size : Int) < 0) = true := by simpa using t2
    go_wp2_with fail
    go_ret
    exact ⟨ret_i64 (leftOf_is1 (by have := E1.out; omega)), hB1⟩
  have x2 : decide ((R1 - (c6.size : Int)) - (c7.size : Int) < 0) = false := by simpa using t2
  go_wp2_with fail
  have y3 := fun (v : World) (hv : Below w.heap.size w v) => h8 c8 (((R1 - (c6.size : Int)) - (c7.size : Int))) v (by have := E1.out; omega) (by have := E1.out; omega) (r8.later hv) q8
  by_cases t3 : ((R1 - (c6.size : Int)) - (c7.size : Int)) - (msr d8 : Int) < 0
  · simp only [leftOf_no t3] at y3
    refine (y3 _ hB1).mono ?_
    rintro e w2 ⟨rfl, hb⟩
    have hB2 := hB1.trans (hb.mono hB1.size)
    go_wp2_with fail
    go_ret
    exact ⟨ret_i64 (leftOf_is1 (by have := E1.out; omega)), hB2⟩
  obtain ⟨R2, hR2_⟩ : ∃ z : Int, z = ((R1 - (c6.size : Int)) - (c7.size : Int)) - (msr d8 : Int) := ⟨_, rfl⟩
  have l3 := (leftOf_yes t3).trans hR2_.symm
  have E2 := Lib.hid hR2_
  have k2 : 0 ≤ R2 := by omega
  have kk2 : R2 ≤ 1048576 := by have := E1.out; omega
  clear hR2_ t3
  simp only [l3] at y3
  clear l3
  have j2 : decide (R2 < 0) = false := by simpa using k2
  refine (y3 _ hB1).mono ?_
  rintro e w2 ⟨rfl, hb⟩
  have hB2 := hB1.trans (hb.mono hB1.size)
  have hR2 := hR1.later hb
  clear hb y3
  have a9 := hR2.cell (i := 9) rfl
  go_wp2_with fail
  have y4 := fun (v : World) (hv : Below w.heap.size w v) => h9 c9 (R2) v (by have := E1.out; have := E2.out; omega) (by have := E1.out; have := E2.out; omega) (r9.later hv) q9
  by_cases t4 : R2 - (msr d9 : Int) < 0
  · simp only [leftOf_no t4] at y4
    refine (y4 _ hB2).mono ?_
    rintro e w3 ⟨rfl, hb⟩
    have hB3 := hB2.trans (hb.mono hB2.size)
    go_wp2_with fail
    go_ret
    exact ⟨ret_i64 (leftOf_is1 (by have := E1.out; have := E2.out; omega)), hB3⟩
  obtain ⟨R3, hR3_⟩ : ∃ z : Int, z = R2 - (msr d9 : Int) := ⟨_, rfl⟩
  have l4 := (leftOf_yes t4).trans hR3_.symm
  have E3 := Lib.hid hR3_
  have k3 : 0 ≤ R3 := by omega
  have kk3 : R3 ≤ 1048576 := by have := E1.out; have := E2.out; omega
  clear hR3_ t4
  simp only [l4] at y4
  clear l4
  have j3 : decide (R3 < 0) = false := by simpa using k3
  refine (y4 _ hB2).mono ?_
  rintro e w3 ⟨rfl, hb⟩
  have hB3 := hB2.trans (hb.mono hB2.size)
  have hR3 := hR2.later hb
  clear hb y4
  go_wp2_with fail
  go_ret
  exact ⟨ret_i64 (leftOf_is (by have := E1.out; have := E2.out; have := E3.out; omega) (by have := E1.out; have := E2.out; have := E3.out; omega)), hB3⟩
set_option maxRecDepth 100000 in
set_option maxHeartbeats 4000000 in
theorem szItem_any (c0 : Bool) (c1 : ByteArray) (c2 : Int) (c3 : Int) (c4 : Bool) (c5 : Int) (c6 : Int) (c7 : ByteArray) (c8 : ByteArray) (c9 : ByteArray) (c10 : Value) (c11 : Value) (c12 : ByteArray) (d10 : Dat) (d11 : Dat) (m : Int) (w : World) (h0 : 0 ≤ m) (h1 : m ≤ 1048576) (h10 : SzP d10 .exprs) (h11 : SzP d11 .queries) (r10 : Rd w 0 c10 d10) (q10 : Fits d10 .exprs) (r11 : Rd w 0 c11 d11) (q11 : Fits d11 .queries) (b1 : c1.size ≤ 9223372036854775807) (b7 : c7.size ≤ 9223372036854775807) (b8 : c8.size ≤ 9223372036854775807) (b9 : c9.size ≤ 9223372036854775807) (b12 : c12.size ≤ 9223372036854775807) :
    Calls Tryz.prog 64 #[.agg #[.bool c0, .string c1, .int .i64 c2, .int .i64 c3, .bool c4, .int .i64 c5, .int .i64 c6, .string c7, .string c8, .string c9, c10, c11, .string c12], .int .i64 m] w (IntE (leftOf m (c1.size + (c7.size + c8.size + c9.size + msr d10 + msr d11) + c12.size)) w) := by
  have hR0 := RowAt.new w 101 #[.bool c0, .string c1, .int .i64 c2, .int .i64 c3, .bool c4, .int .i64 c5, .int .i64 c6, .string c7, .string c8, .string c9, c10, c11, .string c12]
  have hB0 := (Below.refl w.heap.size w).alloc (Nat.le_refl _) (.cells #[.bool c0, .string c1, .int .i64 c2, .int .i64 c3, .bool c4, .int .i64 c5, .int .i64 c6, .string c7, .string c8, .string c9, c10, c11, .string c12] 101)
  go_enter Tryz.func64, Tryz.ntmps64
  by_cases t0 : m - (c1.size : Int) < 0
  · have x0 : decide (m - (c1.size : Int) < 0) = true := by simpa using t0
    go_wp2_with fail
    go_ret
    exact ⟨ret_i64 (leftOf_is1 (by omega)), hB0⟩
  have x0 : decide (m - (c1.size : Int) < 0) = false := by simpa using t0
  go_wp2_with fail
  generalize w.alloc (.cells #[.bool c0, .string c1, .int .i64 c2, .int .i64 c3, .bool c4, .int .i64 c5, .int .i64 c6, .string c7, .string c8, .string c9, c10, c11, .string c12] 101) = w0 at hR0 hB0 ⊢
  have y1 := fun (v : World) (hv : Below w.heap.size w v) => szExpr_any c2 c3 c4 c5 c6 c7 c8 c9 c10 c11 d10 d11 ((m - (c1.size : Int))) v (by omega) (by omega) h10 h11 (r10.later hv) q10 (r11.later hv) q11 b7 b8 b9
  by_cases t1 : (m - (c1.size : Int)) - (c7.size + c8.size + c9.size + msr d10 + msr d11 : Int) < 0
  · simp only [leftOf_no t1] at y1
    refine (y1 _ hB0).mono ?_
    rintro e w1 ⟨rfl, hb⟩
    have hB1 := hB0.trans (hb.mono hB0.size)
    go_wp2_with fail
    go_ret
    exact ⟨ret_i64 (leftOf_is1 (by omega)), hB1⟩
  obtain ⟨R1, hR1_⟩ : ∃ z : Int, z = (m - (c1.size : Int)) - (c7.size + c8.size + c9.size + msr d10 + msr d11 : Int) := ⟨_, rfl⟩
  have l1 := (leftOf_yes t1).trans hR1_.symm
  have E1 := Lib.hid hR1_
  have k1 : 0 ≤ R1 := by omega
  have kk1 : R1 ≤ 1048576 := by omega
  clear hR1_ t1
  simp only [l1] at y1
  clear l1
  have j1 : decide (R1 < 0) = false := by simpa using k1
  refine (y1 _ hB0).mono ?_
  rintro e w1 ⟨rfl, hb⟩
  have hB1 := hB0.trans (hb.mono hB0.size)
  have hR1 := hR0.later hb
  clear hb y1
  have a12 := hR1.cell (i := 12) rfl
  by_cases t2 : R1 - (c12.size : Int) < 0
  · have x2 : decide (R1 - (c12.size : Int) < 0) = true := by simpa using t2
    go_wp2_with fail
    go_ret
    exact ⟨ret_i64 (leftOf_is1 (by have := E1.out; omega)), hB1⟩
  have x2 : decide (R1 - (c12.size : Int) < 0) = false := by simpa using t2
  go_wp2_with fail
  go_ret
  exact ⟨ret_i64 (leftOf_is (by have := E1.out; omega) (by have := E1.out; omega)), hB1⟩
set_option maxRecDepth 100000 in
set_option maxHeartbeats 4000000 in
theorem szSource_any (c0 : ByteArray) (c1 : ByteArray) (c2 : Value) (d2 : Dat) (m : Int) (w : World) (h0 : 0 ≤ m) (h1 : m ≤ 1048576) (h2 : SzP d2 .exprs) (r2 : Rd w 0 c2 d2) (q2 : Fits d2 .exprs) (b0 : c0.size ≤ 9223372036854775807) (b1 : c1.size ≤ 9223372036854775807) :
    Calls Tryz.prog 65 #[.agg #[.string c0, .string c1, c2], .int .i64 m] w (IntE (leftOf m (c0.size + c1.size + msr d2)) w) := by
  have hR0 := RowAt.new w 104 #[.string c0, .string c1, c2]
  have hB0 := (Below.refl w.heap.size w).alloc (Nat.le_refl _) (.cells #[.string c0, .string c1, c2] 104)
  go_enter Tryz.func65, Tryz.ntmps65
  by_cases t0 : m - (c0.size : Int) < 0
  · have x0 : decide (m - (c0.size : Int) < 0) = true := by simpa using t0
    go_wp2_with fail
    go_ret
    exact ⟨ret_i64 (leftOf_is1 (by omega)), hB0⟩
  have x0 : decide (m - (c0.size : Int) < 0) = false := by simpa using t0
  by_cases t1 : (m - (c0.size : Int)) - (c1.size : Int) < 0
  · have x1 : decide ((m - (c0.size : Int)) - (c1.size : Int) < 0) = true := by simpa using t1
    go_wp2_with fail
    go_ret
    exact ⟨ret_i64 (leftOf_is1 (by omega)), hB0⟩
  have x1 : decide ((m - (c0.size : Int)) - (c1.size : Int) < 0) = false := by simpa using t1
  go_wp2_with fail
  generalize w.alloc (.cells #[.string c0, .string c1, c2] 104) = w0 at hR0 hB0 ⊢
  have y2 := fun (v : World) (hv : Below w.heap.size w v) => h2 c2 (((m - (c0.size : Int)) - (c1.size : Int))) v (by omega) (by omega) (r2.later hv) q2
  by_cases t2 : ((m - (c0.size : Int)) - (c1.size : Int)) - (msr d2 : Int) < 0
  · simp only [leftOf_no t2] at y2
    refine (y2 _ hB0).mono ?_
    rintro e w1 ⟨rfl, hb⟩
    have hB1 := hB0.trans (hb.mono hB0.size)
    go_wp2_with fail
    go_ret
    exact ⟨ret_i64 (leftOf_is1 (by omega)), hB1⟩
  obtain ⟨R1, hR1_⟩ : ∃ z : Int, z = ((m - (c0.size : Int)) - (c1.size : Int)) - (msr d2 : Int) := ⟨_, rfl⟩
  have l2 := (leftOf_yes t2).trans hR1_.symm
  have E1 := Lib.hid hR1_
  have k1 : 0 ≤ R1 := by omega
  have kk1 : R1 ≤ 1048576 := by omega
  clear hR1_ t2
  simp only [l2] at y2
  clear l2
  have j1 : decide (R1 < 0) = false := by simpa using k1
  refine (y2 _ hB0).mono ?_
  rintro e w1 ⟨rfl, hb⟩
  have hB1 := hB0.trans (hb.mono hB0.size)
  have hR1 := hR0.later hb
  clear hb y2
  go_wp2_with fail
  go_ret
  exact ⟨ret_i64 (leftOf_is (by have := E1.out; omega) (by have := E1.out; omega)), hB1⟩
set_option maxRecDepth 100000 in
set_option maxHeartbeats 4000000 in
theorem szSortKey_any (c0 : Int) (c1 : Int) (c2 : Bool) (c3 : Int) (c4 : Int) (c5 : ByteArray) (c6 : ByteArray) (c7 : ByteArray) (c8 : Value) (c9 : Value) (c10 : Bool) (d8 : Dat) (d9 : Dat) (m : Int) (w : World) (h0 : 0 ≤ m) (h1 : m ≤ 1048576) (h8 : SzP d8 .exprs) (h9 : SzP d9 .queries) (r8 : Rd w 0 c8 d8) (q8 : Fits d8 .exprs) (r9 : Rd w 0 c9 d9) (q9 : Fits d9 .queries) (b5 : c5.size ≤ 9223372036854775807) (b6 : c6.size ≤ 9223372036854775807) (b7 : c7.size ≤ 9223372036854775807) :
    Calls Tryz.prog 66 #[.agg #[.int .i64 c0, .int .i64 c1, .bool c2, .int .i64 c3, .int .i64 c4, .string c5, .string c6, .string c7, c8, c9, .bool c10], .int .i64 m] w (IntE (leftOf m ((c5.size + c6.size + c7.size + msr d8 + msr d9))) w) := by
  have hR0 := RowAt.new w 107 #[.int .i64 c0, .int .i64 c1, .bool c2, .int .i64 c3, .int .i64 c4, .string c5, .string c6, .string c7, c8, c9, .bool c10]
  have hB0 := (Below.refl w.heap.size w).alloc (Nat.le_refl _) (.cells #[.int .i64 c0, .int .i64 c1, .bool c2, .int .i64 c3, .int .i64 c4, .string c5, .string c6, .string c7, c8, c9, .bool c10] 107)
  go_enter Tryz.func66, Tryz.ntmps66
  go_wp2_with fail
  generalize w.alloc (.cells #[.int .i64 c0, .int .i64 c1, .bool c2, .int .i64 c3, .int .i64 c4, .string c5, .string c6, .string c7, c8, c9, .bool c10] 107) = w0 at hR0 hB0 ⊢
  have y0 := fun (v : World) (hv : Below w.heap.size w v) => szExpr_any c0 c1 c2 c3 c4 c5 c6 c7 c8 c9 d8 d9 (m) v (by omega) (by omega) h8 h9 (r8.later hv) q8 (r9.later hv) q9 b5 b6 b7
  by_cases t0 : m - (c5.size + c6.size + c7.size + msr d8 + msr d9 : Int) < 0
  · simp only [leftOf_no t0] at y0
    refine (y0 _ hB0).mono ?_
    rintro e w1 ⟨rfl, hb⟩
    have hB1 := hB0.trans (hb.mono hB0.size)
    go_wp2_with fail
    go_ret
    exact ⟨ret_i64 (leftOf_is1 (by omega)), hB1⟩
  obtain ⟨R1, hR1_⟩ : ∃ z : Int, z = m - (c5.size + c6.size + c7.size + msr d8 + msr d9 : Int) := ⟨_, rfl⟩
  have l0 := (leftOf_yes t0).trans hR1_.symm
  have E1 := Lib.hid hR1_
  have k1 : 0 ≤ R1 := by omega
  have kk1 : R1 ≤ 1048576 := by omega
  clear hR1_ t0
  simp only [l0] at y0
  clear l0
  have j1 : decide (R1 < 0) = false := by simpa using k1
  refine (y0 _ hB0).mono ?_
  rintro e w1 ⟨rfl, hb⟩
  have hB1 := hB0.trans (hb.mono hB0.size)
  have hR1 := hR0.later hb
  clear hb y0
  go_wp2_with fail
  go_ret
  exact ⟨ret_i64 (leftOf_is (by have := E1.out; omega) (by have := E1.out; omega)), hB1⟩
set_option maxRecDepth 100000 in
set_option maxHeartbeats 4000000 in
theorem szQuery_any (c0 : Bool) (c1 : Value) (c2 : Value) (c3 : Value) (c4 : Value) (c5 : Int) (d1 : Dat) (d2 : Dat) (d3 : Dat) (d4 : Dat) (m : Int) (w : World) (h0 : 0 ≤ m) (h1 : m ≤ 1048576) (h1 : SzP d1 .items) (h2 : SzP d2 .sources) (h3 : SzP d3 .exprs) (h4 : SzP d4 .keys) (r1 : Rd w 0 c1 d1) (q1 : Fits d1 .items) (r2 : Rd w 0 c2 d2) (q2 : Fits d2 .sources) (r3 : Rd w 0 c3 d3) (q3 : Fits d3 .exprs) (r4 : Rd w 0 c4 d4) (q4 : Fits d4 .keys)  :
    Calls Tryz.prog 9 #[.agg #[.bool c0, c1, c2, c3, c4, .int .i64 c5], .int .i64 m] w (IntE (leftOf m (msr d1 + msr d2 + msr d3 + msr d4)) w) := by
  have hR0 := RowAt.new w 27 #[.bool c0, c1, c2, c3, c4, .int .i64 c5]
  have hB0 := (Below.refl w.heap.size w).alloc (Nat.le_refl _) (.cells #[.bool c0, c1, c2, c3, c4, .int .i64 c5] 27)
  go_enter Tryz.func9, Tryz.ntmps9
  go_wp2_with fail
  generalize w.alloc (.cells #[.bool c0, c1, c2, c3, c4, .int .i64 c5] 27) = w0 at hR0 hB0 ⊢
  have y0 := fun (v : World) (hv : Below w.heap.size w v) => h1 c1 (m) v (by omega) (by omega) (r1.later hv) q1
  by_cases t0 : m - (msr d1 : Int) < 0
  · simp only [leftOf_no t0] at y0
    refine (y0 _ hB0).mono ?_
    rintro e w1 ⟨rfl, hb⟩
    have hB1 := hB0.trans (hb.mono hB0.size)
    go_wp2_with fail
    go_ret
    exact ⟨ret_i64 (leftOf_is1 (by omega)), hB1⟩
  obtain ⟨R1, hR1_⟩ : ∃ z : Int, z = m - (msr d1 : Int) := ⟨_, rfl⟩
  have l0 := (leftOf_yes t0).trans hR1_.symm
  have E1 := Lib.hid hR1_
  have k1 : 0 ≤ R1 := by omega
  have kk1 : R1 ≤ 1048576 := by omega
  clear hR1_ t0
  simp only [l0] at y0
  clear l0
  have j1 : decide (R1 < 0) = false := by simpa using k1
  refine (y0 _ hB0).mono ?_
  rintro e w1 ⟨rfl, hb⟩
  have hB1 := hB0.trans (hb.mono hB0.size)
  have hR1 := hR0.later hb
  clear hb y0
  have a2 := hR1.cell (i := 2) rfl
  go_wp2_with fail
  have y1 := fun (v : World) (hv : Below w.heap.size w v) => h2 c2 (R1) v (by have := E1.out; omega) (by have := E1.out; omega) (r2.later hv) q2
  by_cases t1 : R1 - (msr d2 : Int) < 0
  · simp only [leftOf_no t1] at y1
    refine (y1 _ hB1).mono ?_
    rintro e w2 ⟨rfl, hb⟩
    have hB2 := hB1.trans (hb.mono hB1.size)
    go_wp2_with fail
    go_ret
    exact ⟨ret_i64 (leftOf_is1 (by have := E1.out; omega)), hB2⟩
  obtain ⟨R2, hR2_⟩ : ∃ z : Int, z = R1 - (msr d2 : Int) := ⟨_, rfl⟩
  have l1 := (leftOf_yes t1).trans hR2_.symm
  have E2 := Lib.hid hR2_
  have k2 : 0 ≤ R2 := by omega
  have kk2 : R2 ≤ 1048576 := by have := E1.out; omega
  clear hR2_ t1
  simp only [l1] at y1
  clear l1
  have j2 : decide (R2 < 0) = false := by simpa using k2
  refine (y1 _ hB1).mono ?_
  rintro e w2 ⟨rfl, hb⟩
  have hB2 := hB1.trans (hb.mono hB1.size)
  have hR2 := hR1.later hb
  clear hb y1
  have a3 := hR2.cell (i := 3) rfl
  go_wp2_with fail
  have y2 := fun (v : World) (hv : Below w.heap.size w v) => h3 c3 (R2) v (by have := E1.out; have := E2.out; omega) (by have := E1.out; have := E2.out; omega) (r3.later hv) q3
  by_cases t2 : R2 - (msr d3 : Int) < 0
  · simp only [leftOf_no t2] at y2
    refine (y2 _ hB2).mono ?_
    rintro e w3 ⟨rfl, hb⟩
    have hB3 := hB2.trans (hb.mono hB2.size)
    go_wp2_with fail
    go_ret
    exact ⟨ret_i64 (leftOf_is1 (by have := E1.out; have := E2.out; omega)), hB3⟩
  obtain ⟨R3, hR3_⟩ : ∃ z : Int, z = R2 - (msr d3 : Int) := ⟨_, rfl⟩
  have l2 := (leftOf_yes t2).trans hR3_.symm
  have E3 := Lib.hid hR3_
  have k3 : 0 ≤ R3 := by omega
  have kk3 : R3 ≤ 1048576 := by have := E1.out; have := E2.out; omega
  clear hR3_ t2
  simp only [l2] at y2
  clear l2
  have j3 : decide (R3 < 0) = false := by simpa using k3
  refine (y2 _ hB2).mono ?_
  rintro e w3 ⟨rfl, hb⟩
  have hB3 := hB2.trans (hb.mono hB2.size)
  have hR3 := hR2.later hb
  clear hb y2
  have a4 := hR3.cell (i := 4) rfl
  go_wp2_with fail
  have y3 := fun (v : World) (hv : Below w.heap.size w v) => h4 c4 (R3) v (by have := E1.out; have := E2.out; have := E3.out; omega) (by have := E1.out; have := E2.out; have := E3.out; omega) (r4.later hv) q4
  by_cases t3 : R3 - (msr d4 : Int) < 0
  · simp only [leftOf_no t3] at y3
    refine (y3 _ hB3).mono ?_
    rintro e w4 ⟨rfl, hb⟩
    have hB4 := hB3.trans (hb.mono hB3.size)
    go_wp2_with fail
    go_ret
    exact ⟨ret_i64 (leftOf_is1 (by have := E1.out; have := E2.out; have := E3.out; omega)), hB4⟩
  obtain ⟨R4, hR4_⟩ : ∃ z : Int, z = R3 - (msr d4 : Int) := ⟨_, rfl⟩
  have l3 := (leftOf_yes t3).trans hR4_.symm
  have E4 := Lib.hid hR4_
  have k4 : 0 ≤ R4 := by omega
  have kk4 : R4 ≤ 1048576 := by have := E1.out; have := E2.out; have := E3.out; omega
  clear hR4_ t3
  simp only [l3] at y3
  clear l3
  have j4 : decide (R4 < 0) = false := by simpa using k4
  refine (y3 _ hB3).mono ?_
  rintro e w4 ⟨rfl, hb⟩
  have hB4 := hB3.trans (hb.mono hB3.size)
  have hR4 := hR3.later hb
  clear hb y3
  go_wp2_with fail
  go_ret
  exact ⟨ret_i64 (leftOf_is (by have := E1.out; have := E2.out; have := E3.out; have := E4.out; omega) (by have := E1.out; have := E2.out; have := E3.out; have := E4.out; omega)), hB4⟩
end Go.Proofs.YtcliijfdlcagoaaGreat
