/- Joined texts: Alone. -/
import Derived.Test.YtcliijfdlcagoaaGreatQZAL
import Derived.Test.YtcliijfdlcagoaaGreatQZAE
import Derived.Laws.StructEq
namespace Go.Proofs.YtcliijfdlcagoaaGreat
set_option linter.unusedVariables false
set_option linter.unusedSimpArgs false
open Go.RowKit
set_option maxRecDepth 100000 in
set_option maxHeartbeats 2000000 in
theorem nodeOf_any (c0 : Int) (c1 : Int) (c2 : Bool) (c3 : Int) (c4 : Int) (c5 : ByteArray) (c6 : ByteArray) (c7 : ByteArray) (a8 : Option Addr) (n8 p8 : Nat) (a9 : Option Addr) (n9 p9 : Nat) (W : World) : Calls Tryz.prog 96 #[.agg #[.int .i64 c0, .int .i64 c1, .bool c2, .int .i64 c3, .int .i64 c4, .string c5, .string c6, .string c7, .slice a8 n8 p8, .slice a9 n9 p9]] W fun e w' => e = .returned (.agg #[.int .i64 c0, .int .i64 c1, .bool c2, .int .i64 c3, .int .i64 c4, .string c5, .string c6, .string c7]) ∧ Below W.heap.size W w' := by
  have hB : ∀ cs, Below W.heap.size W ((W.alloc (.cells #[.int .i64 c0, .int .i64 c1, .bool c2, .int .i64 c3, .int .i64 c4, .string c5, .string c6, .string c7, .slice a8 n8 p8, .slice a9 n9 p9] 79)).alloc (.cells cs 144)) := fun cs => ((Below.refl _ _).alloc (Nat.le_refl _) _).alloc (by simp) _
  have R1 : ∀ cs, RowAt ((W.alloc (.cells #[.int .i64 c0, .int .i64 c1, .bool c2, .int .i64 c3, .int .i64 c4, .string c5, .string c6, .string c7, .slice a8 n8 p8, .slice a9 n9 p9] 79)).alloc (.cells cs 144)) (W.heap.size + 1) 144 cs := fun cs => by
    have h := RowAt.new (W.alloc (.cells #[.int .i64 c0, .int .i64 c1, .bool c2, .int .i64 c3, .int .i64 c4, .string c5, .string c6, .string c7, .slice a8 n8 p8, .slice a9 n9 p9] 79)) 144 cs
    rw [World.size_alloc] at h
    exact h
  go_enter Tryz.func96, Tryz.ntmps96
  go_wp2_with fail
  have R := R1 #[.int .i64 c0, .int .i64 c1, .bool c2, .int .i64 c3, .int .i64 c4, .string c5, .string c6, .string c7]
  have hb := hB #[.int .i64 c0, .int .i64 c1, .bool c2, .int .i64 c3, .int .i64 c4, .string c5, .string c6, .string c7]
  have f0 := R.cell (i := 0) (v := .int .i64 c0) rfl
  have f1 := R.cell (i := 1) (v := .int .i64 c1) rfl
  have f2 := R.cell (i := 2) (v := .bool c2) rfl
  have f3 := R.cell (i := 3) (v := .int .i64 c3) rfl
  have f4 := R.cell (i := 4) (v := .int .i64 c4) rfl
  have f5 := R.cell (i := 5) (v := .string c5) rfl
  have f6 := R.cell (i := 6) (v := .string c6) rfl
  have f7 := R.cell (i := 7) (v := .string c7) rfl
  generalize (W.alloc (.cells #[.int .i64 c0, .int .i64 c1, .bool c2, .int .i64 c3, .int .i64 c4, .string c5, .string c6, .string c7, .slice a8 n8 p8, .slice a9 n9 p9] 79)).alloc (.cells #[.int .i64 c0, .int .i64 c1, .bool c2, .int .i64 c3, .int .i64 c4, .string c5, .string c6, .string c7] 144) = w1 at *
  refine bodyPost_ret (v := .agg #[.int .i64 c0, .int .i64 c1, .bool c2, .int .i64 c3, .int .i64 c4, .string c5, .string c6, .string c7]) (by simp [results, Tryz.results96, go_sem, f0, f1, f2, f3, f4, f5, f6, f7]) rfl ?_
  exact ⟨rfl, hb⟩
theorem toList_iff {a b : ByteArray} : a.toList = b.toList ↔ a = b := ⟨fun e => by rw [ByteArray.toList_eq, ByteArray.toList_eq] at e; cases a; cases b; simpa using e, fun e => by rw [e]⟩
theorem eq_val (d : Nat) (k n : Int) (t : ByteArray) (k' n' : Int) (t' : ByteArray) (w : World) :
    (Op.equalIn (d + 2) 76 (.agg #[.int .i64 k, .int .i64 n, .string t]) (.agg #[.int .i64 k', .int .i64 n', .string t'])).run Tryz.prog w = .ok ((k == k') && ((n == n') && decide (t = t'))) w := by
  have hS : Tryz.prog.underlying 76 = some (.struct (Tryz.prog.fieldsOf 76)) := by kernel_rfl
  have hp : Tryz.prog.stoodInHeld 76 = false := by kernel_rfl
  rw [show d + 2 = (d + 1) + 1 from rfl, run_equalIn_struct w (d + 1) _ _ _ hS hp]
  simp only [Program.fieldsOf, Tryz.underlying76]
  go_simp
  simp only [toList_iff]
  by_cases h0 : k = k'
  · by_cases h1 : n = n'
    · by_cases h2 : t = t' <;> simp [h0, h1, h2]
    · simp [h0, h1]
  · simp [h0]
theorem eq_hdr (d : Nat) (c0 c1 : Int) (c2 : Bool) (k n : Int) (t : ByteArray) (d0 d1 : Int) (d2 : Bool) (k' n' : Int) (t' : ByteArray) (w : World) :
    (Op.equalIn (d + 3) 142 (.agg #[.int .i64 c0, .int .i64 c1, .bool c2, .int .i64 k, .int .i64 n, .string t]) (.agg #[.int .i64 d0, .int .i64 d1, .bool d2, .int .i64 k', .int .i64 n', .string t'])).run Tryz.prog w =
      .ok ((c0 == d0) && ((c1 == d1) && ((c2 == d2) && ((k == k') && ((n == n') && decide (t = t')))))) w := by
  have hS : Tryz.prog.underlying 142 = some (.struct (Tryz.prog.fieldsOf 142)) := by kernel_rfl
  have hp : Tryz.prog.stoodInHeld 142 = false := by kernel_rfl
  have hv := eq_val d k n t k' n' t'
  rw [show d + 3 = (d + 2) + 1 from rfl, run_equalIn_struct w (d + 2) _ _ _ hS hp]
  simp only [Program.fieldsOf, Tryz.underlying142]
  generalize ((k == k') && ((n == n') && decide (t = t'))) = v at hv ⊢
  simp [go_sem, hv]
  by_cases h0 : c0 = d0
  · by_cases h1 : c1 = d1
    · by_cases h2 : c2 = d2 <;> cases v <;> simp [h0, h1, h2]
    · simp [h0, h1]
  · simp [h0]
theorem eq_node (c0 c1 : Int) (c2 : Bool) (k n : Int) (t a b : ByteArray) (d0 d1 : Int) (d2 : Bool) (k' n' : Int) (t' a' b' : ByteArray) (w : World) :
    (Op.equalIn 10000 144 (.agg #[.int .i64 c0, .int .i64 c1, .bool c2, .int .i64 k, .int .i64 n, .string t, .string a, .string b]) (.agg #[.int .i64 d0, .int .i64 d1, .bool d2, .int .i64 k', .int .i64 n', .string t', .string a', .string b'])).run Tryz.prog w =
      .ok ((c0 == d0) && ((c1 == d1) && ((c2 == d2) && ((k == k') && ((n == n') && (decide (t = t') && (decide (a = a') && decide (b = b')))))))) w := by
  have hS : Tryz.prog.underlying 144 = some (.struct (Tryz.prog.fieldsOf 144)) := by kernel_rfl
  have hp : Tryz.prog.stoodInHeld 144 = false := by kernel_rfl
  have hv : ∀ w, (Op.equalIn 9999 142 (.agg #[.int .i64 c0, .int .i64 c1, .bool c2, .int .i64 k, .int .i64 n, .string t]) (.agg #[.int .i64 d0, .int .i64 d1, .bool d2, .int .i64 k', .int .i64 n', .string t'])).run Tryz.prog w = _ := eq_hdr 9996 c0 c1 c2 k n t d0 d1 d2 k' n' t'
  have he : ((c0 == d0) && ((c1 == d1) && ((c2 == d2) && ((k == k') && ((n == n') && (decide (t = t') && (decide (a = a') && decide (b = b')))))))) =
      (((c0 == d0) && ((c1 == d1) && ((c2 == d2) && ((k == k') && ((n == n') && decide (t = t')))))) && (decide (a = a') && decide (b = b'))) := by simp only [Bool.and_assoc]
  rw [he, show (10000 : Nat) = 9999 + 1 from rfl, run_equalIn_struct w 9999 _ _ _ hS hp]
  simp only [Program.fieldsOf, Tryz.underlying144]
  generalize ((c0 == d0) && ((c1 == d1) && ((c2 == d2) && ((k == k') && ((n == n') && decide (t = t')))))) = v at hv ⊢
  simp [go_sem, hv]
  simp only [toList_iff]
  cases v
  · simp
  · by_cases h0 : a = a'
    · by_cases h1 : b = b' <;> simp [h0, h1]
    · simp [h0]
theorem OutK.twenty {w0 : World} {ys : List Value} {c : Nd} (h : OutK twTy w0 ys [c]) : ∃ (c0 : Int) (c1 : Int) (c2 : Bool) (c3 : Int) (c4 : Int) (c5 : ByteArray) (c6 : ByteArray) (c7 : ByteArray) (a8 : Option Addr) (n8 p8 : Nat) (a9 : Option Addr) (n9 p9 : Nat) (c10 : Int) (c11 : Int) (c12 : Bool) (c13 : Int) (c14 : Int) (c15 : ByteArray) (c16 : ByteArray) (c17 : ByteArray) (a18 : Option Addr) (n18 p18 : Nat) (a19 : Option Addr) (n19 p19 : Nat),
    ys = [.int .i64 c0, .int .i64 c1, .bool c2, .int .i64 c3, .int .i64 c4, .string c5, .string c6, .string c7, .slice a8 n8 p8, .slice a9 n9 p9, .int .i64 c10, .int .i64 c11, .bool c12, .int .i64 c13, .int .i64 c14, .string c15, .string c16, .string c17, .slice a18 n18 p18, .slice a19 n19 p19] ∧
    ((c 0 = .v (.int .i64 c0) ∧ -9223372036854775808 ≤ c0 ∧ c0 ≤ 9223372036854775807) ∧ (c 1 = .v (.int .i64 c1) ∧ -9223372036854775808 ≤ c1 ∧ c1 ≤ 9223372036854775807) ∧ c 2 = .v (.bool c2) ∧ (c 3 = .v (.int .i64 c3) ∧ -9223372036854775808 ≤ c3 ∧ c3 ≤ 9223372036854775807) ∧ (c 4 = .v (.int .i64 c4) ∧ -9223372036854775808 ≤ c4 ∧ c4 ≤ 9223372036854775807) ∧ (c 5 = .v (.string c5) ∧ c5.size ≤ 9223372036854775807) ∧ (c 6 = .v (.string c6) ∧ c6.size ≤ 9223372036854775807) ∧ (c 7 = .v (.string c7) ∧ c7.size ≤ 9223372036854775807) ∧ (Rd w0 0 (.slice a8 n8 p8) (c 8) ∧ Fits (c 8) .exprs) ∧ (Rd w0 0 (.slice a9 n9 p9) (c 9) ∧ Fits (c 9) .queries) ∧ (c 10 = .v (.int .i64 c10) ∧ -9223372036854775808 ≤ c10 ∧ c10 ≤ 9223372036854775807) ∧ (c 11 = .v (.int .i64 c11) ∧ -9223372036854775808 ≤ c11 ∧ c11 ≤ 9223372036854775807) ∧ c 12 = .v (.bool c12) ∧ (c 13 = .v (.int .i64 c13) ∧ -9223372036854775808 ≤ c13 ∧ c13 ≤ 9223372036854775807) ∧ (c 14 = .v (.int .i64 c14) ∧ -9223372036854775808 ≤ c14 ∧ c14 ≤ 9223372036854775807) ∧ (c 15 = .v (.string c15) ∧ c15.size ≤ 9223372036854775807) ∧ (c 16 = .v (.string c16) ∧ c16.size ≤ 9223372036854775807) ∧ (c 17 = .v (.string c17) ∧ c17.size ≤ 9223372036854775807) ∧ (Rd w0 0 (.slice a18 n18 p18) (c 18) ∧ Fits (c 18) .exprs) ∧ (Rd w0 0 (.slice a19 n19 p19) (c 19) ∧ Fits (c 19) .queries)) := by
  have hl : ys.length = 20 := h.1
  obtain ⟨y0, z0, r0, f0⟩ := h.cellOf 0 (by decide)
  obtain ⟨c0, e0, b0⟩ := Fits.int f0
  rw [e0] at r0; obtain rfl : y0 = _ := r0
  obtain ⟨y1, z1, r1, f1⟩ := h.cellOf 1 (by decide)
  obtain ⟨c1, e1, b1⟩ := Fits.int f1
  rw [e1] at r1; obtain rfl : y1 = _ := r1
  obtain ⟨y2, z2, r2, f2⟩ := h.cellOf 2 (by decide)
  obtain ⟨c2, e2⟩ := Fits.bool f2
  rw [e2] at r2; obtain rfl : y2 = _ := r2
  obtain ⟨y3, z3, r3, f3⟩ := h.cellOf 3 (by decide)
  obtain ⟨c3, e3, b3⟩ := Fits.int f3
  rw [e3] at r3; obtain rfl : y3 = _ := r3
  obtain ⟨y4, z4, r4, f4⟩ := h.cellOf 4 (by decide)
  obtain ⟨c4, e4, b4⟩ := Fits.int f4
  rw [e4] at r4; obtain rfl : y4 = _ := r4
  obtain ⟨y5, z5, r5, f5⟩ := h.cellOf 5 (by decide)
  obtain ⟨c5, e5, b5⟩ := Fits.str f5
  rw [e5] at r5; obtain rfl : y5 = _ := r5
  obtain ⟨y6, z6, r6, f6⟩ := h.cellOf 6 (by decide)
  obtain ⟨c6, e6, b6⟩ := Fits.str f6
  rw [e6] at r6; obtain rfl : y6 = _ := r6
  obtain ⟨y7, z7, r7, f7⟩ := h.cellOf 7 (by decide)
  obtain ⟨c7, e7, b7⟩ := Fits.str f7
  rw [e7] at r7; obtain rfl : y7 = _ := r7
  obtain ⟨y8, z8, r8, f8⟩ := h.cellOf 8 (by decide)
  have g8 : Fits (c 8) .exprs := f8
  obtain ⟨a8, n8, p8, rfl⟩ := r8.slice_of g8 rfl
  obtain ⟨y9, z9, r9, f9⟩ := h.cellOf 9 (by decide)
  have g9 : Fits (c 9) .queries := f9
  obtain ⟨a9, n9, p9, rfl⟩ := r9.slice_of g9 rfl
  obtain ⟨y10, z10, r10, f10⟩ := h.cellOf 10 (by decide)
  obtain ⟨c10, e10, b10⟩ := Fits.int f10
  rw [e10] at r10; obtain rfl : y10 = _ := r10
  obtain ⟨y11, z11, r11, f11⟩ := h.cellOf 11 (by decide)
  obtain ⟨c11, e11, b11⟩ := Fits.int f11
  rw [e11] at r11; obtain rfl : y11 = _ := r11
  obtain ⟨y12, z12, r12, f12⟩ := h.cellOf 12 (by decide)
  obtain ⟨c12, e12⟩ := Fits.bool f12
  rw [e12] at r12; obtain rfl : y12 = _ := r12
  obtain ⟨y13, z13, r13, f13⟩ := h.cellOf 13 (by decide)
  obtain ⟨c13, e13, b13⟩ := Fits.int f13
  rw [e13] at r13; obtain rfl : y13 = _ := r13
  obtain ⟨y14, z14, r14, f14⟩ := h.cellOf 14 (by decide)
  obtain ⟨c14, e14, b14⟩ := Fits.int f14
  rw [e14] at r14; obtain rfl : y14 = _ := r14
  obtain ⟨y15, z15, r15, f15⟩ := h.cellOf 15 (by decide)
  obtain ⟨c15, e15, b15⟩ := Fits.str f15
  rw [e15] at r15; obtain rfl : y15 = _ := r15
  obtain ⟨y16, z16, r16, f16⟩ := h.cellOf 16 (by decide)
  obtain ⟨c16, e16, b16⟩ := Fits.str f16
  rw [e16] at r16; obtain rfl : y16 = _ := r16
  obtain ⟨y17, z17, r17, f17⟩ := h.cellOf 17 (by decide)
  obtain ⟨c17, e17, b17⟩ := Fits.str f17
  rw [e17] at r17; obtain rfl : y17 = _ := r17
  obtain ⟨y18, z18, r18, f18⟩ := h.cellOf 18 (by decide)
  have g18 : Fits (c 18) .exprs := f18
  obtain ⟨a18, n18, p18, rfl⟩ := r18.slice_of g18 rfl
  obtain ⟨y19, z19, r19, f19⟩ := h.cellOf 19 (by decide)
  have g19 : Fits (c 19) .queries := f19
  obtain ⟨a19, n19, p19, rfl⟩ := r19.slice_of g19 rfl
  refine ⟨c0, c1, c2, c3, c4, c5, c6, c7, a8, n8, p8, a9, n9, p9, c10, c11, c12, c13, c14, c15, c16, c17, a18, n18, p18, a19, n19, p19, ?_, ⟨e0, b0⟩, ⟨e1, b1⟩, e2, ⟨e3, b3⟩, ⟨e4, b4⟩, ⟨e5, b5⟩, ⟨e6, b6⟩, ⟨e7, b7⟩, ⟨r8, g8⟩, ⟨r9, g9⟩, ⟨e10, b10⟩, ⟨e11, b11⟩, e12, ⟨e13, b13⟩, ⟨e14, b14⟩, ⟨e15, b15⟩, ⟨e16, b16⟩, ⟨e17, b17⟩, ⟨r18, g18⟩, ⟨r19, g19⟩⟩
  refine List.ext_getElem? fun j => ?_
  rcases j with _ | _ | _ | _ | _ | _ | _ | _ | _ | _ | _ | _ | _ | _ | _ | _ | _ | _ | _ | _ | j
  · exact z0
  · exact z1
  · exact z2
  · exact z3
  · exact z4
  · exact z5
  · exact z6
  · exact z7
  · exact z8
  · exact z9
  · exact z10
  · exact z11
  · exact z12
  · exact z13
  · exact z14
  · exact z15
  · exact z16
  · exact z17
  · exact z18
  · exact z19
  · rw [List.getElem?_eq_none (by omega), List.getElem?_eq_none (by simp)]
structure BdT (t : Nd) : Prop where
  a : Bd t
  b : Bd (cut 10 t)
theorem query_lens {d : Dat} (hf : Fits d .queries) (hm : msr d ≤ 1048576) {q : Nd} (hq : q ∈ d.els) : (q 1).els.length ≤ 1048576 ∧ (q 2).els.length ≤ 1048576 ∧ (q 4).els.length ≤ 1048576 := by
  obtain ⟨n, k, f, rfl⟩ := hf.deep rfl
  have hk : k = 6 := hf.2.2.1
  subst hk
  obtain ⟨i, hi, rfl⟩ := List.mem_map.1 hq
  rw [List.mem_range] at hi
  have h1 := msr_el (n := n) (k := 6) (f := f) (i := i) (j := 1) hi (by decide)
  have h2 := msr_el (n := n) (k := 6) (f := f) (i := i) (j := 2) hi (by decide)
  have h4 := msr_el (n := n) (k := 6) (f := f) (i := i) (j := 4) hi (by decide)
  exact ⟨Nat.le_trans els_msr (Nat.le_trans h1 hm), Nat.le_trans els_msr (Nat.le_trans h2 hm), Nat.le_trans els_msr (Nat.le_trans h4 hm)⟩
set_option maxRecDepth 100000 in
set_option maxHeartbeats 8000000 in
theorem sameAlone_any (w0 : World) (t : Nd) (ys : List Value) (W : World) (hys : OutK twTy w0 ys [t]) (hb0 : Below w0.heap.size w0 W) (hbd : BdT t) :
    Calls Tryz.prog 88 #[.agg ys.toArray] W fun e w' => e = .returned (.bool (aloneD t)) ∧ Below W.heap.size W w' := by
  obtain ⟨c0, c1, c2, c3, c4, c5, c6, c7, a8, n8, p8, a9, n9, p9, c10, c11, c12, c13, c14, c15, c16, c17, a18, n18, p18, a19, n19, p19, rfl, ⟨e0, -⟩, ⟨e1, -⟩, e2, ⟨e3, -⟩, ⟨e4, -⟩, ⟨e5, -⟩, ⟨e6, -⟩, ⟨e7, -⟩, ⟨r8, q8⟩, ⟨r9, q9⟩, ⟨e10, -⟩, ⟨e11, -⟩, e12, ⟨e13, -⟩, ⟨e14, -⟩, ⟨e15, -⟩, ⟨e16, -⟩, ⟨e17, -⟩, ⟨r18, q18⟩, ⟨r19, q19⟩⟩ := hys.twenty
  have hh : headSame t (cut 10 t) = ((c0 == c10) && ((c1 == c11) && ((c2 == c12) && ((c3 == c13) && ((c4 == c14) && (decide (c5 = c15) && (decide (c6 = c16) && decide (c7 = c17)))))))) := by
    unfold headSame
    rw [eqL_int e0 (show cut 10 t 0 = _ from e10), eqL_int e1 (show cut 10 t 1 = _ from e11), eqL_bool e2 (show cut 10 t 2 = _ from e12), eqL_int e3 (show cut 10 t 3 = _ from e13), eqL_int e4 (show cut 10 t 4 = _ from e14), eqL_str e5 (show cut 10 t 5 = _ from e15), eqL_str e6 (show cut 10 t 6 = _ from e16), eqL_str e7 (show cut 10 t 7 = _ from e17)]
  have hq := eq_node c0 c1 c2 c3 c4 c5 c6 c7 c10 c11 c12 c13 c14 c15 c16 c17
  rw [← hh] at hq
  have hv : aloneD t = (headSame t (cut 10 t) && ((n8 == n18) && allZ frameSame (t 9).els (t 19).els)) := by
    unfold aloneD
    rw [r8.slen q8 rfl, r18.slen q18 rfl]
  have hI : ∀ W', Below w0.heap.size w0 W' → Calls Tryz.prog 119 #[.slice a9 n9 p9, .slice a19 n19 p19, .func (.func 84) #[] #[]] W' fun e w' => e = .returned (.bool (allZ frameSame (t 9).els (t 19).els)) ∧ Below W'.heap.size W' w' := fun W' hb => by
    obtain ⟨k1, h1⟩ := r9.lkE q9 rfl hb
    obtain ⟨k2, h2⟩ := r19.lkE q19 rfl hb
    have m9 := hbd.a.m9
    have m19 : msr (t 19) ≤ 1048576 := hbd.b.m9
    have h := eqf_queries w0 W' a9 p9 a19 p19 _ _ hb h1 h2 (Nat.le_trans els_msr m9) (Nat.le_trans els_msr m19) fun c hc c' hc' ys ys' W' h h' hb' =>
      sameFrame_any w0 c c' ys ys' W' h h' hb' (query_lens q9 m9 hc).1 (query_lens q9 m9 hc).2.1 (query_lens q9 m9 hc).2.2 (query_lens q19 m19 hc').1 (query_lens q19 m19 hc').2.1 (query_lens q19 m19 hc').2.2
    rw [k1, k2] at h
    exact h
  rw [hv]
  generalize headSame t (cut 10 t) = v0 at hq ⊢
  generalize allZ frameSame (t 9).els (t 19).els = v9 at hI ⊢
  have R := RowAt.new W 127 #[.int .i64 c0, .int .i64 c1, .bool c2, .int .i64 c3, .int .i64 c4, .string c5, .string c6, .string c7, .slice a8 n8 p8, .slice a9 n9 p9, .int .i64 c10, .int .i64 c11, .bool c12, .int .i64 c13, .int .i64 c14, .string c15, .string c16, .string c17, .slice a18 n18 p18, .slice a19 n19 p19]
  have hB : Below W.heap.size W (W.alloc (.cells #[.int .i64 c0, .int .i64 c1, .bool c2, .int .i64 c3, .int .i64 c4, .string c5, .string c6, .string c7, .slice a8 n8 p8, .slice a9 n9 p9, .int .i64 c10, .int .i64 c11, .bool c12, .int .i64 c13, .int .i64 c14, .string c15, .string c16, .string c17, .slice a18 n18 p18, .slice a19 n19 p19] 127)) := (Below.refl _ _).alloc (Nat.le_refl _) _
  have HB := Lib.hid hB
  have hz := hb0.trans (hB.mono hb0.size)
  have hq1 := hq
  clear hq hv hh hB hys hbd e0 e1 e2 e3 e4 e5 e6 e7 r8 q8 r9 q9 e10 e11 e12 e13 e14 e15 e16 e17 r18 q18 r19 q19
  go_enter Tryz.func88, Tryz.ntmps88
  go_wp2_with fail
  generalize W.alloc (.cells #[.int .i64 c0, .int .i64 c1, .bool c2, .int .i64 c3, .int .i64 c4, .string c5, .string c6, .string c7, .slice a8 n8 p8, .slice a9 n9 p9, .int .i64 c10, .int .i64 c11, .bool c12, .int .i64 c13, .int .i64 c14, .string c15, .string c16, .string c17, .slice a18 n18 p18, .slice a19 n19 p19] 127) = w1 at *
  have X0 := lat_cell (R.cell (i := 0) (v := .int .i64 c0) rfl)
  have X1 := lat_cell (R.cell (i := 1) (v := .int .i64 c1) rfl)
  have X2 := lat_cell (R.cell (i := 2) (v := .bool c2) rfl)
  have X3 := lat_cell (R.cell (i := 3) (v := .int .i64 c3) rfl)
  have X4 := lat_cell (R.cell (i := 4) (v := .int .i64 c4) rfl)
  have X5 := lat_cell (R.cell (i := 5) (v := .string c5) rfl)
  have X6 := lat_cell (R.cell (i := 6) (v := .string c6) rfl)
  have X7 := lat_cell (R.cell (i := 7) (v := .string c7) rfl)
  have X8 := lat_cell (R.cell (i := 8) (v := .slice a8 n8 p8) rfl)
  have X9 := lat_cell (R.cell (i := 9) (v := .slice a9 n9 p9) rfl)
  have X10 := lat_cell (R.cell (i := 10) (v := .int .i64 c10) rfl)
  have X11 := lat_cell (R.cell (i := 11) (v := .int .i64 c11) rfl)
  have X12 := lat_cell (R.cell (i := 12) (v := .bool c12) rfl)
  have X13 := lat_cell (R.cell (i := 13) (v := .int .i64 c13) rfl)
  have X14 := lat_cell (R.cell (i := 14) (v := .int .i64 c14) rfl)
  have X15 := lat_cell (R.cell (i := 15) (v := .string c15) rfl)
  have X16 := lat_cell (R.cell (i := 16) (v := .string c16) rfl)
  have X17 := lat_cell (R.cell (i := 17) (v := .string c17) rfl)
  have X18 := lat_cell (R.cell (i := 18) (v := .slice a18 n18 p18) rfl)
  have X19 := lat_cell (R.cell (i := 19) (v := .slice a19 n19 p19) rfl)
  have hI1 : ∀ n, Calls Tryz.prog 119 #[.slice a9 n9 p9, .slice a19 n19 p19, .func (.func 84) #[] #[]] (lat w1 n) fun e w' => e = .returned (.bool v9) ∧ Below (lat w1 n).heap.size (lat w1 n) w' := fun n => hI _ (hz.trans ((lat_below w1 n).mono hz.size))
  clear hI
  cases v0
  case false =>
    refine region_lat (by kernel_rfl) (by kernel_rfl) ?_
    iterate 28 (go_big_quiet_step ((refine (nodeOf_any _ _ _ _ _ _ _ _ _ _ _ _ _ _ (lat w1 _)).mono ?_; rintro e w2 ⟨rfl, hb2⟩; exact ⟨rfl, lat_to hb2⟩)))
    refine wpQuiet_nil ?_
    rintro _ ⟨nq, rfl⟩
    have hbq := HB.out.trans ((lat_below w1 nq).mono HB.out.size)
    clear hq1 X0 X1 X2 X3 X4 X5 X6 X7 X8 X9 X10 X11 X12 X13 X14 X15 X16 X17 X18 X19
    generalize lat w1 nq = wq at hbq ⊢
    go_wp2_with fail
    go_ret
    exact ⟨by simp [], hbq⟩
  case true =>
    by_cases h8 : n8 = n18
    · have g8 : ((n8 : Int) == (n18 : Int)) = true := by simp; omega
      have H8 := Lib.hid h8
      clear h8
      refine region_lat (by kernel_rfl) (by kernel_rfl) ?_
      iterate 28 (go_big_quiet_step (first | (refine (nodeOf_any _ _ _ _ _ _ _ _ _ _ _ _ _ _ (lat w1 _)).mono ?_; rintro e w2 ⟨rfl, hb2⟩; exact ⟨rfl, lat_to hb2⟩) | (refine (hI1 _).mono ?_; rintro e w2 ⟨rfl, hb2⟩; exact ⟨rfl, lat_to hb2⟩)))
      refine wpQuiet_nil ?_
      rintro _ ⟨nq, rfl⟩
      have hbq := HB.out.trans ((lat_below w1 nq).mono HB.out.size)
      clear hq1 X0 X1 X2 X3 X4 X5 X6 X7 X8 X9 X10 X11 X12 X13 X14 X15 X16 X17 X18 X19
      generalize lat w1 nq = wq at hbq ⊢
      go_wp2_with fail
      go_ret
      exact ⟨by simp [H8.out], hbq⟩
    · have g8 : ((n8 : Int) == (n18 : Int)) = false := by simp; omega
      have H8 := Lib.hid h8
      clear h8
      refine region_lat (by kernel_rfl) (by kernel_rfl) ?_
      iterate 28 (go_big_quiet_step ((refine (nodeOf_any _ _ _ _ _ _ _ _ _ _ _ _ _ _ (lat w1 _)).mono ?_; rintro e w2 ⟨rfl, hb2⟩; exact ⟨rfl, lat_to hb2⟩)))
      refine wpQuiet_nil ?_
      rintro _ ⟨nq, rfl⟩
      have hbq := HB.out.trans ((lat_below w1 nq).mono HB.out.size)
      clear hq1 X0 X1 X2 X3 X4 X5 X6 X7 X8 X9 X10 X11 X12 X13 X14 X15 X16 X17 X18 X19
      generalize lat w1 nq = wq at hbq ⊢
      go_wp2_with fail
      go_ret
      exact ⟨by simp [H8.out], hbq⟩
end Go.Proofs.YtcliijfdlcagoaaGreat
