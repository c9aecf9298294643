/- Joined texts: Slots DelF DelG AppB Concat. -/
import Derived.Test.YtcliijfdlcagoaaGreatQZAI
import Derived.Test.YtcliijfdlcagoaaGreatQHSzTree
import Derived.Laws.CopyRow
import Derived.Lib.SliceRun
import Derived.Lib.AppendZeros
import Derived.Shelf.Abstract
namespace Go.Proofs.YtcliijfdlcagoaaGreat
set_option linter.unusedVariables false
set_option linter.unusedSimpArgs false
open Go.RowKit
theorem OutK.ten {w0 : World} {ys : List Value} {c : Nd} (h : OutK exprTy w0 ys [c]) : ∃ (c0 : Int) (c1 : Int) (c2 : Bool) (c3 : Int) (c4 : Int) (c5 : ByteArray) (c6 : ByteArray) (c7 : ByteArray) (a8 : Option Addr) (n8 p8 : Nat) (a9 : Option Addr) (n9 p9 : Nat),
    ys = [.int .i64 c0, .int .i64 c1, .bool c2, .int .i64 c3, .int .i64 c4, .string c5, .string c6, .string c7, .slice a8 n8 p8, .slice a9 n9 p9] ∧
    ((c 0 = .v (.int .i64 c0) ∧ -9223372036854775808 ≤ c0 ∧ c0 ≤ 9223372036854775807) ∧ (c 1 = .v (.int .i64 c1) ∧ -9223372036854775808 ≤ c1 ∧ c1 ≤ 9223372036854775807) ∧ c 2 = .v (.bool c2) ∧ (c 3 = .v (.int .i64 c3) ∧ -9223372036854775808 ≤ c3 ∧ c3 ≤ 9223372036854775807) ∧ (c 4 = .v (.int .i64 c4) ∧ -9223372036854775808 ≤ c4 ∧ c4 ≤ 9223372036854775807) ∧ (c 5 = .v (.string c5) ∧ c5.size ≤ 9223372036854775807) ∧ (c 6 = .v (.string c6) ∧ c6.size ≤ 9223372036854775807) ∧ (c 7 = .v (.string c7) ∧ c7.size ≤ 9223372036854775807) ∧ (Rd w0 0 (.slice a8 n8 p8) (c 8) ∧ Fits (c 8) .exprs) ∧ (Rd w0 0 (.slice a9 n9 p9) (c 9) ∧ Fits (c 9) .queries)) := by
  have hl : ys.length = 10 := h.1
  obtain ⟨y0, z0, r0, f0⟩ := h.cellOf 0 (by decide)
  obtain ⟨c0, e0, b0⟩ := Fits.int f0
  rw [e0] at r0; obtain rfl : y0 = _ := r0
  obtain ⟨y1, z1, r1, f1⟩ := h.cellOf 1 (by decide)
  obtain ⟨c1, e1, b1⟩ := Fits.int f1
  rw [e1] at r1; obtain rfl : y1 = _ := r1
  obtain ⟨y2, z2, r2, f2⟩ := h.cellOf 2 (by decide)
  obtain ⟨c2, e2⟩ := Fits.bool f2
  rw [e2] at r2; obtain rfl : y2 = _ := r2
  obtain ⟨y3, z3, r3, f3⟩ := h.cellOf 3 (by decide)
  obtain ⟨c3, e3, b3⟩ := Fits.int f3
  rw [e3] at r3; obtain rfl : y3 = _ := r3
  obtain ⟨y4, z4, r4, f4⟩ := h.cellOf 4 (by decide)
  obtain ⟨c4, e4, b4⟩ := Fits.int f4
  rw [e4] at r4; obtain rfl : y4 = _ := r4
  obtain ⟨y5, z5, r5, f5⟩ := h.cellOf 5 (by decide)
  obtain ⟨c5, e5, b5⟩ := Fits.str f5
  rw [e5] at r5; obtain rfl : y5 = _ := r5
  obtain ⟨y6, z6, r6, f6⟩ := h.cellOf 6 (by decide)
  obtain ⟨c6, e6, b6⟩ := Fits.str f6
  rw [e6] at r6; obtain rfl : y6 = _ := r6
  obtain ⟨y7, z7, r7, f7⟩ := h.cellOf 7 (by decide)
  obtain ⟨c7, e7, b7⟩ := Fits.str f7
  rw [e7] at r7; obtain rfl : y7 = _ := r7
  obtain ⟨y8, z8, r8, f8⟩ := h.cellOf 8 (by decide)
  have g8 : Fits (c 8) .exprs := f8
  obtain ⟨a8, n8, p8, rfl⟩ := r8.slice_of g8 rfl
  obtain ⟨y9, z9, r9, f9⟩ := h.cellOf 9 (by decide)
  have g9 : Fits (c 9) .queries := f9
  obtain ⟨a9, n9, p9, rfl⟩ := r9.slice_of g9 rfl
  refine ⟨c0, c1, c2, c3, c4, c5, c6, c7, a8, n8, p8, a9, n9, p9, ?_, ⟨e0, b0⟩, ⟨e1, b1⟩, e2, ⟨e3, b3⟩, ⟨e4, b4⟩, ⟨e5, b5⟩, ⟨e6, b6⟩, ⟨e7, b7⟩, ⟨r8, g8⟩, ⟨r9, g9⟩⟩
  refine List.ext_getElem? fun j => ?_
  rcases j with _ | _ | _ | _ | _ | _ | _ | _ | _ | _ | j
  · exact z0
  · exact z1
  · exact z2
  · exact z3
  · exact z4
  · exact z5
  · exact z6
  · exact z7
  · exact z8
  · exact z9
  · rw [List.getElem?_eq_none (by omega), List.getElem?_eq_none (by simp)]
theorem OutK.itemRow {w0 : World} {ys : List Value} {c : Nd} (h : OutK (rowTy .items) w0 ys [c]) : ∃ (c0 : Bool) (c1 : ByteArray) (c2 : Int) (c3 : Int) (c4 : Bool) (c5 : Int) (c6 : Int) (c7 : ByteArray) (c8 : ByteArray) (c9 : ByteArray) (a10 : Option Addr) (n10 p10 : Nat) (a11 : Option Addr) (n11 p11 : Nat) (c12 : ByteArray),
    ys = [.bool c0, .string c1, .int .i64 c2, .int .i64 c3, .bool c4, .int .i64 c5, .int .i64 c6, .string c7, .string c8, .string c9, .slice a10 n10 p10, .slice a11 n11 p11, .string c12] ∧
    (c 0 = .v (.bool c0) ∧ (c 1 = .v (.string c1) ∧ c1.size ≤ 9223372036854775807) ∧ (c 2 = .v (.int .i64 c2) ∧ -9223372036854775808 ≤ c2 ∧ c2 ≤ 9223372036854775807) ∧ (c 3 = .v (.int .i64 c3) ∧ -9223372036854775808 ≤ c3 ∧ c3 ≤ 9223372036854775807) ∧ c 4 = .v (.bool c4) ∧ (c 5 = .v (.int .i64 c5) ∧ -9223372036854775808 ≤ c5 ∧ c5 ≤ 9223372036854775807) ∧ (c 6 = .v (.int .i64 c6) ∧ -9223372036854775808 ≤ c6 ∧ c6 ≤ 9223372036854775807) ∧ (c 7 = .v (.string c7) ∧ c7.size ≤ 9223372036854775807) ∧ (c 8 = .v (.string c8) ∧ c8.size ≤ 9223372036854775807) ∧ (c 9 = .v (.string c9) ∧ c9.size ≤ 9223372036854775807) ∧ (Rd w0 0 (.slice a10 n10 p10) (c 10) ∧ Fits (c 10) .exprs) ∧ (Rd w0 0 (.slice a11 n11 p11) (c 11) ∧ Fits (c 11) .queries) ∧ (c 12 = .v (.string c12) ∧ c12.size ≤ 9223372036854775807)) := by
  have hl : ys.length = 13 := h.1
  obtain ⟨y0, z0, r0, f0⟩ := h.cellOf 0 (by decide)
  obtain ⟨c0, e0⟩ := Fits.bool f0
  rw [e0] at r0; obtain rfl : y0 = _ := r0
  obtain ⟨y1, z1, r1, f1⟩ := h.cellOf 1 (by decide)
  obtain ⟨c1, e1, b1⟩ := Fits.str f1
  rw [e1] at r1; obtain rfl : y1 = _ := r1
  obtain ⟨y2, z2, r2, f2⟩ := h.cellOf 2 (by decide)
  obtain ⟨c2, e2, b2⟩ := Fits.int f2
  rw [e2] at r2; obtain rfl : y2 = _ := r2
  obtain ⟨y3, z3, r3, f3⟩ := h.cellOf 3 (by decide)
  obtain ⟨c3, e3, b3⟩ := Fits.int f3
  rw [e3] at r3; obtain rfl : y3 = _ := r3
  obtain ⟨y4, z4, r4, f4⟩ := h.cellOf 4 (by decide)
  obtain ⟨c4, e4⟩ := Fits.bool f4
  rw [e4] at r4; obtain rfl : y4 = _ := r4
  obtain ⟨y5, z5, r5, f5⟩ := h.cellOf 5 (by decide)
  obtain ⟨c5, e5, b5⟩ := Fits.int f5
  rw [e5] at r5; obtain rfl : y5 = _ := r5
  obtain ⟨y6, z6, r6, f6⟩ := h.cellOf 6 (by decide)
  obtain ⟨c6, e6, b6⟩ := Fits.int f6
  rw [e6] at r6; obtain rfl : y6 = _ := r6
  obtain ⟨y7, z7, r7, f7⟩ := h.cellOf 7 (by decide)
  obtain ⟨c7, e7, b7⟩ := Fits.str f7
  rw [e7] at r7; obtain rfl : y7 = _ := r7
  obtain ⟨y8, z8, r8, f8⟩ := h.cellOf 8 (by decide)
  obtain ⟨c8, e8, b8⟩ := Fits.str f8
  rw [e8] at r8; obtain rfl : y8 = _ := r8
  obtain ⟨y9, z9, r9, f9⟩ := h.cellOf 9 (by decide)
  obtain ⟨c9, e9, b9⟩ := Fits.str f9
  rw [e9] at r9; obtain rfl : y9 = _ := r9
  obtain ⟨y10, z10, r10, f10⟩ := h.cellOf 10 (by decide)
  have g10 : Fits (c 10) .exprs := f10
  obtain ⟨a10, n10, p10, rfl⟩ := r10.slice_of g10 rfl
  obtain ⟨y11, z11, r11, f11⟩ := h.cellOf 11 (by decide)
  have g11 : Fits (c 11) .queries := f11
  obtain ⟨a11, n11, p11, rfl⟩ := r11.slice_of g11 rfl
  obtain ⟨y12, z12, r12, f12⟩ := h.cellOf 12 (by decide)
  obtain ⟨c12, e12, b12⟩ := Fits.str f12
  rw [e12] at r12; obtain rfl : y12 = _ := r12
  refine ⟨c0, c1, c2, c3, c4, c5, c6, c7, c8, c9, a10, n10, p10, a11, n11, p11, c12, ?_, e0, ⟨e1, b1⟩, ⟨e2, b2⟩, ⟨e3, b3⟩, e4, ⟨e5, b5⟩, ⟨e6, b6⟩, ⟨e7, b7⟩, ⟨e8, b8⟩, ⟨e9, b9⟩, ⟨r10, g10⟩, ⟨r11, g11⟩, ⟨e12, b12⟩⟩
  refine List.ext_getElem? fun j => ?_
  rcases j with _ | _ | _ | _ | _ | _ | _ | _ | _ | _ | _ | _ | _ | j
  · exact z0
  · exact z1
  · exact z2
  · exact z3
  · exact z4
  · exact z5
  · exact z6
  · exact z7
  · exact z8
  · exact z9
  · exact z10
  · exact z11
  · exact z12
  · rw [List.getElem?_eq_none (by omega), List.getElem?_eq_none (by simp)]
theorem OutK.sourceRow {w0 : World} {ys : List Value} {c : Nd} (h : OutK (rowTy .sources) w0 ys [c]) : ∃ (c0 : ByteArray) (c1 : ByteArray) (a2 : Option Addr) (n2 p2 : Nat),
    ys = [.string c0, .string c1, .slice a2 n2 p2] ∧
    ((c 0 = .v (.string c0) ∧ c0.size ≤ 9223372036854775807) ∧ (c 1 = .v (.string c1) ∧ c1.size ≤ 9223372036854775807) ∧ (Rd w0 0 (.slice a2 n2 p2) (c 2) ∧ Fits (c 2) .exprs)) := by
  have hl : ys.length = 3 := h.1
  obtain ⟨y0, z0, r0, f0⟩ := h.cellOf 0 (by decide)
  obtain ⟨c0, e0, b0⟩ := Fits.str f0
  rw [e0] at r0; obtain rfl : y0 = _ := r0
  obtain ⟨y1, z1, r1, f1⟩ := h.cellOf 1 (by decide)
  obtain ⟨c1, e1, b1⟩ := Fits.str f1
  rw [e1] at r1; obtain rfl : y1 = _ := r1
  obtain ⟨y2, z2, r2, f2⟩ := h.cellOf 2 (by decide)
  have g2 : Fits (c 2) .exprs := f2
  obtain ⟨a2, n2, p2, rfl⟩ := r2.slice_of g2 rfl
  refine ⟨c0, c1, a2, n2, p2, ?_, ⟨e0, b0⟩, ⟨e1, b1⟩, ⟨r2, g2⟩⟩
  refine List.ext_getElem? fun j => ?_
  rcases j with _ | _ | _ | j
  · exact z0
  · exact z1
  · exact z2
  · rw [List.getElem?_eq_none (by omega), List.getElem?_eq_none (by simp)]
theorem OutK.keyRow {w0 : World} {ys : List Value} {c : Nd} (h : OutK (rowTy .keys) w0 ys [c]) : ∃ (c0 : Int) (c1 : Int) (c2 : Bool) (c3 : Int) (c4 : Int) (c5 : ByteArray) (c6 : ByteArray) (c7 : ByteArray) (a8 : Option Addr) (n8 p8 : Nat) (a9 : Option Addr) (n9 p9 : Nat) (c10 : Bool),
    ys = [.int .i64 c0, .int .i64 c1, .bool c2, .int .i64 c3, .int .i64 c4, .string c5, .string c6, .string c7, .slice a8 n8 p8, .slice a9 n9 p9, .bool c10] ∧
    ((c 0 = .v (.int .i64 c0) ∧ -9223372036854775808 ≤ c0 ∧ c0 ≤ 9223372036854775807) ∧ (c 1 = .v (.int .i64 c1) ∧ -9223372036854775808 ≤ c1 ∧ c1 ≤ 9223372036854775807) ∧ c 2 = .v (.bool c2) ∧ (c 3 = .v (.int .i64 c3) ∧ -9223372036854775808 ≤ c3 ∧ c3 ≤ 9223372036854775807) ∧ (c 4 = .v (.int .i64 c4) ∧ -9223372036854775808 ≤ c4 ∧ c4 ≤ 9223372036854775807) ∧ (c 5 = .v (.string c5) ∧ c5.size ≤ 9223372036854775807) ∧ (c 6 = .v (.string c6) ∧ c6.size ≤ 9223372036854775807) ∧ (c 7 = .v (.string c7) ∧ c7.size ≤ 9223372036854775807) ∧ (Rd w0 0 (.slice a8 n8 p8) (c 8) ∧ Fits (c 8) .exprs) ∧ (Rd w0 0 (.slice a9 n9 p9) (c 9) ∧ Fits (c 9) .queries) ∧ c 10 = .v (.bool c10)) := by
  have hl : ys.length = 11 := h.1
  obtain ⟨y0, z0, r0, f0⟩ := h.cellOf 0 (by decide)
  obtain ⟨c0, e0, b0⟩ := Fits.int f0
  rw [e0] at r0; obtain rfl : y0 = _ := r0
  obtain ⟨y1, z1, r1, f1⟩ := h.cellOf 1 (by decide)
  obtain ⟨c1, e1, b1⟩ := Fits.int f1
  rw [e1] at r1; obtain rfl : y1 = _ := r1
  obtain ⟨y2, z2, r2, f2⟩ := h.cellOf 2 (by decide)
  obtain ⟨c2, e2⟩ := Fits.bool f2
  rw [e2] at r2; obtain rfl : y2 = _ := r2
  obtain ⟨y3, z3, r3, f3⟩ := h.cellOf 3 (by decide)
  obtain ⟨c3, e3, b3⟩ := Fits.int f3
  rw [e3] at r3; obtain rfl : y3 = _ := r3
  obtain ⟨y4, z4, r4, f4⟩ := h.cellOf 4 (by decide)
  obtain ⟨c4, e4, b4⟩ := Fits.int f4
  rw [e4] at r4; obtain rfl : y4 = _ := r4
  obtain ⟨y5, z5, r5, f5⟩ := h.cellOf 5 (by decide)
  obtain ⟨c5, e5, b5⟩ := Fits.str f5
  rw [e5] at r5; obtain rfl : y5 = _ := r5
  obtain ⟨y6, z6, r6, f6⟩ := h.cellOf 6 (by decide)
  obtain ⟨c6, e6, b6⟩ := Fits.str f6
  rw [e6] at r6; obtain rfl : y6 = _ := r6
  obtain ⟨y7, z7, r7, f7⟩ := h.cellOf 7 (by decide)
  obtain ⟨c7, e7, b7⟩ := Fits.str f7
  rw [e7] at r7; obtain rfl : y7 = _ := r7
  obtain ⟨y8, z8, r8, f8⟩ := h.cellOf 8 (by decide)
  have g8 : Fits (c 8) .exprs := f8
  obtain ⟨a8, n8, p8, rfl⟩ := r8.slice_of g8 rfl
  obtain ⟨y9, z9, r9, f9⟩ := h.cellOf 9 (by decide)
  have g9 : Fits (c 9) .queries := f9
  obtain ⟨a9, n9, p9, rfl⟩ := r9.slice_of g9 rfl
  obtain ⟨y10, z10, r10, f10⟩ := h.cellOf 10 (by decide)
  obtain ⟨c10, e10⟩ := Fits.bool f10
  rw [e10] at r10; obtain rfl : y10 = _ := r10
  refine ⟨c0, c1, c2, c3, c4, c5, c6, c7, a8, n8, p8, a9, n9, p9, c10, ?_, ⟨e0, b0⟩, ⟨e1, b1⟩, e2, ⟨e3, b3⟩, ⟨e4, b4⟩, ⟨e5, b5⟩, ⟨e6, b6⟩, ⟨e7, b7⟩, ⟨r8, g8⟩, ⟨r9, g9⟩, e10⟩
  refine List.ext_getElem? fun j => ?_
  rcases j with _ | _ | _ | _ | _ | _ | _ | _ | _ | _ | _ | j
  · exact z0
  · exact z1
  · exact z2
  · exact z3
  · exact z4
  · exact z5
  · exact z6
  · exact z7
  · exact z8
  · exact z9
  · exact z10
  · rw [List.getElem?_eq_none (by omega), List.getElem?_eq_none (by simp)]
theorem LK.at {tys : List Ty} {w0 w : World} {G : Nat → Prop} {v : Value} {L : List Nd} (h : LK tys w0 w G v L) {j : Nat} {c : Nd} (hc : L[j]? = some c) :
    ∃ g o cap ys, v = .slice (some ⟨g, o, none⟩) L.length cap ∧ OutK tys w0 ys [c] ∧ G g ∧ g < w.heap.size ∧ ∀ m u, ys[m]? = some u → w.cell? ⟨g, o + j * tys.length + m, none⟩ = some u := by
  have hj : j < L.length := (List.getElem?_eq_some_iff.1 hc).1
  obtain ⟨a, cap, C, e, hC, h⟩ := h
  rcases h with rfl | ⟨g, o, rfl, _, hg, hlt, hcell⟩
  · simp at hc
  have hlen : j * tys.length + tys.length ≤ C.length := by
    rw [hC.1]
    have : (j + 1) * tys.length ≤ L.length * tys.length := Nat.mul_le_mul_right _ hj
    rw [Nat.add_mul, Nat.one_mul] at this
    exact this
  refine ⟨g, o, cap, (C.drop (j * tys.length)).take tys.length, e, OutK.one (by rw [List.length_take, List.length_drop]; omega) fun m hm => ?_, hg, hlt, fun m u hm => ?_⟩
  · obtain ⟨y, hy, hr⟩ := hC.2 j c hc m hm
    exact ⟨y, by rw [List.getElem?_take_of_lt hm, List.getElem?_drop]; exact hy, hr⟩
  · have hml : m < tys.length := by have := (List.getElem?_eq_some_iff.1 hm).1; rw [List.length_take] at this; omega
    rw [List.getElem?_take_of_lt hml, List.getElem?_drop] at hm
    rw [Nat.add_assoc]
    exact hcell _ u hm
theorem OutE.later {w0 w w' : World} {B : Nat} {v : Value} {L : List Nd} (h : OutE w0 w B v L) (hb : Below w.heap.size w w') : OutE w0 w' B v L := by
  obtain ⟨C, hC, hP⟩ := h
  refine ⟨C, ⟨hC.1, hC.2.imp id ?_⟩, hP⟩
  rintro ⟨g, cap, cur, e, hg, hrow, hr⟩
  exact ⟨g, cap, cur, e, hg, (hb.block g (Array.getElem?_eq_some_iff.1 hrow).1).trans hrow, hr⟩
structure LY (w0 W wr : World) (arr : Array Value) (out : Value) (L : List Nd) : Prop where
  box : RowAt wr W.heap.size 39 arr
  own : OutE w0 wr (W.heap.size + 1) out L
  b : Below W.heap.size W wr
  b0 : Below w0.heap.size w0 wr
theorem LY.app {w0 W wr w' : World} {arr : Array Value} {out out' : Value} {L L' : List Nd} (H : LY w0 W wr arr out L) (h : OutE w0 w' (W.heap.size + 1) out' L') (hb : Below (W.heap.size + 1) wr w') (hz : w0.heap.size ≤ W.heap.size := by assumption) : LY w0 W w' arr out' L' :=
  ⟨(hb.block _ (Nat.lt_succ_self _)).trans H.box, h, H.b.trans (hb.mono (Nat.le_succ _)), H.b0.trans (hb.mono (Nat.le_succ_of_le hz))⟩
theorem LY.sz {w0 W wr : World} {arr : Array Value} {out : Value} {L : List Nd} (H : LY w0 W wr arr out L) : W.heap.size + 1 ≤ wr.heap.size := H.box.lt
theorem LY.next {w0 W wr w' : World} {arr : Array Value} {out : Value} {L : List Nd} (H : LY w0 W wr arr out L) (h : Below wr.heap.size wr w') : LY w0 W w' arr out L :=
  ⟨H.box.later h, H.own.later h, H.b.trans (h.mono H.b.size), H.b0.trans (h.mono H.b0.size)⟩
set_option maxRecDepth 100000 in
set_option maxHeartbeats 8000000 in
theorem slots_any (w0 W : World) (c0 : Bool) (a1 : Option Addr) (p1 : Nat) (L1 : List Nd) (a2 : Option Addr) (n2 p2 : Nat) (a3 : Option Addr) (n3 p3 : Nat) (a4 : Option Addr) (n4 p4 : Nat) (c5 : Int) (f2 f3 f4 : Nat → Nat → Dat)
    (hb0 : Below w0.heap.size w0 W) (h1 : LK (rowTy .items) w0 W (fun _ => True) (.slice a1 L1.length p1) L1) (r2 : Rd w0 0 (.slice a2 n2 p2) (.sl n2 3 f2)) (q2 : Fits (.sl n2 3 f2) .sources)
    (r3 : Rd w0 0 (.slice a3 n3 p3) (.sl n3 10 f3)) (q3 : Fits (.sl n3 10 f3) .exprs) (r4 : Rd w0 0 (.slice a4 n4 p4) (.sl n4 11 f4)) (q4 : Fits (.sl n4 11 f4) .keys)
    (hN : L1.length + (exFrom (.sl n2 3 f2)).length + n3 + n4 ≤ 1048576) :
    Calls Tryz.prog 85 #[.agg #[.bool c0, .slice a1 L1.length p1, .slice a2 n2 p2, .slice a3 n3 p3, .slice a4 n4 p4, .int .i64 c5]] W fun e w' => ∃ v, e = .returned v ∧ OutE w0 w' (W.heap.size + 1) v (((L1.map (cut 2) ++ exFrom (.sl n2 3 f2)) ++ (Dat.sl n3 10 f3).els) ++ (Dat.sl n4 11 f4).els) ∧ Below W.heap.size W w' := by
  have hz0 := hb0.size
  have H0 : LY w0 W (W.alloc (.cells #[.bool c0, .slice a1 L1.length p1, .slice a2 n2 p2, .slice a3 n3 p3, .slice a4 n4 p4, .int .i64 c5] 39)) #[.bool c0, .slice a1 L1.length p1, .slice a2 n2 p2, .slice a3 n3 p3, .slice a4 n4 p4, .int .i64 c5] (.slice none 0 0) ((L1.take 0).map (cut 2)) :=
    ⟨RowAt.new W _ _, ⟨[], World.ownsRow_nil _ _ _ _, OutP.nil w0⟩, (Below.refl _ _).alloc (Nat.le_refl _) _, hb0.alloc hb0.size _⟩
  have HN := Lib.hid hN
  clear hN
  have hn1 : L1.length ≤ 9223372036854775807 := by have := HN.out; omega
  have hn2 := q2.2.1
  have hn3 := q3.2.1
  have hn4 := q4.2.1
  have b1 := H0.box.cell (i := 1) (v := .slice a1 L1.length p1) rfl
  go_enter Tryz.func85, Tryz.ntmps85
  go_wp2_with fail
  generalize W.alloc (.cells #[.bool c0, .slice a1 L1.length p1, .slice a2 n2 p2, .slice a3 n3 p3, .slice a4 n4 p4, .int .i64 c5] 39) = w1 at H0 ⊢
  clear b1
  go_loopw [3, 13] (fun out i wr => ∃ (j : Nat) (v : Value), j ≤ L1.length ∧ i = .int .i64 (j : Int) ∧ v = out ∧ LY w0 W wr #[.bool c0, .slice a1 L1.length p1, .slice a2 n2 p2, .slice a3 n3 p3, .slice a4 n4 p4, .int .i64 c5] v ((L1.take j).map (cut 2))) (fun _ i _ => L1.length - (intOf i).toNat)
  case atStart => exact ⟨0, _, by omega, rfl, rfl, H0⟩
  case round =>
    obtain ⟨j, v, hj, rfl, rfl, H⟩ := hrel
    by_cases hlt : j < L1.length
    · have hlt2 : (j : Int) < (L1.length : Int) := by omega
      obtain ⟨g, o, cap, ys, hv, hys, -, hg, hcell⟩ := h1.at (List.getElem?_eq_getElem hlt)
      injection hv with e1 _ e3
      subst e1; subst e3
      obtain ⟨x0, x1, x2, x3, x4, x5, x6, x7, x8, x9, ax10, nx10, px10, ax11, nx11, px11, x12, rfl, e0, ⟨e1, b1⟩, ⟨e2, b2⟩, ⟨e3, b3⟩, e4, ⟨e5, b5⟩, ⟨e6, b6⟩, ⟨e7, b7⟩, ⟨e8, b8⟩, ⟨e9, b9⟩, ⟨r10, q10⟩, ⟨r11, q11⟩, ⟨e12, b12⟩⟩ := hys.itemRow
      have z0 : wr.cell? ⟨g, o + j * 13, none⟩ = some (.bool x0) := (H.b.cell (p := ⟨g, o + j * 13, none⟩) hg).trans (hcell 0 _ rfl)
      have z1 : wr.cell? ⟨g, o + j * 13 + 1, none⟩ = some (.string x1) := (H.b.cell (p := ⟨g, o + j * 13 + 1, none⟩) hg).trans (hcell 1 _ rfl)
      have z2 : wr.cell? ⟨g, o + j * 13 + 2, none⟩ = some (.int .i64 x2) := (H.b.cell (p := ⟨g, o + j * 13 + 2, none⟩) hg).trans (hcell 2 _ rfl)
      have z3 : wr.cell? ⟨g, o + j * 13 + 3, none⟩ = some (.int .i64 x3) := (H.b.cell (p := ⟨g, o + j * 13 + 3, none⟩) hg).trans (hcell 3 _ rfl)
      have z4 : wr.cell? ⟨g, o + j * 13 + 4, none⟩ = some (.bool x4) := (H.b.cell (p := ⟨g, o + j * 13 + 4, none⟩) hg).trans (hcell 4 _ rfl)
      have z5 : wr.cell? ⟨g, o + j * 13 + 5, none⟩ = some (.int .i64 x5) := (H.b.cell (p := ⟨g, o + j * 13 + 5, none⟩) hg).trans (hcell 5 _ rfl)
      have z6 : wr.cell? ⟨g, o + j * 13 + 6, none⟩ = some (.int .i64 x6) := (H.b.cell (p := ⟨g, o + j * 13 + 6, none⟩) hg).trans (hcell 6 _ rfl)
      have z7 : wr.cell? ⟨g, o + j * 13 + 7, none⟩ = some (.string x7) := (H.b.cell (p := ⟨g, o + j * 13 + 7, none⟩) hg).trans (hcell 7 _ rfl)
      have z8 : wr.cell? ⟨g, o + j * 13 + 8, none⟩ = some (.string x8) := (H.b.cell (p := ⟨g, o + j * 13 + 8, none⟩) hg).trans (hcell 8 _ rfl)
      have z9 : wr.cell? ⟨g, o + j * 13 + 9, none⟩ = some (.string x9) := (H.b.cell (p := ⟨g, o + j * 13 + 9, none⟩) hg).trans (hcell 9 _ rfl)
      have z10 : wr.cell? ⟨g, o + j * 13 + 10, none⟩ = some (.slice ax10 nx10 px10) := (H.b.cell (p := ⟨g, o + j * 13 + 10, none⟩) hg).trans (hcell 10 _ rfl)
      have z11 : wr.cell? ⟨g, o + j * 13 + 11, none⟩ = some (.slice ax11 nx11 px11) := (H.b.cell (p := ⟨g, o + j * 13 + 11, none⟩) hg).trans (hcell 11 _ rfl)
      have z12 : wr.cell? ⟨g, o + j * 13 + 12, none⟩ = some (.string x12) := (H.b.cell (p := ⟨g, o + j * 13 + 12, none⟩) hg).trans (hcell 12 _ rfl)
      clear hcell
      have hc : OutP w0 [.int .i64 x2, .int .i64 x3, .bool x4, .int .i64 x5, .int .i64 x6, .string x7, .string x8, .string x9, .slice ax10 nx10 px10, .slice ax11 nx11 px11] [cut 2 L1[j]] := OutP.one rfl (fun m hm => match m, hm with
          | 0, _ => ⟨_, rfl, by show Rd w0 0 _ (L1[j] 2); rw [e2]; rfl, by show Fits (L1[j] 2) _; rw [e2]; exact ⟨_, rfl, b2⟩⟩
          | 1, _ => ⟨_, rfl, by show Rd w0 0 _ (L1[j] 3); rw [e3]; rfl, by show Fits (L1[j] 3) _; rw [e3]; exact ⟨_, rfl, b3⟩⟩
          | 2, _ => ⟨_, rfl, by show Rd w0 0 _ (L1[j] 4); rw [e4]; rfl, by show Fits (L1[j] 4) _; rw [e4]; exact ⟨_, rfl⟩⟩
          | 3, _ => ⟨_, rfl, by show Rd w0 0 _ (L1[j] 5); rw [e5]; rfl, by show Fits (L1[j] 5) _; rw [e5]; exact ⟨_, rfl, b5⟩⟩
          | 4, _ => ⟨_, rfl, by show Rd w0 0 _ (L1[j] 6); rw [e6]; rfl, by show Fits (L1[j] 6) _; rw [e6]; exact ⟨_, rfl, b6⟩⟩
          | 5, _ => ⟨_, rfl, by show Rd w0 0 _ (L1[j] 7); rw [e7]; rfl, by show Fits (L1[j] 7) _; rw [e7]; exact ⟨_, rfl, b7⟩⟩
          | 6, _ => ⟨_, rfl, by show Rd w0 0 _ (L1[j] 8); rw [e8]; rfl, by show Fits (L1[j] 8) _; rw [e8]; exact ⟨_, rfl, b8⟩⟩
          | 7, _ => ⟨_, rfl, by show Rd w0 0 _ (L1[j] 9); rw [e9]; rfl, by show Fits (L1[j] 9) _; rw [e9]; exact ⟨_, rfl, b9⟩⟩
          | 8, _ => ⟨_, rfl, by exact r10, by exact q10⟩
          | 9, _ => ⟨_, rfl, by exact r11, by exact q11⟩
          | m + 10, hm => absurd hm (by simp [exprTy]))
      have HC := Lib.hid hc
      have hs : (L1.take (j + 1)).map (cut 2) = (L1.take j).map (cut 2) ++ [cut 2 L1[j]] := by rw [take_next (List.getElem?_eq_getElem hlt), List.map_append]; rfl
      have HS := Lib.hid hs
      have hl : ((L1.take j).map (cut 2)).length ≤ 4000000 := by have := HN.out; rw [List.length_map, List.length_take]; omega
      have H1 := H.next ((Below.refl _ wr).alloc (Nat.le_refl _) (.cells #[.bool x0, .string x1, .int .i64 x2, .int .i64 x3, .bool x4, .int .i64 x5, .int .i64 x6, .string x7, .string x8, .string x9, .slice ax10 nx10 px10, .slice ax11 nx11 px11, .string x12] 111))
      clear hc hs e0 e1 b1 e2 b2 e3 b3 e4 e5 b5 e6 b6 e7 b7 e8 b8 e9 b9 r10 q10 r11 q11 e12 b12
      go_wp2_with (at_builtin; refine appE rfl (.tmp 17) (.tmp 20) rfl w0 (W.heap.size + 1) v ((L1.take j).map (cut 2)) (cut 2 L1[j]) #[.int .i64 x2, .int .i64 x3, .bool x4, .int .i64 x5, .int .i64 x6, .string x7, .string x8, .string x9, .slice ax10 nx10 px10, .slice ax11 nx11 px11] (wr.alloc (.cells #[.bool x0, .string x1, .int .i64 x2, .int .i64 x3, .bool x4, .int .i64 x5, .int .i64 x6, .string x7, .string x8, .string x9, .slice ax10 nx10 px10, .slice ax11 nx11 px11, .string x12] 111)) (wr.heap.size + 1) (by simp) rfl rfl H1.own HC.out hl H1.sz ?_; intro v' w' hown' hb')
      have H2 := H1.app hown' hb'
      rw [← HS.out] at H2
      go_roundw
      case rel => exact ⟨j + 1, _, by omega, by go_num, rfl, H2⟩
      case measure => simp [intOf]; omega
    · obtain rfl : j = L1.length := by omega
      clear hlt hj
      rw [List.take_length] at H
      have bx := H.box.cell (i := 2) (v := .slice a2 n2 p2) rfl
      go_wp2_with fail
      clear bx
      go_loopw [3, 26] (fun out i wr => ∃ (j : Nat) (v : Value), j ≤ n2 ∧ i = .int .i64 (j : Int) ∧ v = out ∧ LY w0 W wr #[.bool c0, .slice a1 L1.length p1, .slice a2 n2 p2, .slice a3 n3 p3, .slice a4 n4 p4, .int .i64 c5] v ((L1.map (cut 2)) ++ exFrom (.sl j 3 f2))) (fun _ i _ => n2 - (intOf i).toNat)
      case atStart => exact ⟨0, _, by omega, rfl, rfl, by show LY w0 W _ _ _ (_ ++ []); rw [List.append_nil]; exact H⟩
      case round =>
        obtain ⟨j, v, hj, rfl, rfl, H⟩ := hrel
        by_cases hlt : j < n2
        · have hlt2 : (j : Int) < (n2 : Int) := by omega
          obtain ⟨g, o, rfl, -, hg, x0, x1, x2, ⟨z0, z1, z2⟩, ⟨⟨e0, b0⟩, ⟨e1, b1⟩, ⟨r2_, q2_⟩⟩⟩ := row_sources r2 q2 hlt
          replace z0 := (H.b0.cell (p := ⟨g, o + j * 3, none⟩) hg).trans z0
          replace z1 := (H.b0.cell (p := ⟨g, o + j * 3 + 1, none⟩) hg).trans z1
          replace z2 := (H.b0.cell (p := ⟨g, o + j * 3 + 2, none⟩) hg).trans z2
          obtain ⟨nn, kk, ff, hsl⟩ := q2_.deep rfl
          obtain ⟨ya, yn, yc, rfl⟩ := r2_.slice_of q2_ rfl
          have hs : (L1.map (cut 2)) ++ exFrom (.sl (j + 1) 3 f2) = ((L1.map (cut 2)) ++ exFrom (.sl j 3 f2)) ++ (Dat.sl nn kk ff).els := by rw [exFrom_succ, hsl, List.append_assoc]
          have hl : ((L1.map (cut 2)) ++ exFrom (.sl j 3 f2)).length ≤ 1048576 ∧ nn ≤ 1048576 := by
            have h1 := exFrom_mono 3 f2 (show j + 1 ≤ n2 by omega)
            have h2 := HN.out
            rw [exFrom_succ, hsl, List.length_append, els_len] at h1
            rw [List.length_append, List.length_map]
            omega
          rw [hsl] at r2_ q2_
          have HS := Lib.hid hs
          obtain ⟨hl1, hl2⟩ := hl
          have H1 := H.next ((Below.refl _ wr).alloc (Nat.le_refl _) (.cells #[.string x0, .string x1, .slice ya yn yc] 113))
          clear hs hsl e0 e1
          go_wp2_with (at_builtin; refine appM rfl (.tmp 30) (.tmp 32) rfl w0 (W.heap.size + 1) v ((L1.map (cut 2)) ++ exFrom (.sl j 3 f2)) ya yn yc nn kk ff (wr.alloc (.cells #[.string x0, .string x1, .slice ya yn yc] 113)) rfl rfl H1.own r2_ q2_ H1.b0 (by omega) (by omega) H1.sz ?_; intro v' w' hown' hb')
          have H2 := H1.app hown' hb'
          rw [← HS.out] at H2
          go_roundw
          case rel => exact ⟨j + 1, _, by omega, by go_num, rfl, H2⟩
          case measure => simp [intOf]; omega
        · obtain rfl : n2 = j := by omega
          clear hlt hj
          have hl : ((L1.map (cut 2)) ++ exFrom (.sl n2 3 f2)).length ≤ 1048576 ∧ n3 ≤ 1048576 := by
            have h2 := HN.out
            rw [List.length_append, List.length_map]
            omega
          obtain ⟨hl1, hl2⟩ := hl
          have b3 := H.box.cell (i := 3) (v := .slice a3 n3 p3) rfl
          have b4 := H.box.cell (i := 4) (v := .slice a4 n4 p4) rfl
          go_wp2_with (at_builtin; refine appM rfl (.tmp 35) (.tmp 37) rfl w0 (W.heap.size + 1) v ((L1.map (cut 2)) ++ exFrom (.sl n2 3 f2)) a3 n3 p3 n3 10 f3 _ rfl rfl H.own r3 q3 H.b0 (by omega) (by omega) H.sz ?_; intro v' w' hown' hb'; replace H : LY w0 W w' #[.bool c0, .slice a1 L1.length p1, .slice a2 n2 p2, .slice a3 n3 p3, .slice a4 n4 p4, .int .i64 c5] v' (((L1.map (cut 2)) ++ exFrom (.sl n2 3 f2)) ++ (Dat.sl n3 10 f3).els) := H.app hown' hb'; replace b4 := H.box.cell (i := 4) (v := .slice a4 n4 p4) rfl; clear hown' hb' b3)
          clear hl1 hl2 b4
          go_loopw [3, 42] (fun out i wr => ∃ (j : Nat) (v : Value), j ≤ n4 ∧ i = .int .i64 (j : Int) ∧ v = out ∧ LY w0 W wr #[.bool c0, .slice a1 L1.length p1, .slice a2 n2 p2, .slice a3 n3 p3, .slice a4 n4 p4, .int .i64 c5] v ((((L1.map (cut 2)) ++ exFrom (.sl n2 3 f2)) ++ (Dat.sl n3 10 f3).els) ++ (Dat.sl j 11 f4).els)) (fun _ i _ => n4 - (intOf i).toNat)
          case atStart => exact ⟨0, _, by omega, rfl, rfl, by show LY w0 W _ _ _ (_ ++ []); rw [List.append_nil]; exact H⟩
          case round =>
            obtain ⟨j, v, hj, rfl, rfl, H⟩ := hrel
            by_cases hlt : j < n4
            · have hlt2 : (j : Int) < (n4 : Int) := by omega
              obtain ⟨g, o, rfl, -, hg, x0, x1, x2, x3, x4, x5, x6, x7, x8, x9, x10, ⟨z0, z1, z2, z3, z4, z5, z6, z7, z8, z9, z10⟩, ⟨⟨e0, b0⟩, ⟨e1, b1⟩, e2, ⟨e3, b3⟩, ⟨e4, b4⟩, ⟨e5, b5⟩, ⟨e6, b6⟩, ⟨e7, b7⟩, ⟨r8_, q8_⟩, ⟨r9_, q9_⟩, e10⟩⟩ := row_keys r4 q4 hlt
              replace z0 := (H.b0.cell (p := ⟨g, o + j * 11, none⟩) hg).trans z0
              replace z1 := (H.b0.cell (p := ⟨g, o + j * 11 + 1, none⟩) hg).trans z1
              replace z2 := (H.b0.cell (p := ⟨g, o + j * 11 + 2, none⟩) hg).trans z2
              replace z3 := (H.b0.cell (p := ⟨g, o + j * 11 + 3, none⟩) hg).trans z3
              replace z4 := (H.b0.cell (p := ⟨g, o + j * 11 + 4, none⟩) hg).trans z4
              replace z5 := (H.b0.cell (p := ⟨g, o + j * 11 + 5, none⟩) hg).trans z5
              replace z6 := (H.b0.cell (p := ⟨g, o + j * 11 + 6, none⟩) hg).trans z6
              replace z7 := (H.b0.cell (p := ⟨g, o + j * 11 + 7, none⟩) hg).trans z7
              replace z8 := (H.b0.cell (p := ⟨g, o + j * 11 + 8, none⟩) hg).trans z8
              replace z9 := (H.b0.cell (p := ⟨g, o + j * 11 + 9, none⟩) hg).trans z9
              replace z10 := (H.b0.cell (p := ⟨g, o + j * 11 + 10, none⟩) hg).trans z10
              obtain ⟨ya, yn, yc, rfl⟩ := r8_.slice_of q8_ rfl
              obtain ⟨za, zn, zc, rfl⟩ := r9_.slice_of q9_ rfl
              have hs : (((L1.map (cut 2)) ++ exFrom (.sl n2 3 f2)) ++ (Dat.sl n3 10 f3).els) ++ (Dat.sl (j + 1) 11 f4).els = ((((L1.map (cut 2)) ++ exFrom (.sl n2 3 f2)) ++ (Dat.sl n3 10 f3).els) ++ (Dat.sl j 11 f4).els) ++ [f4 j] := by rw [els_succ, ← List.append_assoc]
              have hl : ((((L1.map (cut 2)) ++ exFrom (.sl n2 3 f2)) ++ (Dat.sl n3 10 f3).els) ++ (Dat.sl j 11 f4).els).length ≤ 1048576 := by
                have h2 := HN.out
                simp only [List.length_append, els_len, List.length_map]
                omega
              have HS := Lib.hid hs
              have hc : OutP w0 [.int .i64 x0, .int .i64 x1, .bool x2, .int .i64 x3, .int .i64 x4, .string x5, .string x6, .string x7, .slice ya yn yc, .slice za zn zc] [f4 j] := OutP.one rfl (fun m hm => match m, hm with
                  | 0, _ => ⟨_, rfl, by show Rd w0 0 _ (f4 j 0); rw [e0]; rfl, q4.2.2.2 j hlt 0 (by decide)⟩
                  | 1, _ => ⟨_, rfl, by show Rd w0 0 _ (f4 j 1); rw [e1]; rfl, q4.2.2.2 j hlt 1 (by decide)⟩
                  | 2, _ => ⟨_, rfl, by show Rd w0 0 _ (f4 j 2); rw [e2]; rfl, q4.2.2.2 j hlt 2 (by decide)⟩
                  | 3, _ => ⟨_, rfl, by show Rd w0 0 _ (f4 j 3); rw [e3]; rfl, q4.2.2.2 j hlt 3 (by decide)⟩
                  | 4, _ => ⟨_, rfl, by show Rd w0 0 _ (f4 j 4); rw [e4]; rfl, q4.2.2.2 j hlt 4 (by decide)⟩
                  | 5, _ => ⟨_, rfl, by show Rd w0 0 _ (f4 j 5); rw [e5]; rfl, q4.2.2.2 j hlt 5 (by decide)⟩
                  | 6, _ => ⟨_, rfl, by show Rd w0 0 _ (f4 j 6); rw [e6]; rfl, q4.2.2.2 j hlt 6 (by decide)⟩
                  | 7, _ => ⟨_, rfl, by show Rd w0 0 _ (f4 j 7); rw [e7]; rfl, q4.2.2.2 j hlt 7 (by decide)⟩
                  | 8, _ => ⟨_, rfl, by exact r8_, q4.2.2.2 j hlt 8 (by decide)⟩
                  | 9, _ => ⟨_, rfl, by exact r9_, q4.2.2.2 j hlt 9 (by decide)⟩
                  | m + 10, hm => absurd hm (by simp [exprTy]))
              have HC := Lib.hid hc
              have H1 := H.next ((Below.refl _ wr).alloc (Nat.le_refl _) (.cells #[.int .i64 x0, .int .i64 x1, .bool x2, .int .i64 x3, .int .i64 x4, .string x5, .string x6, .string x7, .slice ya yn yc, .slice za zn zc, .bool x10] 115))
              clear hs hc e0 e1 e2 e3 e4 e5 e6 e7 e10 r8_ r9_
              go_wp2_with (at_builtin; refine appE rfl (.tmp 46) (.tmp 49) rfl w0 (W.heap.size + 1) v ((((L1.map (cut 2)) ++ exFrom (.sl n2 3 f2)) ++ (Dat.sl n3 10 f3).els) ++ (Dat.sl j 11 f4).els) (f4 j) #[.int .i64 x0, .int .i64 x1, .bool x2, .int .i64 x3, .int .i64 x4, .string x5, .string x6, .string x7, .slice ya yn yc, .slice za zn zc] (wr.alloc (.cells #[.int .i64 x0, .int .i64 x1, .bool x2, .int .i64 x3, .int .i64 x4, .string x5, .string x6, .string x7, .slice ya yn yc, .slice za zn zc, .bool x10] 115)) (wr.heap.size + 1) (by simp) rfl rfl H1.own HC.out (by omega) H1.sz ?_; intro v' w' hown' hb')
              have H2 := H1.app hown' hb'
              rw [← HS.out] at H2
              go_roundw
              case rel => exact ⟨j + 1, _, by omega, by go_num, rfl, H2⟩
              case measure => simp [intOf]; omega
            · obtain rfl : n4 = j := by omega
              clear hlt hj
              go_wp2_with fail
              go_ret
              exact ⟨v, rfl, H.own, H.b⟩
def RowK (tys : List Ty) (T : TypeId) (w0 w : World) (g cap : Nat) (R : List Nd) : Prop :=
  ∃ cs, RowAt w g T cs ∧ cs.size = cap * tys.length ∧ R.length ≤ cap ∧ ∀ k c, R[k]? = some c → ∃ ys, OutK tys w0 ys [c] ∧ ∀ m u, ys[m]? = some u → cs[k * tys.length + m]? = some u
section
variable {tys : List Ty} {T : TypeId} {w0 w : World} {g cap : Nat} {R : List Nd}
theorem RowK.lt (h : RowK tys T w0 w g cap R) : g < w.heap.size := by obtain ⟨cs, h1, _⟩ := h; exact h1.lt
theorem RowK.later {w' : World} (h : RowK tys T w0 w g cap R) (hb : Below w.heap.size w w') : RowK tys T w0 w' g cap R := by
  obtain ⟨cs, h1, h2⟩ := h
  exact ⟨cs, h1.later hb, h2⟩
theorem RowK.at {k : Nat} {c : Nd} (h : RowK tys T w0 w g cap R) (hk : R[k]? = some c) : ∃ ys, OutK tys w0 ys [c] ∧ ∀ m u, ys[m]? = some u → w.cell? ⟨g, k * tys.length + m, none⟩ = some u := by
  obtain ⟨cs, h1, _, _, h2⟩ := h
  obtain ⟨ys, hy, hc⟩ := h2 k c hk
  exact ⟨ys, hy, fun m u hm => h1.cell (hc m u hm)⟩
theorem RowK.spot {k m : Nat} (h : RowK tys T w0 w g cap R) (hk : k < R.length) (hm : m < tys.length) : ∃ u, w.cell? ⟨g, k * tys.length + m, none⟩ = some u ∧ w.frozen? ⟨g, k * tys.length + m, none⟩ = false := by
  obtain ⟨cs, h1, h2, h3, _⟩ := h
  have hlt : k * tys.length + m < cs.size := by rw [h2]; exact mul_lt_of (by omega) hm
  exact ⟨cs[k * tys.length + m], h1.cell (Array.getElem?_eq_getElem hlt), h1.soft _⟩
theorem putsA_high : ∀ (ys : List Value) (o : Nat) (cs : Array Value) (x : Nat), o + ys.length ≤ x → (putsA o ys cs)[x]? = cs[x]?
  | [], _, _, _, _ => rfl
  | y :: ys, o, cs, x, h => by
    simp only [List.length_cons] at h
    unfold putsA; rw [putsA_high ys (o + 1) _ x (by omega), Array.getElem?_setIfInBounds_ne (by omega)]
theorem RowK.put {i : Nat} {c : Nd} {ys : List Value} (h : RowK tys T w0 w g cap R) (hi : i < R.length) (hy : OutK tys w0 ys [c]) : RowK tys T w0 (puts g (i * tys.length) ys w) g cap (R.set i c) := by
  obtain ⟨cs, h1, h2, h3, h4⟩ := h
  have hyl : ys.length = tys.length := by have := hy.1; simpa using this
  refine ⟨putsA (i * tys.length) ys cs, puts_row ys _ h1, by rw [putsA_size, h2], by rw [List.length_set]; exact h3, fun k c' hk => ?_⟩
  by_cases e : k = i
  · subst e
    have hc : c = c' := by rw [List.getElem?_set_self hi] at hk; exact Option.some.inj hk
    subst hc
    refine ⟨ys, hy, fun m u hm => ?_⟩
    have hml : m < ys.length := (List.getElem?_eq_some_iff.1 hm).1
    rw [putsA_in ys _ cs m hml (by rw [h2, hyl]; have := Nat.mul_le_mul_right tys.length (show k + 1 ≤ cap by omega); rw [Nat.add_mul, Nat.one_mul] at this; exact this)]
    exact hm
  · rw [List.getElem?_set_ne (Ne.symm e)] at hk
    obtain ⟨zs, hz, hc⟩ := h4 k c' hk
    refine ⟨zs, hz, fun m u hm => ?_⟩
    have hzl : zs.length = tys.length := by have := hz.1; simpa using this
    have hml : m < tys.length := by have := (List.getElem?_eq_some_iff.1 hm).1; omega
    rcases Nat.lt_or_gt_of_ne e with hlt | hgt
    · rw [putsA_low ys _ cs _ (Nat.lt_of_lt_of_le (by have := Nat.mul_le_mul_right tys.length (show k + 1 ≤ i by omega); rw [Nat.add_mul, Nat.one_mul] at this; omega) (Nat.le_refl (i * tys.length)))]; exact hc m u hm
    · rw [putsA_high ys _ cs _ (by rw [hyl]; have := Nat.mul_le_mul_right tys.length (show i + 1 ≤ k by omega); rw [Nat.add_mul, Nat.one_mul] at this; omega)]; exact hc m u hm
theorem RowK.lk {i cap' : Nat} (h : RowK tys T w0 w g cap R) (hi : i ≤ R.length) (hc : i ≤ cap') : LK tys w0 w (fun q => q = g) (.slice (some ⟨g, 0, none⟩) i cap') (R.take i) := by
  have hlt := h.lt
  obtain ⟨cs, h1, h2, h3, h4⟩ := h
  have hl : (R.take i).length = i := by rw [List.length_take]; omega
  have hle : i * tys.length ≤ cs.size := by rw [h2]; exact Nat.mul_le_mul_right _ (by omega)
  refine ⟨_, cap', cs.toList.take (i * tys.length), by rw [hl], ⟨by rw [List.length_take, hl]; have : cs.toList.length = cs.size := Array.length_toList; omega, fun k c hk j hj => ?_⟩, .inr ⟨g, 0, rfl, by rw [hl]; exact hc, rfl, hlt, fun j u hj => ?_⟩⟩
  · have hki : k < i := by have := (List.getElem?_eq_some_iff.1 hk).1; omega
    rw [List.getElem?_take_of_lt hki] at hk
    obtain ⟨ys, hy, hyc⟩ := h4 k c hk
    obtain ⟨y, hyj, hr⟩ := hy.cellOf j hj
    exact ⟨y, by rw [List.getElem?_take_of_lt (mul_lt_of hki hj)]; simpa using hyc j y hyj, hr⟩
  · have hj' : j < i * tys.length := Nat.lt_of_lt_of_le (List.getElem?_eq_some_iff.1 hj).1 (by rw [List.length_take]; exact Nat.min_le_left _ _)
    rw [List.getElem?_take_of_lt hj'] at hj
    rw [Nat.zero_add]
    exact h1.cell (by simpa using hj)
theorem RowK.cut {i : Nat} {cs' : Array Value} (h : RowK tys T w0 w g cap R) (hi : i ≤ R.length) (w' : World) (hr : RowAt w' g T cs') (hs : cs'.size = cap * tys.length) (hl : ∀ cs, RowAt w g T cs → ∀ x, x < i * tys.length → cs'[x]? = cs[x]?) : RowK tys T w0 w' g cap (R.take i) := by
  obtain ⟨cs, h1, h2, h3, h4⟩ := h
  refine ⟨cs', hr, hs, by rw [List.length_take]; omega, fun k c hk => ?_⟩
  have hki : k < i := by have := (List.getElem?_eq_some_iff.1 hk).1; rw [List.length_take] at this; omega
  rw [List.getElem?_take_of_lt hki] at hk
  obtain ⟨ys, hy, hyc⟩ := h4 k c hk
  refine ⟨ys, hy, fun m u hm => ?_⟩
  have hml : m < tys.length := by have := (List.getElem?_eq_some_iff.1 hm).1; have h5 := hy.1; simp at h5; omega
  rw [hl cs h1 _ (mul_lt_of hki hml)]
  exact hyc m u hm
end
def star (c : Nd) : Bool := (c 0).tru
set_option maxHeartbeats 1000000 in
theorem isStar_any (c0 : Bool) (c1 : ByteArray) (c2 : Int) (c3 : Int) (c4 : Bool) (c5 : Int) (c6 : Int) (c7 : ByteArray) (c8 : ByteArray) (c9 : ByteArray) (a10 : Option Addr) (n10 p10 : Nat) (a11 : Option Addr) (n11 p11 : Nat) (c12 : ByteArray) (W : World) : Calls Tryz.prog 103 #[.agg #[.bool c0, .string c1, .int .i64 c2, .int .i64 c3, .bool c4, .int .i64 c5, .int .i64 c6, .string c7, .string c8, .string c9, .slice a10 n10 p10, .slice a11 n11 p11, .string c12]] W fun e w' => e = .returned (.bool c0) ∧ Below W.heap.size W w' := by
  go_enter Tryz.func103, Tryz.ntmps103
  go_wp2_with fail
  go_ret
  exact ⟨rfl, (Below.refl _ _).alloc (Nat.le_refl _) _⟩
set_option maxRecDepth 100000 in
set_option maxHeartbeats 4000000 in
theorem indexFunc_any (w0 W : World) (a : Option Addr) (cap : Nat) (L : List Nd) (h : LK (rowTy .items) w0 W (fun _ => True) (.slice a L.length cap) L) (hN : L.length ≤ 1048576) :
    Calls Tryz.prog 125 #[.slice a L.length cap, .func (.func 103) #[] #[]] W fun e w' => Below W.heap.size W w' ∧
      ((∃ i : Nat, i < L.length ∧ e = .returned (.int .i64 (i : Int)) ∧ (∀ k c, k < i → L[k]? = some c → star c = false) ∧ ∃ c, L[i]? = some c ∧ star c = true) ∨ (e = .returned (.int .i64 (-1)) ∧ ∀ c ∈ L, star c = false)) := by
  have hB0 := Below.refl W.heap.size W
  go_enter Tryz.func125, Tryz.ntmps125
  go_wp2_with fail
  go_loopw [8] (fun i wr => ∃ j : Nat, j ≤ L.length ∧ i = .int .i64 (j : Int) ∧ Below W.heap.size W wr ∧ ∀ k c, k < j → L[k]? = some c → star c = false) (fun i _ => L.length - (intOf i).toNat)
  case atStart => exact ⟨0, by omega, rfl, hB0, fun k c hk => by omega⟩
  case round =>
    obtain ⟨j, hj, rfl, hB, hno⟩ := hrel
    by_cases hlt : j < L.length
    · have hlt2 : (j : Int) < (L.length : Int) := by omega
      have hLj := List.getElem?_eq_getElem hlt
      obtain ⟨g, o, cap', ys, hv, hys, -, hg, hcell⟩ := h.at hLj
      injection hv with e1 _ e3
      subst e1; subst e3
      obtain ⟨x0, x1, x2, x3, x4, x5, x6, x7, x8, x9, ax10, nx10, px10, ax11, nx11, px11, x12, rfl, e0, -⟩ := hys.itemRow
      have z0 : wr.cell? ⟨g, o + j * 13, none⟩ = some (.bool x0) := (hB.cell (p := ⟨g, o + j * 13, none⟩) hg).trans (hcell 0 _ rfl)
      have z1 : wr.cell? ⟨g, o + j * 13 + 1, none⟩ = some (.string x1) := (hB.cell (p := ⟨g, o + j * 13 + 1, none⟩) hg).trans (hcell 1 _ rfl)
      have z2 : wr.cell? ⟨g, o + j * 13 + 2, none⟩ = some (.int .i64 x2) := (hB.cell (p := ⟨g, o + j * 13 + 2, none⟩) hg).trans (hcell 2 _ rfl)
      have z3 : wr.cell? ⟨g, o + j * 13 + 3, none⟩ = some (.int .i64 x3) := (hB.cell (p := ⟨g, o + j * 13 + 3, none⟩) hg).trans (hcell 3 _ rfl)
      have z4 : wr.cell? ⟨g, o + j * 13 + 4, none⟩ = some (.bool x4) := (hB.cell (p := ⟨g, o + j * 13 + 4, none⟩) hg).trans (hcell 4 _ rfl)
      have z5 : wr.cell? ⟨g, o + j * 13 + 5, none⟩ = some (.int .i64 x5) := (hB.cell (p := ⟨g, o + j * 13 + 5, none⟩) hg).trans (hcell 5 _ rfl)
      have z6 : wr.cell? ⟨g, o + j * 13 + 6, none⟩ = some (.int .i64 x6) := (hB.cell (p := ⟨g, o + j * 13 + 6, none⟩) hg).trans (hcell 6 _ rfl)
      have z7 : wr.cell? ⟨g, o + j * 13 + 7, none⟩ = some (.string x7) := (hB.cell (p := ⟨g, o + j * 13 + 7, none⟩) hg).trans (hcell 7 _ rfl)
      have z8 : wr.cell? ⟨g, o + j * 13 + 8, none⟩ = some (.string x8) := (hB.cell (p := ⟨g, o + j * 13 + 8, none⟩) hg).trans (hcell 8 _ rfl)
      have z9 : wr.cell? ⟨g, o + j * 13 + 9, none⟩ = some (.string x9) := (hB.cell (p := ⟨g, o + j * 13 + 9, none⟩) hg).trans (hcell 9 _ rfl)
      have z10 : wr.cell? ⟨g, o + j * 13 + 10, none⟩ = some (.slice ax10 nx10 px10) := (hB.cell (p := ⟨g, o + j * 13 + 10, none⟩) hg).trans (hcell 10 _ rfl)
      have z11 : wr.cell? ⟨g, o + j * 13 + 11, none⟩ = some (.slice ax11 nx11 px11) := (hB.cell (p := ⟨g, o + j * 13 + 11, none⟩) hg).trans (hcell 11 _ rfl)
      have z12 : wr.cell? ⟨g, o + j * 13 + 12, none⟩ = some (.string x12) := (hB.cell (p := ⟨g, o + j * 13 + 12, none⟩) hg).trans (hcell 12 _ rfl)
      clear hcell
      have hst : star L[j] = x0 := by unfold star; rw [e0]; rfl
      clear e0
      cases x0
      case true =>
        have HS := Lib.hid (And.intro hst (And.intro hno hLj))
        clear hst hno hLj
        go_wp2_with fail
        refine (isStar_any true x1 x2 x3 x4 x5 x6 x7 x8 x9 ax10 nx10 px10 ax11 nx11 px11 x12 wr).mono ?_
        rintro e w2 ⟨rfl, hb2⟩
        have hB2 := hB.trans (hb2.mono hB.size)
        clear hb2 z0 z1 z2 z3 z4 z5 z6 z7 z8 z9 z10 z11 z12
        go_wp2_with fail
        go_ret
        exact ⟨hB2, .inl ⟨j, hlt, rfl, HS.out.2.1, _, HS.out.2.2, HS.out.1⟩⟩
      case false =>
        have HS := Lib.hid (And.intro hst (And.intro hno hLj))
        clear hst hno hLj
        go_wp2_with fail
        refine (isStar_any false x1 x2 x3 x4 x5 x6 x7 x8 x9 ax10 nx10 px10 ax11 nx11 px11 x12 wr).mono ?_
        rintro e w2 ⟨rfl, hb2⟩
        have hB2 := hB.trans (hb2.mono hB.size)
        clear hb2 z0 z1 z2 z3 z4 z5 z6 z7 z8 z9 z10 z11 z12
        go_wp2_with fail
        go_roundw
        case rel =>
          refine ⟨j + 1, by omega, by go_num, hB2, fun k c hk hc => ?_⟩
          by_cases e : k = j
          · subst e
            have h1 := HS.out.2.2
            rw [hc] at h1
            rw [Option.some.inj h1]; exact HS.out.1
          · exact HS.out.2.1 k c (by omega) hc
        case measure => simp [intOf]; omega
    · obtain rfl : j = L.length := by omega
      have HN := Lib.hid hno
      clear hno hlt hj
      go_wp2_with fail
      go_ret
      refine ⟨hB, .inr ⟨rfl, fun c hc => ?_⟩⟩
      obtain ⟨k, hk⟩ := List.getElem?_of_mem hc
      exact HN.out k c (List.getElem?_eq_some_iff.1 hk).1 hk
theorem run_clear_items (w : World) (g o n c : Nat) (cur : Array Value) (ty : TypeId) (hg : RowAt w g 111 cur) (hn : 0 < n) (hfit : o + n * 13 ≤ cur.size) :
    ∃ cs', (Builtin.clear_ #[34] ty #[.slice (some ⟨g, o, none⟩) n c]).run Tryz.prog w = .ok (.tuple #[]) (w.setRow g cs') ∧ cs'.size = cur.size ∧ ∀ x, x < o → cs'[x]? = cur[x]? := by
  obtain ⟨m, rfl⟩ : ∃ m, n = m + 1 := ⟨n - 1, by omega⟩
  have hz : ∀ v ∈ (Builtin.zeroCells #[.bool false, .string ⟨#[]⟩, .int .i64 0, .int .i64 0, .bool false, .int .i64 0, .int .i64 0, .string ⟨#[]⟩, .string ⟨#[]⟩, .string ⟨#[]⟩, .slice none 0 0, .slice none 0 0, .string ⟨#[]⟩] (m + 1)).toList, v.oneCell' = true := by
    intro v hv
    simp only [Builtin.zeroCells, Array.toList_map, List.mem_map] at hv
    obtain ⟨i, _, rfl⟩ := hv
    have hi : i % 13 < 13 := Nat.mod_lt _ (by decide)
    show (#[Value.bool false, .string ⟨#[]⟩, .int .i64 0, .int .i64 0, .bool false, .int .i64 0, .int .i64 0, .string ⟨#[]⟩, .string ⟨#[]⟩, .string ⟨#[]⟩, .slice none 0 0, .slice none 0 0, .string ⟨#[]⟩])[i % 13]!.oneCell' = true
    generalize i % 13 = k at hi
    match k, hi with
    | 0, _ | 1, _ | 2, _ | 3, _ | 4, _ | 5, _ | 6, _ | 7, _ | 8, _ | 9, _ | 10, _ | 11, _ | 12, _ => rfl
    | k + 13, h => exact absurd h (by omega)
  have hlen : (Builtin.zeroCells #[.bool false, .string ⟨#[]⟩, .int .i64 0, .int .i64 0, .bool false, .int .i64 0, .int .i64 0, .string ⟨#[]⟩, .string ⟨#[]⟩, .string ⟨#[]⟩, .slice none 0 0, .slice none 0 0, .string ⟨#[]⟩] (m + 1)).toList.length = (m + 1) * 13 := by
    rw [Array.length_toList, size_zeroCells]; rfl
  have hv : ∀ w, (zeroValue 111).run Tryz.prog w = .ok (.agg #[.bool false, .string ⟨#[]⟩, .int .i64 0, .int .i64 0, .bool false, .int .i64 0, .int .i64 0, .string ⟨#[]⟩, .string ⟨#[]⟩, .string ⟨#[]⟩, .slice none 0 0, .slice none 0 0, .string ⟨#[]⟩]) w := fun w => Tryz.zeroValue111 w
  generalize hZ : (Builtin.zeroCells #[.bool false, .string ⟨#[]⟩, .int .i64 0, .int .i64 0, .bool false, .int .i64 0, .int .i64 0, .string ⟨#[]⟩, .string ⟨#[]⟩, .string ⟨#[]⟩, .slice none 0 0, .slice none 0 0, .string ⟨#[]⟩] (m + 1)).toList = Z at hz hlen
  have hst := run_storeCells_at (P := Tryz.prog) g o 111 Z 0 cur w hg (by rw [hlen]; omega) hz
  refine ⟨(cur.toList.take o ++ Z ++ cur.toList.drop (o + Z.length)).toArray, ?_, ?_, ?_⟩
  · have hv2 := hv w
    simp only [Nat.add_zero] at hst
    simp [Builtin.clear_, run_underlying Tryz.underlying34, hv2, Value.cells, hZ, hst]
  · simp only [List.size_toArray, List.length_append, List.length_take, List.length_drop, hlen]
    have : cur.toList.length = cur.size := Array.length_toList
    omega
  · intro x hx
    have : cur.toList.length = cur.size := Array.length_toList
    rw [List.getElem?_toArray, List.append_assoc, List.getElem?_append_left (by rw [List.length_take]; omega), List.getElem?_take_of_lt hx]
    simp
theorem filter_snoc {L : List Nd} {j : Nat} {c : Nd} (h : L[j]? = some c) (p : Nd → Bool) : (L.take (j + 1)).filter p = (L.take j).filter p ++ (if p c then [c] else []) := by
  rw [take_next h, List.filter_append]
  congr 1
  simp only [List.filter_cons, List.filter_nil]
set_option maxRecDepth 100000 in
set_option maxHeartbeats 8000000 in
theorem deleteFunc_any (w0 W : World) (g cap B : Nat) (L : List Nd) (h : RowK (rowTy .items) 111 w0 W g cap L) (hB : B ≤ g) (hN : L.length ≤ 1048576) :
    Calls Tryz.prog 101 #[.slice (some ⟨g, 0, none⟩) L.length cap, .func (.func 103) #[] #[]] W fun e w' => ∃ v, e = .returned v ∧ LK (rowTy .items) w0 w' (fun q => q = g) v (L.filter fun c => !star c) ∧ Below B W w' := by
  have hcap : L.length ≤ cap := by obtain ⟨cs, _, _, h3, _⟩ := h; exact h3
  have hBW : B ≤ W.heap.size := Nat.le_of_lt (Nat.lt_of_le_of_lt hB h.lt)
  have hlk := h.lk (Nat.le_refl _) hcap
  rw [List.take_length] at hlk
  have hIF := indexFunc_any w0 W _ cap L (hlk.keep (Nat.le_refl _) (fun _ _ _ => rfl) fun _ _ _ => trivial) hN
  go_enter Tryz.func101, Tryz.ntmps101
  go_wp2_with fail
  refine hIF.mono ?_
  clear hIF
  rintro e w1 ⟨hb1, ⟨i0, hi0, rfl, hbef, c0, hc0, hs0⟩ | ⟨rfl, hall⟩⟩
  · have hR := h.later hb1
    have hb := hb1.mono hBW
    clear h hlk hb1
    have hne : ((i0 : Int) == -1) = false := by simp
    have h0 : (L.take (i0 + 1)).filter (fun c => !star c) = L.take i0 := by
      rw [filter_snoc hc0, hs0]
      have : (L.take i0).filter (fun c => !star c) = L.take i0 := List.filter_eq_self.2 fun c hc => by
        obtain ⟨k, hk⟩ := List.getElem?_of_mem hc
        have hki : k < i0 := by have := (List.getElem?_eq_some_iff.1 hk).1; rw [List.length_take] at this; omega
        rw [List.getElem?_take_of_lt hki] at hk
        rw [hbef k c hki hk]; rfl
      rw [this]; simp
    have H0 := Lib.hid h0
    clear h0 hbef hc0 hs0
    go_wp2_with fail
    go_loopw [5, 6] (fun a b wr => ∃ (i j : Nat) (R : List Nd), a = .int .i64 (i : Int) ∧ b = .int .i64 (j : Int) ∧ i < j ∧ j ≤ L.length ∧ R.length = L.length ∧ Hid (R.take i = (L.take j).filter fun c => !star c) ∧ Hid (R.drop j = L.drop j) ∧ RowK (rowTy .items) 111 w0 wr g cap R ∧ Below B W wr) (fun _ b _ => L.length - (intOf b).toNat)
    case atStart => exact ⟨i0, i0 + 1, L, rfl, by go_num, by omega, by omega, rfl, H0.out.symm, rfl, hR, hb⟩
    case round =>
      obtain ⟨i, j, R, rfl, rfl, hij, hj, hRl, hT, hD, hR, hb⟩ := hrel
      by_cases hlt : j < L.length
      · have hlt2 : (j : Int) < (L.length : Int) := by omega
        have hLj := List.getElem?_eq_getElem hlt
        have hRj : R[j]? = some L[j] := by
          have h1 : (R.drop j)[0]? = (L.drop j)[0]? := by rw [hD.out]
          rw [List.getElem?_drop, List.getElem?_drop, Nat.add_zero, hLj] at h1
          exact h1
        obtain ⟨ys, hys, hcell⟩ := hR.at hRj
        have hys2 := hys
        obtain ⟨x0, x1, x2, x3, x4, x5, x6, x7, x8, x9, ax10, nx10, px10, ax11, nx11, px11, x12, rfl, e0, -⟩ := hys.itemRow
        have z0 : wr.cell? ⟨g, j * 13, none⟩ = some (.bool x0) := hcell 0 _ rfl
        have z1 : wr.cell? ⟨g, j * 13 + 1, none⟩ = some (.string x1) := hcell 1 _ rfl
        have z2 : wr.cell? ⟨g, j * 13 + 2, none⟩ = some (.int .i64 x2) := hcell 2 _ rfl
        have z3 : wr.cell? ⟨g, j * 13 + 3, none⟩ = some (.int .i64 x3) := hcell 3 _ rfl
        have z4 : wr.cell? ⟨g, j * 13 + 4, none⟩ = some (.bool x4) := hcell 4 _ rfl
        have z5 : wr.cell? ⟨g, j * 13 + 5, none⟩ = some (.int .i64 x5) := hcell 5 _ rfl
        have z6 : wr.cell? ⟨g, j * 13 + 6, none⟩ = some (.int .i64 x6) := hcell 6 _ rfl
        have z7 : wr.cell? ⟨g, j * 13 + 7, none⟩ = some (.string x7) := hcell 7 _ rfl
        have z8 : wr.cell? ⟨g, j * 13 + 8, none⟩ = some (.string x8) := hcell 8 _ rfl
        have z9 : wr.cell? ⟨g, j * 13 + 9, none⟩ = some (.string x9) := hcell 9 _ rfl
        have z10 : wr.cell? ⟨g, j * 13 + 10, none⟩ = some (.slice ax10 nx10 px10) := hcell 10 _ rfl
        have z11 : wr.cell? ⟨g, j * 13 + 11, none⟩ = some (.slice ax11 nx11 px11) := hcell 11 _ rfl
        have z12 : wr.cell? ⟨g, j * 13 + 12, none⟩ = some (.string x12) := hcell 12 _ rfl
        clear hcell
        have hst : star L[j] = x0 := by unfold star; rw [e0]; rfl
        have hdn : Hid (∀ R' : List Nd, R'.drop (j + 1) = R.drop (j + 1) → R'.drop (j + 1) = L.drop (j + 1)) := fun R' h1 => by
          rw [h1, ← List.drop_drop, ← List.drop_drop, hD.out]
        have HS := Lib.hid hst
        have HLj := Lib.hid hLj
        clear e0 hst hRj hLj hys
        have bx0 := RowAt.new wr 111 #[.bool x0, .string x1, .int .i64 x2, .int .i64 x3, .bool x4, .int .i64 x5, .int .i64 x6, .string x7, .string x8, .string x9, .slice ax10 nx10 px10, .slice ax11 nx11 px11, .string x12]
        have hal : Below wr.heap.size wr (wr.alloc (.cells #[.bool x0, .string x1, .int .i64 x2, .int .i64 x3, .bool x4, .int .i64 x5, .int .i64 x6, .string x7, .string x8, .string x9, .slice ax10 nx10 px10, .slice ax11 nx11 px11, .string x12] 111)) := (Below.refl _ _).alloc (Nat.le_refl _) _
        cases x0
        case true =>
          go_wp2_with fail
          refine (isStar_any true x1 x2 x3 x4 x5 x6 x7 x8 x9 ax10 nx10 px10 ax11 nx11 px11 x12 (wr.alloc (.cells #[.bool true, .string x1, .int .i64 x2, .int .i64 x3, .bool x4, .int .i64 x5, .int .i64 x6, .string x7, .string x8, .string x9, .slice ax10 nx10 px10, .slice ax11 nx11 px11, .string x12] 111))).mono ?_
          rintro e w2 ⟨rfl, hb2⟩
          have hR1 := (hR.later hal).later hb2
          have hB1 : Below B W w2 := (hb.trans (hal.mono (by have := hR.lt; omega))).trans (hb2.mono (by have := hR.lt; simp; omega))
          clear hal hb2 bx0 hR hb z0 z1 z2 z3 z4 z5 z6 z7 z8 z9 z10 z11 z12
          go_wp2_with fail
          go_roundw
          case rel =>
            refine ⟨i, j + 1, R, rfl, by go_num, by omega, by omega, hRl, ?_, hdn R rfl, hR1, hB1⟩
            show R.take i = _
            rw [filter_snoc HLj.out, HS.out, hT.out]; simp
          case measure => simp [intOf]; omega
        case false =>
          go_wp2_with fail
          refine (isStar_any false x1 x2 x3 x4 x5 x6 x7 x8 x9 ax10 nx10 px10 ax11 nx11 px11 x12 (wr.alloc (.cells #[.bool false, .string x1, .int .i64 x2, .int .i64 x3, .bool x4, .int .i64 x5, .int .i64 x6, .string x7, .string x8, .string x9, .slice ax10 nx10 px10, .slice ax11 nx11 px11, .string x12] 111))).mono ?_
          rintro e w1 ⟨rfl, hb2⟩
          have hR1 := (hR.later hal).later hb2
          have hg := hR.lt
          have hB1 : Below B W w1 := (hb.trans (hal.mono (by omega))).trans (hb2.mono (by simp; omega))
          have box := bx0.later hb2
          have hi : i < R.length := by omega
          have y0 := box.cell (i := 0) (v := .bool false) rfl
          have y1 := box.cell (i := 1) (v := .string x1) rfl
          have y2 := box.cell (i := 2) (v := .int .i64 x2) rfl
          have y3 := box.cell (i := 3) (v := .int .i64 x3) rfl
          have y4 := box.cell (i := 4) (v := .bool x4) rfl
          have y5 := box.cell (i := 5) (v := .int .i64 x5) rfl
          have y6 := box.cell (i := 6) (v := .int .i64 x6) rfl
          have y7 := box.cell (i := 7) (v := .string x7) rfl
          have y8 := box.cell (i := 8) (v := .string x8) rfl
          have y9 := box.cell (i := 9) (v := .string x9) rfl
          have y10 := box.cell (i := 10) (v := .slice ax10 nx10 px10) rfl
          have y11 := box.cell (i := 11) (v := .slice ax11 nx11 px11) rfl
          have y12 := box.cell (i := 12) (v := .string x12) rfl
          obtain ⟨u0, p0, v0⟩ : ∃ u, w1.cell? ⟨g, i * 13, none⟩ = some u ∧ w1.frozen? ⟨g, i * 13, none⟩ = false := hR1.spot hi (m := 0) (by decide)
          obtain ⟨u1, p1, v1⟩ : ∃ u, w1.cell? ⟨g, i * 13 + 1, none⟩ = some u ∧ w1.frozen? ⟨g, i * 13 + 1, none⟩ = false := hR1.spot hi (m := 1) (by decide)
          obtain ⟨u2, p2, v2⟩ : ∃ u, w1.cell? ⟨g, i * 13 + 2, none⟩ = some u ∧ w1.frozen? ⟨g, i * 13 + 2, none⟩ = false := hR1.spot hi (m := 2) (by decide)
          obtain ⟨u3, p3, v3⟩ : ∃ u, w1.cell? ⟨g, i * 13 + 3, none⟩ = some u ∧ w1.frozen? ⟨g, i * 13 + 3, none⟩ = false := hR1.spot hi (m := 3) (by decide)
          obtain ⟨u4, p4, v4⟩ : ∃ u, w1.cell? ⟨g, i * 13 + 4, none⟩ = some u ∧ w1.frozen? ⟨g, i * 13 + 4, none⟩ = false := hR1.spot hi (m := 4) (by decide)
          obtain ⟨u5, p5, v5⟩ : ∃ u, w1.cell? ⟨g, i * 13 + 5, none⟩ = some u ∧ w1.frozen? ⟨g, i * 13 + 5, none⟩ = false := hR1.spot hi (m := 5) (by decide)
          obtain ⟨u6, p6, v6⟩ : ∃ u, w1.cell? ⟨g, i * 13 + 6, none⟩ = some u ∧ w1.frozen? ⟨g, i * 13 + 6, none⟩ = false := hR1.spot hi (m := 6) (by decide)
          obtain ⟨u7, p7, v7⟩ : ∃ u, w1.cell? ⟨g, i * 13 + 7, none⟩ = some u ∧ w1.frozen? ⟨g, i * 13 + 7, none⟩ = false := hR1.spot hi (m := 7) (by decide)
          obtain ⟨u8, p8, v8⟩ : ∃ u, w1.cell? ⟨g, i * 13 + 8, none⟩ = some u ∧ w1.frozen? ⟨g, i * 13 + 8, none⟩ = false := hR1.spot hi (m := 8) (by decide)
          obtain ⟨u9, p9, v9⟩ : ∃ u, w1.cell? ⟨g, i * 13 + 9, none⟩ = some u ∧ w1.frozen? ⟨g, i * 13 + 9, none⟩ = false := hR1.spot hi (m := 9) (by decide)
          obtain ⟨u10, p10, v10⟩ : ∃ u, w1.cell? ⟨g, i * 13 + 10, none⟩ = some u ∧ w1.frozen? ⟨g, i * 13 + 10, none⟩ = false := hR1.spot hi (m := 10) (by decide)
          obtain ⟨u11, p11, v11⟩ : ∃ u, w1.cell? ⟨g, i * 13 + 11, none⟩ = some u ∧ w1.frozen? ⟨g, i * 13 + 11, none⟩ = false := hR1.spot hi (m := 11) (by decide)
          obtain ⟨u12, p12, v12⟩ : ∃ u, w1.cell? ⟨g, i * 13 + 12, none⟩ = some u ∧ w1.frozen? ⟨g, i * 13 + 12, none⟩ = false := hR1.spot hi (m := 12) (by decide)
          have hR2 := hR1.put hi hys2
          have hB2 := puts_below (B := g) hB [.bool false, .string x1, .int .i64 x2, .int .i64 x3, .bool x4, .int .i64 x5, .int .i64 x6, .string x7, .string x8, .string x9, .slice ax10 nx10 px10, .slice ax11 nx11 px11, .string x12] (i * 13) hB1
          clear hal hb2 bx0 box hR hb hR1 hB1 z0 z1 z2 z3 z4 z5 z6 z7 z8 z9 z10 z11 z12
          go_wp2_with fail
          rw [show (((((((((((((w1.setCell ⟨g, i * 13, none⟩ (.bool false)).setCell ⟨g, i * 13 + 1, none⟩ (.string x1)).setCell ⟨g, i * 13 + 2, none⟩ (.int .i64 x2)).setCell ⟨g, i * 13 + 3, none⟩ (.int .i64 x3)).setCell ⟨g, i * 13 + 4, none⟩ (.bool x4)).setCell ⟨g, i * 13 + 5, none⟩ (.int .i64 x5)).setCell ⟨g, i * 13 + 6, none⟩ (.int .i64 x6)).setCell ⟨g, i * 13 + 7, none⟩ (.string x7)).setCell ⟨g, i * 13 + 8, none⟩ (.string x8)).setCell ⟨g, i * 13 + 9, none⟩ (.string x9)).setCell ⟨g, i * 13 + 10, none⟩ (.slice ax10 nx10 px10)).setCell ⟨g, i * 13 + 11, none⟩ (.slice ax11 nx11 px11)).setCell ⟨g, i * 13 + 12, none⟩ (.string x12)) = puts g (i * 13) [.bool false, .string x1, .int .i64 x2, .int .i64 x3, .bool x4, .int .i64 x5, .int .i64 x6, .string x7, .string x8, .string x9, .slice ax10 nx10 px10, .slice ax11 nx11 px11, .string x12] w1 from rfl]
          replace hR2 : RowK (rowTy .items) 111 w0 (puts g (i * 13) [.bool false, .string x1, .int .i64 x2, .int .i64 x3, .bool x4, .int .i64 x5, .int .i64 x6, .string x7, .string x8, .string x9, .slice ax10 nx10 px10, .slice ax11 nx11 px11, .string x12] w1) g cap (R.set i L[j]) := hR2
          generalize puts g (i * 13) [.bool false, .string x1, .int .i64 x2, .int .i64 x3, .bool x4, .int .i64 x5, .int .i64 x6, .string x7, .string x8, .string x9, .slice ax10 nx10 px10, .slice ax11 nx11 px11, .string x12] w1 = w3 at hR2 hB2 ⊢
          go_roundw
          case rel =>
            refine ⟨i + 1, j + 1, R.set i L[j], by go_num, by go_num, by omega, by omega, by rw [List.length_set]; exact hRl, ?_, hdn _ (by rw [List.drop_set_of_lt (by omega)]), hR2, hB2⟩
            show (R.set i L[j]).take (i + 1) = _
            rw [filter_snoc HLj.out, HS.out, take_next (List.getElem?_set_self hi), List.take_set_of_le (Nat.le_refl _), hT.out]; simp
          case measure => simp [intOf]; omega
      · obtain rfl : j = L.length := by omega
        clear hlt hj
        have hni : 0 < L.length - i := by omega
        obtain ⟨cs, c1, c2, c3, c4⟩ := hR
        have hRc : RowK (rowTy .items) 111 w0 wr g cap R := ⟨cs, c1, c2, c3, c4⟩
        have hfit : i * 13 + (L.length - i) * 13 ≤ cs.size := by
          rw [c2]; show _ ≤ cap * 13
          omega
        have hcl := fun ty => run_clear_items wr g (i * 13) (L.length - i) (cap - i) cs ty c1 hni hfit
        obtain ⟨cs', k1, k2, k3⟩ := hcl 0
        have hrow : RowAt (wr.setRow g cs') g 111 cs' := setRow_heap wr g cs cs' _ _ c1
        have hB3 : Below B W (wr.setRow g cs') := hb.trans ⟨rfl, rfl, rfl, by simp, fun k hk => setRow_other wr g k _ (by omega)⟩
        have hcut := hRc.cut (i := i) (by omega) _ hrow (k2.trans c2) (fun cs2 h2 x hx => by
          have e : cs2 = cs := by have h3 := h2.symm.trans c1; injection h3 with h3; injection h3
          rw [e]; exact k3 x hx)
        rw [hT.out, List.take_length] at hcut
        have hfl : (L.filter fun c => !star c).length = i := by
          have := congrArg List.length hT.out
          rw [List.length_take, List.take_length] at this
          omega
        have hlk2 := hcut.lk (Nat.le_refl _) (show _ ≤ cap by omega)
        rw [List.take_length, hfl] at hlk2
        clear hcl c4 hRc hcut hT hD
        go_wp2_with fail
        go_ret
        exact ⟨_, rfl, hlk2, hB3⟩
  · have he : (L.filter fun c => !star c) = L := List.filter_eq_self.2 fun c hc => by rw [hall c hc]; rfl
    have HL := Lib.hid he
    clear he hall
    go_wp2_with fail
    go_ret
    refine ⟨_, rfl, ?_, hb1.mono hBW⟩
    rw [HL.out]
    exact hlk.later hb1
theorem RowK.of_owns {tys : List Ty} {T : TypeId} {w0 w : World} {B n : Nat} {v : Value} {C : List Value} {L : List Nd} (h : w.ownsRow B T tys.length v n C) (hC : OutK tys w0 C L) (hn : L.length = n) :
    (v = .slice none 0 0 ∧ L = []) ∨ ∃ g cap, v = .slice (some ⟨g, 0, none⟩) n cap ∧ B ≤ g ∧ RowK tys T w0 w g cap L := by
  rcases h.2 with ⟨e, h0⟩ | ⟨g, cap, cur, e, hg, hrow, hnc, hcm, hsz, hcur⟩
  · exact .inl ⟨e, List.eq_nil_of_length_eq_zero (by omega)⟩
  · refine .inr ⟨g, cap, e, hg, cur, hrow, hsz, by omega, fun k c hk => ?_⟩
    have hkl : k < L.length := (List.getElem?_eq_some_iff.1 hk).1
    have hlen : k * tys.length + tys.length ≤ C.length := by
      rw [hC.1]
      have := Nat.mul_le_mul_right tys.length (show k + 1 ≤ L.length by omega)
      rw [Nat.add_mul, Nat.one_mul] at this
      exact this
    refine ⟨(C.drop (k * tys.length)).take tys.length, OutK.one (by rw [List.length_take, List.length_drop]; omega) fun m hm => ?_, fun m u hm => ?_⟩
    · obtain ⟨y, hy, hr⟩ := hC.2 k c hk m hm
      exact ⟨y, by rw [List.getElem?_take_of_lt hm, List.getElem?_drop]; exact hy, hr⟩
    · have hml : m < tys.length := by have := (List.getElem?_eq_some_iff.1 hm).1; rw [List.length_take] at this; omega
      rw [List.getElem?_take_of_lt hml, List.getElem?_drop, ← hcur, List.getElem?_take_of_lt (by rw [← hn]; exact mul_lt_of hkl hml)] at hm
      simpa using hm
theorem Tryz.infoItm : (Tryz.prog.info? 111).map (fun i => (i.zero, i.size, i.bytes)) = some (some (.agg #[.bool false, .string ByteArray.empty, .int .i64 0, .int .i64 0, .bool false, .int .i64 0, .int .i64 0, .string ByteArray.empty, .string ByteArray.empty, .string ByteArray.empty, .slice none 0 0, .slice none 0 0, .string ByteArray.empty]), 13, 176) := by kernel_rfl
set_option maxRecDepth 100000 in
set_option maxHeartbeats 4000000 in
theorem clone_any (w0 W : World) (a : Option Addr) (cap : Nat) (L : List Nd) (G : Nat → Prop) (h : LK (rowTy .items) w0 W G (.slice a L.length cap) L) (hN : L.length ≤ 1048576) :
    Calls Tryz.prog 102 #[.slice a L.length cap] W fun e w' => ∃ v, e = .returned v ∧ Below W.heap.size W w' ∧ ((v = .slice none 0 0 ∧ L = []) ∨ ∃ g cap', v = .slice (some ⟨g, 0, none⟩) L.length cap' ∧ W.heap.size ≤ g ∧ RowK (rowTy .items) 111 w0 w' g cap' L) := by
  obtain ⟨a', cap', C, e, hC, h⟩ := h
  injection e with e1 _ e3
  subst e1; subst e3
  cases a with
  | none =>
    have hL : L = [] := by
      rcases h with h | ⟨_, _, h, _⟩
      · exact h
      · cases h
    subst hL
    have hnil := Lib.run_eql_slice_nil (P := Tryz.prog) W 34 111 none 0 cap 0 0 Tryz.underlying34
    simp only [List.length_nil]
    go_enter Tryz.func102, Tryz.ntmps102
    go_wp2_with fail
    go_ret
    exact ⟨_, rfl, Below.refl _ _, .inl (by simp)⟩
  | some ad =>
    obtain ⟨i, hi, hz, hsize, hby⟩ := info_parts Tryz.infoItm
    have hcl : C.length = L.length * 13 := hC.1
    have hcell : ∀ j u, C[j]? = some u → (W.alloc (.cells #[] 111)).cell? (ad.add j) = some u := by
      intro j u hj
      rcases h with rfl | ⟨g, o, e, _, _, hlt, hc⟩
      · rw [List.length_nil, Nat.zero_mul] at hcl
        have := (List.getElem?_eq_some_iff.1 hj).1
        omega
      · injection e with e
        subst e
        have hadd : (⟨g, o, none⟩ : Addr).add j = ⟨g, o + j, none⟩ := by unfold Addr.add; split <;> simp_all
        rw [hadd]
        have h1 := hc j u hj
        exact (((Below.refl _ W).alloc (Nat.le_refl _) _).cell (p := ⟨g, o + j, none⟩) hlt).trans h1
    have hown := World.ownsRow_lit W (e := 111) (size := 13) #[] 0 (Nat.le_refl _) (by decide) (by rfl)
    have hones := hC.ones
    have hout := Lib.hid hC
    have HH := Lib.hid hcell
    have HO := Lib.hid hones
    have hcl2 := Lib.hid hcl
    have hnil := Lib.run_eql_slice_nil (P := Tryz.prog) W 34 111 (some ad) L.length cap 0 0 Tryz.underlying34
    clear hC h hcell hones hcl
    go_enter Tryz.func102, Tryz.ntmps102
    go_wp2_with (at_builtin; refine wpList_append_own _ rfl (.tmp 5) (.tmp 6) 34 rfl W.heap.size 111 i _ 13 176 Tryz.underlying34 hi hz hsize hby rfl (by decide) (.slice (some ⟨W.heap.size, 0, none⟩) 0 0) 0 [] rfl hown ad L.length cap C rfl hcl2.out HH.out HO.out (by unfold maxLen; omega) (by omega) (by simp) ?_; intro v' w' hown' hgrow _)
    go_ret
    refine ⟨_, rfl, ((Below.refl _ W).alloc (Nat.le_refl _) _).grown hgrow (by simp) (fun q hq => by cases hq; exact Nat.le_refl _), ?_⟩
    rw [Nat.zero_add, List.nil_append] at hown'
    exact RowK.of_owns (tys := rowTy .items) hown' hout.out rfl
theorem exprsIn_len (n : Nat) (k : Nat) (f : Nat → Nat → Dat) : ((Dat.sl n k f).els.filter fun c => !star c).map (cut 2) = exItems (.sl n k f) := rfl
theorem Rd.lkK {w : World} {n : Nat} {f : Nat → Nat → Dat} {a : Option Addr} {m cap : Nat} {ty : Ty} {G : Nat → Prop} (h : Rd w 0 (.slice a m cap) (.sl n (rowTy ty).length f)) (hf : Fits (.sl n (rowTy ty).length f) ty) (hG : ∀ g, g < w.heap.size → G g) :
    m = n ∧ LK (rowTy ty) w w G (.slice a n cap) (Dat.sl n (rowTy ty).length f).els := by
  obtain ⟨_, _, _, hfit⟩ := hf
  obtain ⟨a', cap', e, hc, hz, h⟩ := h
  injection e with e1 e2 e3
  subst e1; subst e2; subst e3
  refine ⟨rfl, ?_⟩
  have hlen : (Dat.sl m (rowTy ty).length f).els.length = m := els_len _ _ _
  rcases h with rfl | ⟨g, o, rfl, _, hg, hcell⟩
  · refine ⟨a, cap, [], by rw [hlen], ?_, .inl rfl⟩
    exact OutK.nil _ _
  · refine ⟨_, cap, (List.range (m * (rowTy ty).length)).map fun x => (w.cell? ⟨g, o + x, none⟩).getD undef, by rw [hlen], ⟨by rw [hlen]; simp, fun i c hi j hj => ?_⟩, .inr ⟨g, o, rfl, by rw [hlen]; exact hc, hG g hg, hg, fun j u hj => ?_⟩⟩
    · have him : i < m := by have := (List.getElem?_eq_some_iff.1 hi).1; omega
      obtain ⟨y, hy, hr⟩ := hcell i him j hj
      have hcf : c = f i := by simpa [Dat.els, Dat.len, Dat.el, him] using hi.symm
      subst hcf
      refine ⟨y, ?_, hr, hfit i him j hj⟩
      rw [List.getElem?_map, List.getElem?_range (mul_lt_of him hj)]
      rw [Nat.add_assoc] at hy
      simp [hy]
    · have hj2 : j < m * (rowTy ty).length := by have := (List.getElem?_eq_some_iff.1 hj).1; simpa using this
      rw [List.getElem?_map, List.getElem?_range hj2] at hj
      have hk0 : 0 < (rowTy ty).length := by
        rcases Nat.eq_zero_or_pos (rowTy ty).length with h | h
        · rw [h, Nat.mul_zero] at hj2; omega
        · exact h
      obtain ⟨y, hy, _⟩ := hcell (j / (rowTy ty).length) (by rw [Nat.div_lt_iff_lt_mul hk0]; exact hj2) (j % (rowTy ty).length) (Nat.mod_lt _ hk0)
      rw [Nat.add_assoc, show j / (rowTy ty).length * (rowTy ty).length + j % (rowTy ty).length = j by rw [Nat.mul_comm]; exact Nat.div_add_mod _ _] at hy
      rw [hy]
      simpa [hy] using hj
theorem deleteNil_any (W : World) :
    Calls Tryz.prog 101 #[.slice none 0 0, .func (.func 103) #[] #[]] W fun e w' => e = .returned (.slice none 0 0) ∧ Below W.heap.size W w' := by
  have h : LK (rowTy .items) W W (fun _ => True) (.slice none ([] : List Nd).length 0) [] := ⟨none, 0, [], rfl, OutK.nil _ _, .inl rfl⟩
  have hIF := indexFunc_any W W none 0 [] h (by decide)
  rw [List.length_nil] at hIF
  go_enter Tryz.func101, Tryz.ntmps101
  go_wp2_with fail
  refine hIF.mono ?_
  clear hIF
  rintro e w1 ⟨hb1, ⟨i0, hi0, _⟩ | ⟨rfl, hall⟩⟩
  · exact absurd hi0 (by omega)
  · clear hall h
    go_wp2_with fail
    go_ret
    exact ⟨rfl, hb1⟩
theorem OutE.low {w0 wr : World} {B B' : Nat} {v : Value} {L : List Nd} (h : OutE w0 wr B v L) (hB : B' ≤ B) : OutE w0 wr B' v L := by
  obtain ⟨C, hC, hP⟩ := h
  refine ⟨C, ⟨hC.1, hC.2.imp id ?_⟩, hP⟩
  rintro ⟨g, cap, cur, e, hg, hr⟩
  exact ⟨g, cap, cur, e, Nat.le_trans hB hg, hr⟩
set_option maxRecDepth 100000 in
set_option maxHeartbeats 8000000 in
theorem exprsIn_any (w0 W : World) (c0 : Bool) (a1 : Option Addr) (n1 p1 : Nat) (a2 : Option Addr) (n2 p2 : Nat) (a3 : Option Addr) (n3 p3 : Nat) (a4 : Option Addr) (n4 p4 : Nat) (c5 : Int) (f1 f2 f3 f4 : Nat → Nat → Dat)
    (hb0 : Below w0.heap.size w0 W) (r1 : Rd w0 0 (.slice a1 n1 p1) (.sl n1 13 f1)) (q1 : Fits (.sl n1 13 f1) .items) (r2 : Rd w0 0 (.slice a2 n2 p2) (.sl n2 3 f2)) (q2 : Fits (.sl n2 3 f2) .sources)
    (r3 : Rd w0 0 (.slice a3 n3 p3) (.sl n3 10 f3)) (q3 : Fits (.sl n3 10 f3) .exprs) (r4 : Rd w0 0 (.slice a4 n4 p4) (.sl n4 11 f4)) (q4 : Fits (.sl n4 11 f4) .keys)
    (hN : n1 + (exFrom (.sl n2 3 f2)).length + n3 + n4 ≤ 1048576) :
    Calls Tryz.prog 59 #[.agg #[.bool c0, .slice a1 n1 p1, .slice a2 n2 p2, .slice a3 n3 p3, .slice a4 n4 p4, .int .i64 c5]] W fun e w' => ∃ v, e = .returned v ∧
      OutE w0 w' (W.heap.size + 1) v (((exItems (.sl n1 13 f1) ++ exFrom (.sl n2 3 f2)) ++ (Dat.sl n3 10 f3).els) ++ (Dat.sl n4 11 f4).els) ∧ Below W.heap.size W w' := by
  obtain ⟨_, hlk⟩ := Rd.lkK (ty := .items) (G := fun g => g < w0.heap.size) r1 q1 fun g hg => hg
  have hl1 : (Dat.sl n1 (rowTy .items).length f1).els.length = n1 := els_len _ _ _
  rw [← exprsIn_len]
  have hx : (Dat.sl n1 13 f1).els = (Dat.sl n1 (rowTy .items).length f1).els := rfl
  rw [hx]
  clear hx
  generalize (Dat.sl n1 (rowTy .items).length f1).els = L at hlk hl1 ⊢
  subst hl1
  clear r1 q1 f1
  have hlW := hlk.keep (w' := W) (G' := fun g => g < w0.heap.size) hb0.size (fun g _ hlt => hb0.block g hlt) fun _ h _ => h
  have HB := BX.new W 39 #[.bool c0, .slice a1 L.length p1, .slice a2 n2 p2, .slice a3 n3 p3, .slice a4 n4 p4, .int .i64 c5]
  go_enter Tryz.func59, Tryz.ntmps59
  have b1 := HB.box.cell (i := 1) (v := .slice a1 L.length p1) rfl
  go_wp2_with fail
  generalize W.alloc (.cells #[.bool c0, .slice a1 L.length p1, .slice a2 n2 p2, .slice a3 n3 p3, .slice a4 n4 p4, .int .i64 c5] 39) = w1 at HB b1 ⊢
  clear b1
  have hl1 := hlW.later ((Below.refl _ _).trans (HB.b))
  refine (clone_any w0 w1 a1 p1 L _ hl1 (by omega)).mono ?_
  rintro e w2 ⟨v, rfl, hb2, hcl⟩
  have HB2 := HB.next hb2
  have hs1 : W.heap.size < w1.heap.size := HB.box.lt
  have hf : (L.filter fun c => !star c).length ≤ L.length := List.length_filter_le _ _
  obtain ⟨w3pf⟩ : Nonempty (Calls Tryz.prog 101 #[v, .func (.func 103) #[] #[]] w2 fun e w' => ∃ v, e = .returned v ∧ LK (rowTy .items) w0 w' (fun q => q ≠ W.heap.size) v (L.filter fun c => !star c) ∧ Below w1.heap.size w2 w') := by
    rcases hcl with ⟨rfl, rfl⟩ | ⟨g, cap', rfl, hg, hrow⟩
    · refine ⟨(deleteNil_any w2).mono ?_⟩
      rintro e w' ⟨rfl, hb⟩
      exact ⟨_, rfl, ⟨none, 0, [], rfl, OutK.nil _ _, .inl rfl⟩, hb.mono hb2.size⟩
    · refine ⟨(deleteFunc_any w0 w2 g cap' w1.heap.size L hrow hg (by omega)).mono ?_⟩
      rintro e w' ⟨v, rfl, hl, hb⟩
      exact ⟨_, rfl, hl.keep (Nat.le_refl _) (fun _ _ _ => rfl) (fun q hq _ => by omega), hb⟩
  obtain ⟨v2, hv2⟩ : ∃ v2, v2 = v := ⟨_, rfl⟩
  rw [← hv2] at w3pf ⊢
  clear hcl hv2
  go_wp2_with fail
  refine w3pf.mono ?_
  clear w3pf
  rintro e w3 ⟨v3, rfl, hl3, hb3⟩
  obtain ⟨a3', p3', rfl⟩ := hl3.slice
  have HB3 : RowAt w3 W.heap.size 39 #[.bool c0, .slice a1 L.length p1, .slice a2 n2 p2, .slice a3 n3 p3, .slice a4 n4 p4, .int .i64 c5] := (hb3.block _ hs1).trans HB2.box
  have hbW : Below W.heap.size W w3 := HB2.b.trans (hb3.mono (Nat.le_of_lt hs1))
  have k1 := HB3.cell (i := 1) (v := .slice a1 L.length p1) rfl
  have k2 := HB3.soft 1
  have R4 : RowAt (w3.setCell ⟨W.heap.size, 1, none⟩ (.slice a3' (L.filter fun c => !star c).length p3')) W.heap.size 39 #[.bool c0, .slice a3' (L.filter fun c => !star c).length p3', .slice a2 n2 p2, .slice a3 n3 p3, .slice a4 n4 p4, .int .i64 c5] := HB3.set 1 _
  have x0 := R4.cell (i := 0) (v := .bool c0) rfl
  have x1 := R4.cell (i := 1) (v := .slice a3' (L.filter fun c => !star c).length p3') rfl
  have x2 := R4.cell (i := 2) (v := .slice a2 n2 p2) rfl
  have x3 := R4.cell (i := 3) (v := .slice a3 n3 p3) rfl
  have x4 := R4.cell (i := 4) (v := .slice a4 n4 p4) rfl
  have x5 := R4.cell (i := 5) (v := .int .i64 c5) rfl
  have hl4 : LK (rowTy .items) w0 (w3.setCell ⟨W.heap.size, 1, none⟩ (.slice a3' (L.filter fun c => !star c).length p3')) (fun _ => True) (.slice a3' (L.filter fun c => !star c).length p3') (L.filter fun c => !star c) :=
    hl3.keep (by simp) (fun q hq _ => heap_setCell_other w3 ⟨W.heap.size, 1, none⟩ q _ hq) fun _ _ _ => trivial
  have hW4 : Below W.heap.size W (w3.setCell ⟨W.heap.size, 1, none⟩ (.slice a3' (L.filter fun c => !star c).length p3')) := hbW.setCell (p := ⟨W.heap.size, 1, none⟩) (Nat.le_refl _) _
  have hb4 := hb0.trans (hW4.mono hb0.size)
  clear hl3 hb3 hb2 hbW HB3 HB2 HB hl1 hlW hlk
  generalize hLf : (L.filter fun c => !star c) = Lf at *
  go_wp2_with fail
  generalize w3.setCell ⟨W.heap.size, 1, none⟩ (.slice a3' Lf.length p3') = w4 at *
  refine (slots_any w0 w4 c0 a3' p3' Lf a2 n2 p2 a3 n3 p3 a4 n4 p4 c5 f2 f3 f4 hb4 hl4 r2 q2 r3 q3 r4 q4 (by omega)).mono ?_
  rintro e w5 ⟨v5, rfl, ho, hb5⟩
  clear x0 x1 x2 x3 x4 x5 k1 k2
  go_wp2_with fail
  go_ret
  subst hLf
  exact ⟨_, rfl, ho.low (B' := W.heap.size + 1) (by have := R4.lt; omega), hW4.trans (hb5.mono hW4.size)⟩
theorem run_append_zero {P : Program} {w : World} {t ty e : TypeId} {i : TypeInfo} (ht : P.underlying t = some (.slice e)) (hi : P.info? e = some i) (b : Addr) (n c : Nat) (ax : Option Addr) :
    (Builtin.append_ #[t, t] ty #[.slice (some b) n n, .slice ax 0 c]).run P w = .ok (.slice (some b) n n) w := by
  cases ax <;> simp [Builtin.append_, run_underlying ht, sizeOf, typeInfo, hi, Builtin.lenOf, Builtin.firstCells, loadCells, loadCellsFrom, storeCells, Sem.run_pure]
def PB (w0 wr : World) (B : Nat) (v : Value) (L : List Nd) : Prop :=
  (∃ b n, v = .slice (some b) n n ∧ LK exprTy w0 w0 (fun g => g < w0.heap.size) v L) ∨ OutE w0 wr B v L
theorem PB.slice {w0 wr : World} {B : Nat} {v : Value} {L : List Nd} (h : PB w0 wr B v L) : ∃ a cap, v = .slice a L.length cap := by
  rcases h with ⟨b, n, rfl, h⟩ | h
  · obtain ⟨a, cap, e⟩ := h.slice
    exact ⟨a, cap, e⟩
  · exact h.slice
theorem PB.later {w0 wr w' : World} {B : Nat} {v : Value} {L : List Nd} (h : PB w0 wr B v L) (hb : Below wr.heap.size wr w') : PB w0 w' B v L := h.imp id fun h => h.later hb
theorem PB.lk {w0 wr : World} {B : Nat} {v : Value} {L : List Nd} (h : PB w0 wr B v L) (hb : Below w0.heap.size w0 wr) : LK exprTy w0 wr (fun g => g < w0.heap.size ∨ B ≤ g) v L := by
  rcases h with ⟨_, _, _, h⟩ | h
  · exact h.keep hb.size (fun g hg _ => hb.block g hg) fun g hg _ => .inl hg
  · exact h.lk fun g hg _ => .inr hg
theorem appO {ops : Array Oper} {rest : List Oper} {o : Oper} {a : Act} {Q : Exit → Act → World → Prop}
    (hgd : o.guard = none) (s x : Operand) (ho : o.op = .call { callee := .builtin .append, args := #[s, x], argTypes := #[36, 36] })
    (w0 : World) (B B' : Nat) (v vx : Value) (L Lx : List Nd) (W : World) (hs : a.eval s = v) (hx : a.eval x = vx)
    (hown : OutE w0 W B v L) (hr : OutE w0 W B' vx Lx) (hl : L.length + Lx.length ≤ 4000000) (hB : B ≤ W.heap.size)
    (h : ∀ (v' : Value) (w' : World), OutE w0 w' B v' (L ++ Lx) → Below B W w' → wpList Tryz.prog ops Q rest (a.put o.dst v') w') :
    wpList Tryz.prog ops Q (o :: rest) a W := by
  obtain ⟨i, hi, hz, hsize, hby⟩ := info_parts Tryz.infoEx
  obtain ⟨C, hC, hP⟩ := hown
  obtain ⟨C', hC', hP'⟩ := hr
  rcases hC'.2 with ⟨e, h0⟩ | ⟨g, cap, cur, e, hg, hrow, hnc, hcm, hsz, hcur⟩
  · have hLx : Lx = [] := List.eq_nil_of_length_eq_zero h0
    subst hLx
    rw [List.append_nil] at h
    exact wpList_append_own_none hgd s x 36 ho B 79 i 10 Tryz.underlying36 hi v L.length C hs hC (hx.trans e) (h v W ⟨C, hC, hP⟩ (Below.refl B W))
  · subst e
    refine wpList_append_own _ hgd s x 36 ho B 79 i _ 10 136 Tryz.underlying36 hi hz hsize hby rfl (by decide) v L.length C hs hC ⟨g, 0, none⟩ Lx.length cap C' hx hP'.1 (fun j u hj => hC'.cells rfl j u hj) hP'.ones (by unfold maxLen; omega) (by omega) hB ?_
    intro v' w' hown' hgrow _
    have hb : Below B W w' := (Below.refl B W).grown hgrow hB (fun q hq => (World.ownsRow.lt hC q hq).1)
    exact h v' w' ⟨C ++ C', by rw [List.length_append]; exact hown', hP.append hP'⟩ hb
set_option maxRecDepth 100000 in
theorem appF {ops : Array Oper} {rest : List Oper} {o : Oper} {a : Act} {Q : Exit → Act → World → Prop}
    (hgd : o.guard = none) (s x : Operand) (ho : o.op = .call { callee := .builtin .append, args := #[s, x], argTypes := #[36, 36] })
    (w0 : World) (B B' : Nat) (v vx : Value) (L Lx : List Nd) (W : World) (hs : a.eval s = v) (hx : a.eval x = vx) (hb0 : Below w0.heap.size w0 W)
    (hown : PB w0 W B v L) (hr : OutE w0 W B' vx Lx) (hl : L.length + Lx.length ≤ 4000000) (hB : B ≤ W.heap.size)
    (h : ∀ (v' : Value) (w' : World), PB w0 w' B v' (L ++ Lx) → Below B W w' → wpList Tryz.prog ops Q rest (a.put o.dst v') w') :
    wpList Tryz.prog ops Q (o :: rest) a W := by
  rcases hown with ⟨b, n, rfl, hlk⟩ | hown
  · obtain ⟨i, hi, hz, hsize, hby⟩ := info_parts Tryz.infoEx
    have hlk2 := hlk
    obtain ⟨a', cap', C, e, hC, hcell⟩ := hlk
    injection e with e1 e2 e3
    subst e1; subst e2; subst e3
    obtain ⟨C', hC', hP'⟩ := hr
    by_cases h0 : Lx.length = 0
    · have hLx : Lx = [] := List.eq_nil_of_length_eq_zero h0
      subst hLx
      rw [List.append_nil] at h
      refine wpList_plain hgd fun K hK => ?_
      obtain ⟨ax, cx, hvx⟩ : ∃ ax cx, vx = .slice ax 0 cx := by
        rcases hC'.2 with ⟨e, _⟩ | ⟨g, cap, cur, e, _⟩
        · exact ⟨none, 0, e⟩
        · exact ⟨_, cap, e⟩
      have hrun := run_append_zero (P := Tryz.prog) (w := W) (ty := o.type) Tryz.underlying36 hi b L.length cx ax
      unfold Oper.wp execOp
      simp only [ho, resolve, invoke, builtin, Sem.run_bind, Sem.run_pure, Result.andThen_ok, List.map_toArray, List.map_cons, List.map_nil, hs, hx, hvx, hrun]
      exact hK _ _ (h _ _ (.inl ⟨b, L.length, rfl, hlk2⟩) (Below.refl _ _))
    · rcases hC'.2 with ⟨e, h0'⟩ | ⟨g, cap, cur, e, hg, hrow, hnc, hcm, hsz, hcur⟩
      · exact absurd h0' h0
      · subst e
        have holds : ∀ j u, C[j]? = some u → W.cell? (b.add j) = some u := by
          intro j u hj
          rcases hcell with rfl | ⟨g', o', e, _, hg', _, hc⟩
          · have h1 := hC.1
            rw [List.length_nil, Nat.zero_mul] at h1
            have := (List.getElem?_eq_some_iff.1 hj).1
            omega
          · injection e with e
            subst e
            have hadd : (⟨g', o', none⟩ : Addr).add j = ⟨g', o' + j, none⟩ := by unfold Addr.add; split <;> simp_all
            rw [hadd]
            exact (hb0.cell (p := ⟨g', o' + j, none⟩) hg').trans (hc j u hj)
        have hCl : C.length = L.length * i.size := by rw [hsize]; exact hC.1
        have hCl' : C'.length = Lx.length * i.size := by rw [hsize]; exact hP'.1
        have hrun := run_append_grow (P := Tryz.prog) W 36 o.type 79 i _ Tryz.underlying36 hi hz b L.length L.length C hCl holds ⟨g, 0, none⟩ Lx.length cap C' hCl' (fun j u hj => hC'.cells rfl j u hj) (by omega) (by omega) (growslice_fits (by omega) (by rw [hby]; omega))
        refine wpList_plain hgd fun K hK => ?_
        unfold Oper.wp execOp
        simp only [ho, resolve, invoke, builtin, Sem.run_bind, Sem.run_pure, Result.andThen_ok, List.map_toArray, List.map_cons, List.map_nil, hs, hx, hrun]
        refine hK _ _ (h _ _ (.inr ⟨C ++ C', ⟨?_, .inr ⟨W.heap.size, _, _, by rw [List.length_append], hB, heap_alloc_new W.drew _, ?_, ?_, ?_, ?_⟩⟩, OutP.append hC hP'⟩) ?_)
        · rw [List.length_append, List.length_append, Nat.add_mul, hCl, hCl', hsize]
        · rw [List.length_append]; exact grownCap_ge _ _ _ _
        · exact grownCap_le_maxLen _ _ _ _ (by unfold maxLen; omega)
        · simp only [Array.size_append, List.size_toArray, size_zeroCells]
          rw [hCl, hCl', hsize]
          have hge := grownCap_ge W (L.length + Lx.length) L.length 79
          generalize grownCap W (L.length + Lx.length) L.length 79 = N at hge ⊢
          show L.length * 10 + Lx.length * 10 + (N - (L.length + Lx.length)) * 10 = N * 10
          omega
        · have : (C ++ C').length = (L ++ Lx).length * 10 := by rw [List.length_append, List.length_append, Nat.add_mul, hCl, hCl', hsize]
          rw [← this]
          simp only [Array.toList_append, List.append_assoc]
          rw [← List.append_assoc]
          exact List.take_left
        · exact (((Below.refl B W).drew).alloc hB _)
  · exact appO hgd s x ho w0 B B' v vx L Lx W hs hx hown hr hl hB fun v' w' h1 h2 => h v' w' (.inr h1) h2
theorem preA_flat : ∀ l : List (List (Nat × Nd)), preA.of l = l.flatten
  | [] => rfl
  | a :: l => by rw [preA_good.of_cons, preA_flat l]; rfl
theorem pre_bd : ∀ (d : Dat) (ty : Ty), Fits d ty → ∀ p ∈ fold preA d ty, msr (p.2 8) ≤ msr d ∧ msr (p.2 9) ≤ msr d ∧ Fits (p.2 8) .exprs ∧ Fits (p.2 9) .queries
  | .v _, ty, hf => by cases ty <;> first | exact hf.elim | (intro p hp; exact absurd hp (by simp [fold, preA]))
  | .sl n k f, ty, hf => by
    obtain ⟨hd, _, hk, hfit⟩ := hf
    have IH : ∀ i j ty, Fits (f i j) ty → ∀ p ∈ fold preA (f i j) ty, msr (p.2 8) ≤ msr (f i j) ∧ msr (p.2 9) ≤ msr (f i j) ∧ Fits (p.2 8) .exprs ∧ Fits (p.2 9) .queries := fun i j ty h => pre_bd (f i j) ty h
    have sub : ∀ i j ty, i < n → j < k → Fits (f i j) ty → ∀ p ∈ fold preA (f i j) ty, msr (p.2 8) ≤ msr (.sl n k f) ∧ msr (p.2 9) ≤ msr (.sl n k f) ∧ Fits (p.2 8) .exprs ∧ Fits (p.2 9) .queries := fun i j ty hi hj h p hp => by
      obtain ⟨h1, h2, h3, h4⟩ := IH i j ty h p hp
      have := msr_el (n := n) (k := k) (f := f) hi hj
      exact ⟨by omega, by omega, h3, h4⟩
    have nodeE : ∀ (c : Nd) i a b, i < n → a < k → b < k → c 8 = f i a → c 9 = f i b → Fits (f i a) .exprs → Fits (f i b) .queries → ∀ p ∈ preA.node c (preA.up (fold preA (f i a) .exprs) (fold preA (f i b) .queries)), msr (p.2 8) ≤ msr (.sl n k f) ∧ msr (p.2 9) ≤ msr (.sl n k f) ∧ Fits (p.2 8) .exprs ∧ Fits (p.2 9) .queries := by
      intro c i a b hi ha hb e8 e9 f8 f9 p hp
      simp only [preA, List.mem_cons, List.mem_map, List.mem_append] at hp
      rcases hp with rfl | ⟨p', hp', rfl⟩
      · show msr (c 8) ≤ _ ∧ msr (c 9) ≤ _ ∧ Fits (c 8) _ ∧ Fits (c 9) _
        rw [e8, e9]
        exact ⟨msr_el hi ha, msr_el hi hb, f8, f9⟩
      · rcases hp' with h | h
        · exact sub i a .exprs hi ha f8 p' h
        · exact sub i b .queries hi hb f9 p' h
    cases ty
    case int => cases hd
    case bool => cases hd
    case str => cases hd
    case names => intro p hp; exact absurd hp (by simp [fold, preA])
    all_goals
      obtain rfl := hk
      intro p hp
      rw [fold, preA_flat, List.mem_flatten] at hp
      obtain ⟨l, hl, hp⟩ := hp
      rw [List.mem_map] at hl
      obtain ⟨i, hi, rfl⟩ := hl
      rw [List.mem_range] at hi
    case exprs => exact nodeE (f i) i 8 9 hi (by decide) (by decide) rfl rfl (hfit i hi 8 (by decide)) (hfit i hi 9 (by decide)) p hp
    case items =>
      by_cases ht : (f i 0).tru
      · rw [if_pos ht] at hp; exact absurd hp (by simp [preA])
      · rw [if_neg ht] at hp
        exact nodeE (cut 2 (f i)) i 10 11 hi (by decide) (by decide) rfl rfl (hfit i hi 10 (by decide)) (hfit i hi 11 (by decide)) p hp
    case rows => exact sub i 0 .exprs hi (by decide) (hfit i hi 0 (by decide)) p hp
    case sources => exact sub i 2 .exprs hi (by decide) (hfit i hi 2 (by decide)) p hp
    case keys => exact nodeE (f i) i 8 9 hi (by decide) (by decide) rfl rfl (hfit i hi 8 (by decide)) (hfit i hi 9 (by decide)) p hp
    case queries =>
      simp only [preA, List.mem_append] at hp
      rcases hp with ((h | h) | h) | h
      · exact sub i 1 .items hi (by decide) (hfit i hi 1 (by decide)) p h
      · exact sub i 2 .sources hi (by decide) (hfit i hi 2 (by decide)) p h
      · exact sub i 3 .exprs hi (by decide) (hfit i hi 3 (by decide)) p h
      · exact sub i 4 .keys hi (by decide) (hfit i hi 4 (by decide)) p h
structure Bd (c : Nd) : Prop where
  m8 : msr (c 8) ≤ 1048576
  m9 : msr (c 9) ≤ 1048576
  f8 : Fits (c 8) .exprs
  f9 : Fits (c 9) .queries
theorem Bd.pre {c : Nd} (h : Bd c) (d : Nat) : ∀ p ∈ pre d c, Bd p.2 := by
  intro p hp
  unfold Go.Proofs.YtcliijfdlcagoaaGreat.pre at hp
  rw [List.mem_map] at hp
  obtain ⟨p', hp', rfl⟩ := hp
  show Bd p'.2
  unfold foldE at hp'
  simp only [preA, List.mem_cons, List.mem_map, List.mem_append] at hp'
  rcases hp' with rfl | ⟨q, hq, rfl⟩
  · exact h
  · have h8 := h.m8
    have h9 := h.m9
    rcases hq with hq | hq
    · obtain ⟨a, b, c, d⟩ := pre_bd _ _ h.f8 q hq
      exact ⟨by show msr (q.2 8) ≤ _; omega, by show msr (q.2 9) ≤ _; omega, c, d⟩
    · obtain ⟨a, b, c, d⟩ := pre_bd _ _ h.f9 q hq
      exact ⟨by show msr (q.2 8) ≤ _; omega, by show msr (q.2 9) ≤ _; omega, c, d⟩
set_option maxRecDepth 100000 in
set_option maxHeartbeats 4000000 in
theorem grow_any (w0 W : World) (n : Nat) (hn : n ≤ 4000000) :
    Calls Tryz.prog 120 #[.slice none 0 0, .int .i64 (n : Int)] W fun e w' => ∃ v, e = .returned v ∧ OutE w0 w' W.heap.size v [] ∧ Below W.heap.size W w' := by
  have d0 : decide ((n : Int) < 0) = false := by simp
  by_cases h0 : n = 0
  · subst h0
    go_enter Tryz.func120, Tryz.ntmps120
    go_wp2_with fail
    go_ret
    exact ⟨_, rfl, ⟨[], World.ownsRow_nil _ _ _ _, OutP.nil w0⟩, Below.refl _ _⟩
  · have h1 : (0 : Int) < (n : Int) := by omega
    obtain ⟨i, hi, hz, hsize, hby⟩ := info_parts Tryz.infoEx
    have hrun := Lib.run_append_nil_zeros (P := Tryz.prog) W 36 3 36 79 i _ .i64 .i64 Tryz.underlying36 Tryz.underlying3 hi hz n (by omega) (by rw [hsize]; decide) (by omega) (by rw [hby]; omega)
    have hge := grownCap_ge W n 0 79
    have hle := grownCap_le_maxLen W n 0 79 (by unfold maxLen; omega)
    generalize hcap : grownCap W n 0 79 = cap at hrun hge hle
    clear hcap
    have hrow := heap_alloc_new W.drew (.cells (Builtin.zeroCells (Value.agg #[.int .i64 0, .int .i64 0, .bool false, .int .i64 0, .int .i64 0, .string ByteArray.empty, .string ByteArray.empty, .string ByteArray.empty, .slice none 0 0, .slice none 0 0]).cells n ++ Builtin.zeroCells (Value.agg #[.int .i64 0, .int .i64 0, .bool false, .int .i64 0, .int .i64 0, .string ByteArray.empty, .string ByteArray.empty, .string ByteArray.empty, .slice none 0 0, .slice none 0 0]).cells (cap - n)) 79)
    have hbe : Below W.heap.size W (W.drew.alloc (.cells (Builtin.zeroCells (Value.agg #[.int .i64 0, .int .i64 0, .bool false, .int .i64 0, .int .i64 0, .string ByteArray.empty, .string ByteArray.empty, .string ByteArray.empty, .slice none 0 0, .slice none 0 0]).cells n ++ Builtin.zeroCells (Value.agg #[.int .i64 0, .int .i64 0, .bool false, .int .i64 0, .int .i64 0, .string ByteArray.empty, .string ByteArray.empty, .string ByteArray.empty, .slice none 0 0, .slice none 0 0]).cells (cap - n)) 79)) := (Below.refl _ _).drew.alloc (by simp) _
    have hsz : (Builtin.zeroCells (Value.agg #[.int .i64 0, .int .i64 0, .bool false, .int .i64 0, .int .i64 0, .string ByteArray.empty, .string ByteArray.empty, .string ByteArray.empty, .slice none 0 0, .slice none 0 0]).cells n ++ Builtin.zeroCells (Value.agg #[.int .i64 0, .int .i64 0, .bool false, .int .i64 0, .int .i64 0, .string ByteArray.empty, .string ByteArray.empty, .string ByteArray.empty, .slice none 0 0, .slice none 0 0]).cells (cap - n)).size = cap * 10 := by
      rw [Array.size_append, size_zeroCells, size_zeroCells]
      show n * 10 + (cap - n) * 10 = _
      omega
    generalize (Builtin.zeroCells (Value.agg #[.int .i64 0, .int .i64 0, .bool false, .int .i64 0, .int .i64 0, .string ByteArray.empty, .string ByteArray.empty, .string ByteArray.empty, .slice none 0 0, .slice none 0 0]).cells n ++ Builtin.zeroCells (Value.agg #[.int .i64 0, .int .i64 0, .bool false, .int .i64 0, .int .i64 0, .string ByteArray.empty, .string ByteArray.empty, .string ByteArray.empty, .slice none 0 0, .slice none 0 0]).cells (cap - n)) = zs at *
    generalize hw2 : W.drew.alloc (.cells zs 79) = w2 at *
    have hgl : W.drew.heap.size = W.heap.size := rfl
    rw [hgl] at hrow
    have hout : OutE w0 w2 W.heap.size (.slice (some ⟨W.heap.size, 0, none⟩) 0 cap) [] := ⟨[], ⟨rfl, .inr ⟨W.heap.size, cap, zs, rfl, Nat.le_refl _, hrow, Nat.zero_le _, hle, hsz, by simp⟩⟩, OutP.nil w0⟩
    have hc2 : (n : Int) ≤ (cap : Int) := by omega
    have hc3 : (cap : Int) ≤ 9223372036854775807 := by unfold maxLen at hle; omega
    go_enter Tryz.func120, Tryz.ntmps120
    go_wp2_with (at_builtin; refine Lib.wpList_append_run _ rfl _ _ _ _ rfl _ _ rfl rfl _ _ hrun ?_)
    go_ret
    exact ⟨_, rfl, hout, hbe⟩
def SrcE (w0 W : World) (x : Value) (L : List Nd) : Prop := (∃ n f, Rd w0 0 x (.sl n 10 f) ∧ Fits (.sl n 10 f) .exprs ∧ L = (Dat.sl n 10 f).els ∧ Below w0.heap.size w0 W) ∨ ∃ B, OutE w0 W B x L
theorem SrcE.slice {w0 W : World} {x : Value} {L : List Nd} (h : SrcE w0 W x L) : ∃ a cap, x = .slice a L.length cap := by
  rcases h with ⟨n, f, hr, hf, rfl, _⟩ | ⟨B, h⟩
  · obtain ⟨a, cap, e⟩ := hr.slice
    exact ⟨a, cap, by rw [e, els_len]⟩
  · exact h.slice
theorem SrcE.later {w0 W W' : World} {x : Value} {L : List Nd} (h : SrcE w0 W x L) (hb : Below W.heap.size W W') : SrcE w0 W' x L := by
  rcases h with ⟨n, f, hr, hf, e, hb0⟩ | ⟨B, h⟩
  · exact .inl ⟨n, f, hr, hf, e, hb0.trans (hb.mono hb0.size)⟩
  · exact .inr ⟨B, h.later hb⟩
theorem appS_ {ops : Array Oper} {rest : List Oper} {o : Oper} {a : Act} {Q : Exit → Act → World → Prop}
    (hgd : o.guard = none) (s x : Operand) (ho : o.op = .call { callee := .builtin .append, args := #[s, x], argTypes := #[36, 36] })
    (w0 : World) (B : Nat) (v vx : Value) (L Lx : List Nd) (W : World) (hs : a.eval s = v) (hx : a.eval x = vx)
    (hown : OutE w0 W B v L) (hr : SrcE w0 W vx Lx) (hl : L.length + Lx.length ≤ 2000000) (hB : B ≤ W.heap.size)
    (h : ∀ (v' : Value) (w' : World), OutE w0 w' B v' (L ++ Lx) → Below B W w' → wpList Tryz.prog ops Q rest (a.put o.dst v') w') :
    wpList Tryz.prog ops Q (o :: rest) a W := by
  rcases hr with ⟨n, f, hr, hf, rfl, hb0⟩ | ⟨B', hr⟩
  · rw [els_len] at hl
    obtain ⟨ax, cap, e⟩ := hr.slice
    rw [e] at hx hr
    exact appM hgd s x ho w0 B v L ax n cap n 10 f W hs hx hown hr hf hb0 (by omega) (by omega) hB h
  · exact appO hgd s x ho w0 B B' v vx L Lx W hs hx hown hr (by omega) hB h
def ValsE (W : World) (v : Value) (xs : List Value) : Prop := ∃ a cap, v = .slice a xs.length cap ∧ (xs = [] ∨ ∃ g o, a = some ⟨g, o, none⟩ ∧ g < W.heap.size ∧ ∀ (i : Nat) (x : Value), xs[i]? = some x → W.cell? ⟨g, o + i, none⟩ = some x)
theorem flat_take {Ls : List (List Nd)} {j : Nat} {L : List Nd} (h : Ls[j]? = some L) : (Ls.take (j + 1)).flatten = (Ls.take j).flatten ++ L := by
  rw [take_next h, List.flatten_append]; simp
theorem flat_take_le (Ls : List (List Nd)) (j : Nat) : (Ls.take j).flatten.length ≤ Ls.flatten.length := by
  have h : Ls.flatten = (Ls.take j).flatten ++ (Ls.drop j).flatten := by rw [← List.flatten_append, List.take_append_drop]
  rw [h, List.length_append]; omega
set_option maxRecDepth 100000 in
set_option maxHeartbeats 4000000 in
theorem concat_any (w0 W : World) (v : Value) (xs : List Value) (Ls : List (List Nd)) (hv : ValsE W v xs) (hl : xs.length = Ls.length) (hx : ∀ (i : Nat) (x : Value) (L : List Nd), xs[i]? = some x → Ls[i]? = some L → SrcE w0 W x L)
    (hN : Ls.flatten.length ≤ 2000000) (hM : xs.length ≤ 1048576) :
    Calls Tryz.prog 89 #[v] W fun e w' => ∃ v, e = .returned v ∧ OutE w0 w' W.heap.size v Ls.flatten ∧ Below W.heap.size W w' := by
  obtain ⟨a, cap, rfl, hc⟩ := hv
  have hLs := Lib.hid hl
  clear hl
  go_enter Tryz.func89, Tryz.ntmps89
  go_wp2_with fail
  go_loopw [3, 11] (fun sz i wr => ∃ (j S : Nat), j ≤ xs.length ∧ i = .int .i64 (j : Int) ∧ sz = .int .i64 (S : Int) ∧ Hid (S = (Ls.take j).flatten.length) ∧ S ≤ 2000000 ∧ W = wr) (fun _ i _ => xs.length - (intOf i).toNat)
  case atStart => exact ⟨0, 0, Nat.zero_le _, rfl, rfl, rfl, Nat.zero_le _, rfl⟩
  case round =>
    obtain ⟨j, S, hj, rfl, rfl, HS, hS, rfl⟩ := hrel
    by_cases hlt : j < xs.length
    · have hlt2 : (j : Int) < (xs.length : Int) := by omega
      have hltL : j < Ls.length := by have := HS; have := hLs.out; omega
      rcases hc with hc | ⟨g, o, rfl, hg, hcell⟩
      · rw [hc] at hlt; exact absurd hlt (Nat.not_lt_zero _)
      have hz := hcell j xs[j] (List.getElem?_eq_getElem hlt)
      obtain ⟨ax, cx, ex⟩ := (hx j xs[j] Ls[j] (List.getElem?_eq_getElem hlt) (List.getElem?_eq_getElem hltL)).slice
      rw [ex] at hz
      have HS2 : Hid (S + Ls[j].length = (Ls.take (j + 1)).flatten.length) := by
        show _ = _
        rw [flat_take (List.getElem?_eq_getElem hltL), List.length_append, HS.out]
      have hS2 : S + Ls[j].length ≤ 2000000 := by
        rw [HS2.out]
        exact Nat.le_trans (flat_take_le Ls (j + 1)) hN
      generalize Ls[j].length = q at hz HS2 hS2
      clear hcell hx
      have hd : decide ((S : Int) + (q : Int) < 0) = false := by simp; omega
      clear HS ex
      go_wp2_with fail
      go_roundw
      case rel => exact ⟨j + 1, S + q, by omega, by go_num, by go_num, HS2, hS2, by first | rfl | trivial⟩
      case measure => simp [intOf]; omega
    · obtain rfl : xs.length = j := by omega
      have hSS : S ≤ 4000000 := by omega
      have hG := grow_any w0 W S hSS
      clear hlt hj
      go_wp2_with fail
      refine hG.mono ?_
      rintro e w2 ⟨v0, rfl, ho0, hb0⟩
      clear hG HS
      obtain ⟨vv, hvv⟩ : ∃ vv, vv = v0 := ⟨_, rfl⟩
      rw [← hvv] at ho0 ⊢
      clear hvv
      go_wp2_with fail
      go_loopw [6, 27] (fun out i wr => ∃ (j : Nat) (vo : Value), j ≤ xs.length ∧ i = .int .i64 (j : Int) ∧ vo = out ∧ OutE w0 wr W.heap.size vo (Ls.take j).flatten ∧ Below W.heap.size W wr) (fun _ i _ => xs.length - (intOf i).toNat)
      case atStart => exact ⟨0, vv, Nat.zero_le _, rfl, rfl, ho0, hb0⟩
      case round =>
        obtain ⟨j, vo, hj, rfl, rfl, ho, hb⟩ := hrel
        by_cases hlt : j < xs.length
        · have hlt2 : (j : Int) < (xs.length : Int) := by omega
          have hltL : j < Ls.length := by have := hLs.out; omega
          rcases hc with hc | ⟨g, o, rfl, hg, hcell⟩
          · rw [hc] at hlt; exact absurd hlt (Nat.not_lt_zero _)
          have hz := (hb.cell (p := ⟨g, o + j, none⟩) hg).trans (hcell j xs[j] (List.getElem?_eq_getElem hlt))
          have hsrc := (hx j xs[j] Ls[j] (List.getElem?_eq_getElem hlt) (List.getElem?_eq_getElem hltL)).later hb
          have hfl := flat_take (List.getElem?_eq_getElem hltL)
          have hle := flat_take_le Ls (j + 1)
          have HF := Lib.hid hfl
          have hlen : (Ls.take j).flatten.length + Ls[j].length ≤ 2000000 := by rw [hfl, List.length_append] at hle; omega
          obtain ⟨ax, cx, ex⟩ := hsrc.slice
          rw [ex] at hz hsrc
          have hsrc2 := hsrc
          have HO := Lib.hid ho
          clear hfl hle ex hsrc ho hcell hx
          go_wp2_with (at_builtin; refine appS_ rfl (.tmp 31) (.tmp 32) rfl w0 W.heap.size vo _ _ _ wr rfl rfl HO.out hsrc2 hlen hb.size ?_; intro v' w' hout hbb)
          have hb2 := hb.trans (hbb.mono (Nat.le_refl _))
          rw [← HF.out] at hout
          go_roundw
          case rel => exact ⟨j + 1, v', by omega, by go_num, rfl, hout, hb2⟩
          case measure => simp [intOf]; omega
        · obtain rfl : xs.length = j := by omega
          have hfin : OutE w0 wr W.heap.size vo Ls.flatten := by
            have := ho
            rw [hLs.out, List.take_length] at this
            exact this
          clear ho hlt hj
          go_wp2_with fail
          go_ret
          exact ⟨_, rfl, hfin, hb⟩
end Go.Proofs.YtcliijfdlcagoaaGreat
