
/- The program's slotsIn: every expression of a query. -/
import Derived.Test.YtgihklohhjhjbaaVisE
namespace Go.Proofs.Ytgihklohhjhjbaa
open Go.RowKit

theorem OutK.itemRow {w0 : World} {ys : List Value} {c : Nd} (h : OutK (rowTy .items) w0 ys [c]) : ∃ (c0 : Bool) (c1 : ByteArray) (c2 : Int) (c3 : Int) (c4 : Bool) (c5 : Int) (c6 : Int) (c7 : ByteArray) (c8 : ByteArray) (c9 : ByteArray) (a10 : Option Addr) (n10 p10 : Nat) (a11 : Option Addr) (n11 p11 : Nat) (c12 : ByteArray),
    ys = [.bool c0, .string c1, .int .i64 c2, .int .i64 c3, .bool c4, .int .i64 c5, .int .i64 c6, .string c7, .string c8, .string c9, .slice a10 n10 p10, .slice a11 n11 p11, .string c12] ∧
    (c 0 = .v (.bool c0) ∧ (c 1 = .v (.string c1) ∧ c1.size ≤ 9223372036854775807) ∧ (c 2 = .v (.int .i64 c2) ∧ -9223372036854775808 ≤ c2 ∧ c2 ≤ 9223372036854775807) ∧ (c 3 = .v (.int .i64 c3) ∧ -9223372036854775808 ≤ c3 ∧ c3 ≤ 9223372036854775807) ∧ c 4 = .v (.bool c4) ∧ (c 5 = .v (.int .i64 c5) ∧ -9223372036854775808 ≤ c5 ∧ c5 ≤ 9223372036854775807) ∧ (c 6 = .v (.int .i64 c6) ∧ -9223372036854775808 ≤ c6 ∧ c6 ≤ 9223372036854775807) ∧ (c 7 = .v (.string c7) ∧ c7.size ≤ 9223372036854775807) ∧ (c 8 = .v (.string c8) ∧ c8.size ≤ 9223372036854775807) ∧ (c 9 = .v (.string c9) ∧ c9.size ≤ 9223372036854775807) ∧ (Rd w0 0 (.slice a10 n10 p10) (c 10) ∧ Fits (c 10) .exprs) ∧ (Rd w0 0 (.slice a11 n11 p11) (c 11) ∧ Fits (c 11) .queries) ∧ (c 12 = .v (.string c12) ∧ c12.size ≤ 9223372036854775807)) := by
  have hl : ys.length = 13 := h.1
  obtain ⟨y0, z0, r0, f0⟩ := h.cellOf 0 (by decide)
  obtain ⟨c0, e0⟩ := Fits.bool f0
  rw [e0] at r0; obtain rfl : y0 = _ := r0
  obtain ⟨y1, z1, r1, f1⟩ := h.cellOf 1 (by decide)
  obtain ⟨c1, e1, b1⟩ := Fits.str f1
  rw [e1] at r1; obtain rfl : y1 = _ := r1
  obtain ⟨y2, z2, r2, f2⟩ := h.cellOf 2 (by decide)
  obtain ⟨c2, e2, b2⟩ := Fits.int f2
  rw [e2] at r2; obtain rfl : y2 = _ := r2
  obtain ⟨y3, z3, r3, f3⟩ := h.cellOf 3 (by decide)
  obtain ⟨c3, e3, b3⟩ := Fits.int f3
  rw [e3] at r3; obtain rfl : y3 = _ := r3
  obtain ⟨y4, z4, r4, f4⟩ := h.cellOf 4 (by decide)
  obtain ⟨c4, e4⟩ := Fits.bool f4
  rw [e4] at r4; obtain rfl : y4 = _ := r4
  obtain ⟨y5, z5, r5, f5⟩ := h.cellOf 5 (by decide)
  obtain ⟨c5, e5, b5⟩ := Fits.int f5
  rw [e5] at r5; obtain rfl : y5 = _ := r5
  obtain ⟨y6, z6, r6, f6⟩ := h.cellOf 6 (by decide)
  obtain ⟨c6, e6, b6⟩ := Fits.int f6
  rw [e6] at r6; obtain rfl : y6 = _ := r6
  obtain ⟨y7, z7, r7, f7⟩ := h.cellOf 7 (by decide)
  obtain ⟨c7, e7, b7⟩ := Fits.str f7
  rw [e7] at r7; obtain rfl : y7 = _ := r7
  obtain ⟨y8, z8, r8, f8⟩ := h.cellOf 8 (by decide)
  obtain ⟨c8, e8, b8⟩ := Fits.str f8
  rw [e8] at r8; obtain rfl : y8 = _ := r8
  obtain ⟨y9, z9, r9, f9⟩ := h.cellOf 9 (by decide)
  obtain ⟨c9, e9, b9⟩ := Fits.str f9
  rw [e9] at r9; obtain rfl : y9 = _ := r9
  obtain ⟨y10, z10, r10, f10⟩ := h.cellOf 10 (by decide)
  have g10 : Fits (c 10) .exprs := f10
  obtain ⟨a10, n10, p10, rfl⟩ := r10.slice_of g10 rfl
  obtain ⟨y11, z11, r11, f11⟩ := h.cellOf 11 (by decide)
  have g11 : Fits (c 11) .queries := f11
  obtain ⟨a11, n11, p11, rfl⟩ := r11.slice_of g11 rfl
  obtain ⟨y12, z12, r12, f12⟩ := h.cellOf 12 (by decide)
  obtain ⟨c12, e12, b12⟩ := Fits.str f12
  rw [e12] at r12; obtain rfl : y12 = _ := r12
  refine ⟨c0, c1, c2, c3, c4, c5, c6, c7, c8, c9, a10, n10, p10, a11, n11, p11, c12, ?_, e0, ⟨e1, b1⟩, ⟨e2, b2⟩, ⟨e3, b3⟩, e4, ⟨e5, b5⟩, ⟨e6, b6⟩, ⟨e7, b7⟩, ⟨e8, b8⟩, ⟨e9, b9⟩, ⟨r10, g10⟩, ⟨r11, g11⟩, ⟨e12, b12⟩⟩
  refine List.ext_getElem? fun j => ?_
  rcases j with _ | _ | _ | _ | _ | _ | _ | _ | _ | _ | _ | _ | _ | j
  · exact z0
  · exact z1
  · exact z2
  · exact z3
  · exact z4
  · exact z5
  · exact z6
  · exact z7
  · exact z8
  · exact z9
  · exact z10
  · exact z11
  · exact z12
  · rw [List.getElem?_eq_none (by omega), List.getElem?_eq_none (by simp)]
theorem OutK.sourceRow {w0 : World} {ys : List Value} {c : Nd} (h : OutK (rowTy .sources) w0 ys [c]) : ∃ (c0 : ByteArray) (c1 : ByteArray) (a2 : Option Addr) (n2 p2 : Nat),
    ys = [.string c0, .string c1, .slice a2 n2 p2] ∧
    ((c 0 = .v (.string c0) ∧ c0.size ≤ 9223372036854775807) ∧ (c 1 = .v (.string c1) ∧ c1.size ≤ 9223372036854775807) ∧ (Rd w0 0 (.slice a2 n2 p2) (c 2) ∧ Fits (c 2) .exprs)) := by
  have hl : ys.length = 3 := h.1
  obtain ⟨y0, z0, r0, f0⟩ := h.cellOf 0 (by decide)
  obtain ⟨c0, e0, b0⟩ := Fits.str f0
  rw [e0] at r0; obtain rfl : y0 = _ := r0
  obtain ⟨y1, z1, r1, f1⟩ := h.cellOf 1 (by decide)
  obtain ⟨c1, e1, b1⟩ := Fits.str f1
  rw [e1] at r1; obtain rfl : y1 = _ := r1
  obtain ⟨y2, z2, r2, f2⟩ := h.cellOf 2 (by decide)
  have g2 : Fits (c 2) .exprs := f2
  obtain ⟨a2, n2, p2, rfl⟩ := r2.slice_of g2 rfl
  refine ⟨c0, c1, a2, n2, p2, ?_, ⟨e0, b0⟩, ⟨e1, b1⟩, ⟨r2, g2⟩⟩
  refine List.ext_getElem? fun j => ?_
  rcases j with _ | _ | _ | j
  · exact z0
  · exact z1
  · exact z2
  · rw [List.getElem?_eq_none (by omega), List.getElem?_eq_none (by simp)]
theorem OutK.keyRow {w0 : World} {ys : List Value} {c : Nd} (h : OutK (rowTy .keys) w0 ys [c]) : ∃ (c0 : Int) (c1 : Int) (c2 : Bool) (c3 : Int) (c4 : Int) (c5 : ByteArray) (c6 : ByteArray) (c7 : ByteArray) (a8 : Option Addr) (n8 p8 : Nat) (a9 : Option Addr) (n9 p9 : Nat) (c10 : Bool),
    ys = [.int .i64 c0, .int .i64 c1, .bool c2, .int .i64 c3, .int .i64 c4, .string c5, .string c6, .string c7, .slice a8 n8 p8, .slice a9 n9 p9, .bool c10] ∧
    ((c 0 = .v (.int .i64 c0) ∧ -9223372036854775808 ≤ c0 ∧ c0 ≤ 9223372036854775807) ∧ (c 1 = .v (.int .i64 c1) ∧ -9223372036854775808 ≤ c1 ∧ c1 ≤ 9223372036854775807) ∧ c 2 = .v (.bool c2) ∧ (c 3 = .v (.int .i64 c3) ∧ -9223372036854775808 ≤ c3 ∧ c3 ≤ 9223372036854775807) ∧ (c 4 = .v (.int .i64 c4) ∧ -9223372036854775808 ≤ c4 ∧ c4 ≤ 9223372036854775807) ∧ (c 5 = .v (.string c5) ∧ c5.size ≤ 9223372036854775807) ∧ (c 6 = .v (.string c6) ∧ c6.size ≤ 9223372036854775807) ∧ (c 7 = .v (.string c7) ∧ c7.size ≤ 9223372036854775807) ∧ (Rd w0 0 (.slice a8 n8 p8) (c 8) ∧ Fits (c 8) .exprs) ∧ (Rd w0 0 (.slice a9 n9 p9) (c 9) ∧ Fits (c 9) .queries) ∧ c 10 = .v (.bool c10)) := by
  have hl : ys.length = 11 := h.1
  obtain ⟨y0, z0, r0, f0⟩ := h.cellOf 0 (by decide)
  obtain ⟨c0, e0, b0⟩ := Fits.int f0
  rw [e0] at r0; obtain rfl : y0 = _ := r0
  obtain ⟨y1, z1, r1, f1⟩ := h.cellOf 1 (by decide)
  obtain ⟨c1, e1, b1⟩ := Fits.int f1
  rw [e1] at r1; obtain rfl : y1 = _ := r1
  obtain ⟨y2, z2, r2, f2⟩ := h.cellOf 2 (by decide)
  obtain ⟨c2, e2⟩ := Fits.bool f2
  rw [e2] at r2; obtain rfl : y2 = _ := r2
  obtain ⟨y3, z3, r3, f3⟩ := h.cellOf 3 (by decide)
  obtain ⟨c3, e3, b3⟩ := Fits.int f3
  rw [e3] at r3; obtain rfl : y3 = _ := r3
  obtain ⟨y4, z4, r4, f4⟩ := h.cellOf 4 (by decide)
  obtain ⟨c4, e4, b4⟩ := Fits.int f4
  rw [e4] at r4; obtain rfl : y4 = _ := r4
  obtain ⟨y5, z5, r5, f5⟩ := h.cellOf 5 (by decide)
  obtain ⟨c5, e5, b5⟩ := Fits.str f5
  rw [e5] at r5; obtain rfl : y5 = _ := r5
  obtain ⟨y6, z6, r6, f6⟩ := h.cellOf 6 (by decide)
  obtain ⟨c6, e6, b6⟩ := Fits.str f6
  rw [e6] at r6; obtain rfl : y6 = _ := r6
  obtain ⟨y7, z7, r7, f7⟩ := h.cellOf 7 (by decide)
  obtain ⟨c7, e7, b7⟩ := Fits.str f7
  rw [e7] at r7; obtain rfl : y7 = _ := r7
  obtain ⟨y8, z8, r8, f8⟩ := h.cellOf 8 (by decide)
  have g8 : Fits (c 8) .exprs := f8
  obtain ⟨a8, n8, p8, rfl⟩ := r8.slice_of g8 rfl
  obtain ⟨y9, z9, r9, f9⟩ := h.cellOf 9 (by decide)
  have g9 : Fits (c 9) .queries := f9
  obtain ⟨a9, n9, p9, rfl⟩ := r9.slice_of g9 rfl
  obtain ⟨y10, z10, r10, f10⟩ := h.cellOf 10 (by decide)
  obtain ⟨c10, e10⟩ := Fits.bool f10
  rw [e10] at r10; obtain rfl : y10 = _ := r10
  refine ⟨c0, c1, c2, c3, c4, c5, c6, c7, a8, n8, p8, a9, n9, p9, c10, ?_, ⟨e0, b0⟩, ⟨e1, b1⟩, e2, ⟨e3, b3⟩, ⟨e4, b4⟩, ⟨e5, b5⟩, ⟨e6, b6⟩, ⟨e7, b7⟩, ⟨r8, g8⟩, ⟨r9, g9⟩, e10⟩
  refine List.ext_getElem? fun j => ?_
  rcases j with _ | _ | _ | _ | _ | _ | _ | _ | _ | _ | _ | j
  · exact z0
  · exact z1
  · exact z2
  · exact z3
  · exact z4
  · exact z5
  · exact z6
  · exact z7
  · exact z8
  · exact z9
  · exact z10
  · rw [List.getElem?_eq_none (by omega), List.getElem?_eq_none (by simp)]
theorem LK.at {tys : List Ty} {w0 w : World} {G : Nat → Prop} {v : Value} {L : List Nd} (h : LK tys w0 w G v L) {j : Nat} {c : Nd} (hc : L[j]? = some c) :
    ∃ g o cap ys, v = .slice (some ⟨g, o, none⟩) L.length cap ∧ OutK tys w0 ys [c] ∧ G g ∧ g < w.heap.size ∧ ∀ m u, ys[m]? = some u → w.cell? ⟨g, o + j * tys.length + m, none⟩ = some u := by
  have hj : j < L.length := (List.getElem?_eq_some_iff.1 hc).1
  obtain ⟨a, cap, C, e, hC, h⟩ := h
  rcases h with rfl | ⟨g, o, rfl, _, hg, hlt, hcell⟩
  · simp at hc
  have hlen : j * tys.length + tys.length ≤ C.length := by
    rw [hC.1]
    have : (j + 1) * tys.length ≤ L.length * tys.length := Nat.mul_le_mul_right _ hj
    rw [Nat.add_mul, Nat.one_mul] at this
    exact this
  refine ⟨g, o, cap, (C.drop (j * tys.length)).take tys.length, e, OutK.one (by rw [List.length_take, List.length_drop]; omega) fun m hm => ?_, hg, hlt, fun m u hm => ?_⟩
  · obtain ⟨y, hy, hr⟩ := hC.2 j c hc m hm
    exact ⟨y, by rw [List.getElem?_take_of_lt hm, List.getElem?_drop]; exact hy, hr⟩
  · have hml : m < tys.length := by have := (List.getElem?_eq_some_iff.1 hm).1; rw [List.length_take] at this; omega
    rw [List.getElem?_take_of_lt hml, List.getElem?_drop] at hm
    rw [Nat.add_assoc]
    exact hcell _ u hm
theorem OutE.later {w0 w w' : World} {B : Nat} {v : Value} {L : List Nd} (h : OutE w0 w B v L) (hb : Below w.heap.size w w') : OutE w0 w' B v L := by
  obtain ⟨C, hC, hP⟩ := h
  refine ⟨C, ⟨hC.1, hC.2.imp id ?_⟩, hP⟩
  rintro ⟨g, cap, cur, e, hg, hrow, hr⟩
  exact ⟨g, cap, cur, e, hg, (hb.block g (Array.getElem?_eq_some_iff.1 hrow).1).trans hrow, hr⟩
/-- the query's box and the list so far -/
structure LY (w0 W wr : World) (arr : Array Value) (out : Value) (L : List Nd) : Prop where
  box : RowAt wr W.heap.size 38 arr
  own : OutE w0 wr (W.heap.size + 1) out L
  b : Below W.heap.size W wr
  b0 : Below w0.heap.size w0 wr
theorem LY.app {w0 W wr w' : World} {arr : Array Value} {out out' : Value} {L L' : List Nd} (H : LY w0 W wr arr out L) (h : OutE w0 w' (W.heap.size + 1) out' L') (hb : Below (W.heap.size + 1) wr w') (hz : w0.heap.size ≤ W.heap.size := by assumption) : LY w0 W w' arr out' L' :=
  ⟨(hb.block _ (Nat.lt_succ_self _)).trans H.box, h, H.b.trans (hb.mono (Nat.le_succ _)), H.b0.trans (hb.mono (Nat.le_succ_of_le hz))⟩
theorem LY.sz {w0 W wr : World} {arr : Array Value} {out : Value} {L : List Nd} (H : LY w0 W wr arr out L) : W.heap.size + 1 ≤ wr.heap.size := H.box.lt
theorem LY.next {w0 W wr w' : World} {arr : Array Value} {out : Value} {L : List Nd} (H : LY w0 W wr arr out L) (h : Below wr.heap.size wr w') : LY w0 W w' arr out L :=
  ⟨H.box.later h, H.own.later h, H.b.trans (h.mono H.b.size), H.b0.trans (h.mono H.b0.size)⟩
set_option maxRecDepth 100000 in
set_option maxHeartbeats 8000000 in
theorem slots_any (w0 W : World) (c0 : Bool) (a1 : Option Addr) (p1 : Nat) (L1 : List Nd) (a2 : Option Addr) (n2 p2 : Nat) (a3 : Option Addr) (n3 p3 : Nat) (a4 : Option Addr) (n4 p4 : Nat) (c5 : Int) (f2 f3 f4 : Nat → Nat → Dat)
    (hb0 : Below w0.heap.size w0 W) (h1 : LK (rowTy .items) w0 W (fun _ => True) (.slice a1 L1.length p1) L1) (r2 : Rd w0 0 (.slice a2 n2 p2) (.sl n2 3 f2)) (q2 : Fits (.sl n2 3 f2) .sources)
    (r3 : Rd w0 0 (.slice a3 n3 p3) (.sl n3 10 f3)) (q3 : Fits (.sl n3 10 f3) .exprs) (r4 : Rd w0 0 (.slice a4 n4 p4) (.sl n4 11 f4)) (q4 : Fits (.sl n4 11 f4) .keys)
    (hN : L1.length + (exFrom (.sl n2 3 f2)).length + n3 + n4 ≤ 1048576) :
    Calls Try.prog 80 #[.agg #[.bool c0, .slice a1 L1.length p1, .slice a2 n2 p2, .slice a3 n3 p3, .slice a4 n4 p4, .int .i64 c5]] W fun e w' => ∃ v, e = .returned v ∧ OutE w0 w' (W.heap.size + 1) v (((L1.map (cut 2) ++ exFrom (.sl n2 3 f2)) ++ (Dat.sl n3 10 f3).els) ++ (Dat.sl n4 11 f4).els) ∧ Below W.heap.size W w' := by
  have hz0 := hb0.size
  have H0 : LY w0 W (W.alloc (.cells #[.bool c0, .slice a1 L1.length p1, .slice a2 n2 p2, .slice a3 n3 p3, .slice a4 n4 p4, .int .i64 c5] 38)) #[.bool c0, .slice a1 L1.length p1, .slice a2 n2 p2, .slice a3 n3 p3, .slice a4 n4 p4, .int .i64 c5] (.slice none 0 0) ((L1.take 0).map (cut 2)) :=
    ⟨RowAt.new W _ _, ⟨[], World.ownsRow_nil _ _ _ _, OutP.nil w0⟩, (Below.refl _ _).alloc (Nat.le_refl _) _, hb0.alloc hb0.size _⟩
  have HN := Lib.hid hN
  clear hN
  have hn1 : L1.length ≤ 9223372036854775807 := by have := HN.out; omega
  have hn2 := q2.2.1
  have hn3 := q3.2.1
  have hn4 := q4.2.1
  have b1 := H0.box.cell (i := 1) (v := .slice a1 L1.length p1) rfl
  go_enter Try.func80, Try.ntmps80
  go_wp2_with fail
  generalize W.alloc (.cells #[.bool c0, .slice a1 L1.length p1, .slice a2 n2 p2, .slice a3 n3 p3, .slice a4 n4 p4, .int .i64 c5] 38) = w1 at H0 ⊢
  clear b1
  go_loopw [3, 13] (fun out i wr => ∃ (j : Nat) (v : Value), j ≤ L1.length ∧ i = .int .i64 (j : Int) ∧ v = out ∧ LY w0 W wr #[.bool c0, .slice a1 L1.length p1, .slice a2 n2 p2, .slice a3 n3 p3, .slice a4 n4 p4, .int .i64 c5] v ((L1.take j).map (cut 2))) (fun _ i _ => L1.length - (intOf i).toNat)
  case atStart => exact ⟨0, _, by omega, rfl, rfl, H0⟩
  case round =>
    obtain ⟨j, v, hj, rfl, rfl, H⟩ := hrel
    by_cases hlt : j < L1.length
    · have hlt2 : (j : Int) < (L1.length : Int) := by omega
      obtain ⟨g, o, cap, ys, hv, hys, -, hg, hcell⟩ := h1.at (List.getElem?_eq_getElem hlt)
      injection hv with e1 _ e3
      subst e1; subst e3
      obtain ⟨x0, x1, x2, x3, x4, x5, x6, x7, x8, x9, ax10, nx10, px10, ax11, nx11, px11, x12, rfl, e0, ⟨e1, b1⟩, ⟨e2, b2⟩, ⟨e3, b3⟩, e4, ⟨e5, b5⟩, ⟨e6, b6⟩, ⟨e7, b7⟩, ⟨e8, b8⟩, ⟨e9, b9⟩, ⟨r10, q10⟩, ⟨r11, q11⟩, ⟨e12, b12⟩⟩ := hys.itemRow
      have z0 : wr.cell? ⟨g, o + j * 13, none⟩ = some (.bool x0) := (H.b.cell (p := ⟨g, o + j * 13, none⟩) hg).trans (hcell 0 _ rfl)
      have z1 : wr.cell? ⟨g, o + j * 13 + 1, none⟩ = some (.string x1) := (H.b.cell (p := ⟨g, o + j * 13 + 1, none⟩) hg).trans (hcell 1 _ rfl)
      have z2 : wr.cell? ⟨g, o + j * 13 + 2, none⟩ = some (.int .i64 x2) := (H.b.cell (p := ⟨g, o + j * 13 + 2, none⟩) hg).trans (hcell 2 _ rfl)
      have z3 : wr.cell? ⟨g, o + j * 13 + 3, none⟩ = some (.int .i64 x3) := (H.b.cell (p := ⟨g, o + j * 13 + 3, none⟩) hg).trans (hcell 3 _ rfl)
      have z4 : wr.cell? ⟨g, o + j * 13 + 4, none⟩ = some (.bool x4) := (H.b.cell (p := ⟨g, o + j * 13 + 4, none⟩) hg).trans (hcell 4 _ rfl)
      have z5 : wr.cell? ⟨g, o + j * 13 + 5, none⟩ = some (.int .i64 x5) := (H.b.cell (p := ⟨g, o + j * 13 + 5, none⟩) hg).trans (hcell 5 _ rfl)
      have z6 : wr.cell? ⟨g, o + j * 13 + 6, none⟩ = some (.int .i64 x6) := (H.b.cell (p := ⟨g, o + j * 13 + 6, none⟩) hg).trans (hcell 6 _ rfl)
      have z7 : wr.cell? ⟨g, o + j * 13 + 7, none⟩ = some (.string x7) := (H.b.cell (p := ⟨g, o + j * 13 + 7, none⟩) hg).trans (hcell 7 _ rfl)
      have z8 : wr.cell? ⟨g, o + j * 13 + 8, none⟩ = some (.string x8) := (H.b.cell (p := ⟨g, o + j * 13 + 8, none⟩) hg).trans (hcell 8 _ rfl)
      have z9 : wr.cell? ⟨g, o + j * 13 + 9, none⟩ = some (.string x9) := (H.b.cell (p := ⟨g, o + j * 13 + 9, none⟩) hg).trans (hcell 9 _ rfl)
      have z10 : wr.cell? ⟨g, o + j * 13 + 10, none⟩ = some (.slice ax10 nx10 px10) := (H.b.cell (p := ⟨g, o + j * 13 + 10, none⟩) hg).trans (hcell 10 _ rfl)
      have z11 : wr.cell? ⟨g, o + j * 13 + 11, none⟩ = some (.slice ax11 nx11 px11) := (H.b.cell (p := ⟨g, o + j * 13 + 11, none⟩) hg).trans (hcell 11 _ rfl)
      have z12 : wr.cell? ⟨g, o + j * 13 + 12, none⟩ = some (.string x12) := (H.b.cell (p := ⟨g, o + j * 13 + 12, none⟩) hg).trans (hcell 12 _ rfl)
      clear hcell
      have hc : OutP w0 [.int .i64 x2, .int .i64 x3, .bool x4, .int .i64 x5, .int .i64 x6, .string x7, .string x8, .string x9, .slice ax10 nx10 px10, .slice ax11 nx11 px11] [cut 2 L1[j]] := OutP.one rfl (fun m hm => match m, hm with
          | 0, _ => ⟨_, rfl, by show Rd w0 0 _ (L1[j] 2); rw [e2]; rfl, by show Fits (L1[j] 2) _; rw [e2]; exact ⟨_, rfl, b2⟩⟩
          | 1, _ => ⟨_, rfl, by show Rd w0 0 _ (L1[j] 3); rw [e3]; rfl, by show Fits (L1[j] 3) _; rw [e3]; exact ⟨_, rfl, b3⟩⟩
          | 2, _ => ⟨_, rfl, by show Rd w0 0 _ (L1[j] 4); rw [e4]; rfl, by show Fits (L1[j] 4) _; rw [e4]; exact ⟨_, rfl⟩⟩
          | 3, _ => ⟨_, rfl, by show Rd w0 0 _ (L1[j] 5); rw [e5]; rfl, by show Fits (L1[j] 5) _; rw [e5]; exact ⟨_, rfl, b5⟩⟩
          | 4, _ => ⟨_, rfl, by show Rd w0 0 _ (L1[j] 6); rw [e6]; rfl, by show Fits (L1[j] 6) _; rw [e6]; exact ⟨_, rfl, b6⟩⟩
          | 5, _ => ⟨_, rfl, by show Rd w0 0 _ (L1[j] 7); rw [e7]; rfl, by show Fits (L1[j] 7) _; rw [e7]; exact ⟨_, rfl, b7⟩⟩
          | 6, _ => ⟨_, rfl, by show Rd w0 0 _ (L1[j] 8); rw [e8]; rfl, by show Fits (L1[j] 8) _; rw [e8]; exact ⟨_, rfl, b8⟩⟩
          | 7, _ => ⟨_, rfl, by show Rd w0 0 _ (L1[j] 9); rw [e9]; rfl, by show Fits (L1[j] 9) _; rw [e9]; exact ⟨_, rfl, b9⟩⟩
          | 8, _ => ⟨_, rfl, by exact r10, by exact q10⟩
          | 9, _ => ⟨_, rfl, by exact r11, by exact q11⟩
          | m + 10, hm => absurd hm (by simp [exprTy]))
      have HC := Lib.hid hc
      have hs : (L1.take (j + 1)).map (cut 2) = (L1.take j).map (cut 2) ++ [cut 2 L1[j]] := by rw [take_next (List.getElem?_eq_getElem hlt), List.map_append]; rfl
      have HS := Lib.hid hs
      have hl : ((L1.take j).map (cut 2)).length ≤ 4000000 := by have := HN.out; rw [List.length_map, List.length_take]; omega
      have H1 := H.next ((Below.refl _ wr).alloc (Nat.le_refl _) (.cells #[.bool x0, .string x1, .int .i64 x2, .int .i64 x3, .bool x4, .int .i64 x5, .int .i64 x6, .string x7, .string x8, .string x9, .slice ax10 nx10 px10, .slice ax11 nx11 px11, .string x12] 102))
      clear hc hs e0 e1 b1 e2 b2 e3 b3 e4 e5 b5 e6 b6 e7 b7 e8 b8 e9 b9 r10 q10 r11 q11 e12 b12
      go_wp2_with (at_builtin; refine appE rfl (.tmp 17) (.tmp 20) rfl w0 (W.heap.size + 1) v ((L1.take j).map (cut 2)) (cut 2 L1[j]) #[.int .i64 x2, .int .i64 x3, .bool x4, .int .i64 x5, .int .i64 x6, .string x7, .string x8, .string x9, .slice ax10 nx10 px10, .slice ax11 nx11 px11] (wr.alloc (.cells #[.bool x0, .string x1, .int .i64 x2, .int .i64 x3, .bool x4, .int .i64 x5, .int .i64 x6, .string x7, .string x8, .string x9, .slice ax10 nx10 px10, .slice ax11 nx11 px11, .string x12] 102)) (wr.heap.size + 1) (by simp) rfl rfl H1.own HC.out hl H1.sz ?_; intro v' w' hown' hb')
      have H2 := H1.app hown' hb'
      rw [← HS.out] at H2
      go_roundw
      case rel => exact ⟨j + 1, _, by omega, by go_num, rfl, H2⟩
      case measure => simp [intOf]; omega
    · obtain rfl : j = L1.length := by omega
      clear hlt hj
      rw [List.take_length] at H
      have bx := H.box.cell (i := 2) (v := .slice a2 n2 p2) rfl
      go_wp2_with fail
      clear bx
      go_loopw [3, 26] (fun out i wr => ∃ (j : Nat) (v : Value), j ≤ n2 ∧ i = .int .i64 (j : Int) ∧ v = out ∧ LY w0 W wr #[.bool c0, .slice a1 L1.length p1, .slice a2 n2 p2, .slice a3 n3 p3, .slice a4 n4 p4, .int .i64 c5] v ((L1.map (cut 2)) ++ exFrom (.sl j 3 f2))) (fun _ i _ => n2 - (intOf i).toNat)
      case atStart => exact ⟨0, _, by omega, rfl, rfl, by show LY w0 W _ _ _ (_ ++ []); rw [List.append_nil]; exact H⟩
      case round =>
        obtain ⟨j, v, hj, rfl, rfl, H⟩ := hrel
        by_cases hlt : j < n2
        · have hlt2 : (j : Int) < (n2 : Int) := by omega
          obtain ⟨g, o, rfl, -, hg, x0, x1, x2, ⟨z0, z1, z2⟩, ⟨⟨e0, b0⟩, ⟨e1, b1⟩, ⟨r2_, q2_⟩⟩⟩ := row_sources r2 q2 hlt
          replace z0 := (H.b0.cell (p := ⟨g, o + j * 3, none⟩) hg).trans z0
          replace z1 := (H.b0.cell (p := ⟨g, o + j * 3 + 1, none⟩) hg).trans z1
          replace z2 := (H.b0.cell (p := ⟨g, o + j * 3 + 2, none⟩) hg).trans z2
          obtain ⟨nn, kk, ff, hsl⟩ := q2_.deep rfl
          obtain ⟨ya, yn, yc, rfl⟩ := r2_.slice_of q2_ rfl
          have hs : (L1.map (cut 2)) ++ exFrom (.sl (j + 1) 3 f2) = ((L1.map (cut 2)) ++ exFrom (.sl j 3 f2)) ++ (Dat.sl nn kk ff).els := by rw [exFrom_succ, hsl, List.append_assoc]
          have hl : ((L1.map (cut 2)) ++ exFrom (.sl j 3 f2)).length ≤ 1048576 ∧ nn ≤ 1048576 := by
            have h1 := exFrom_mono 3 f2 (show j + 1 ≤ n2 by omega)
            have h2 := HN.out
            rw [exFrom_succ, hsl, List.length_append, els_len] at h1
            rw [List.length_append, List.length_map]
            omega
          rw [hsl] at r2_ q2_
          have HS := Lib.hid hs
          obtain ⟨hl1, hl2⟩ := hl
          have H1 := H.next ((Below.refl _ wr).alloc (Nat.le_refl _) (.cells #[.string x0, .string x1, .slice ya yn yc] 104))
          clear hs hsl e0 e1
          go_wp2_with (at_builtin; refine appM rfl (.tmp 30) (.tmp 32) rfl w0 (W.heap.size + 1) v ((L1.map (cut 2)) ++ exFrom (.sl j 3 f2)) ya yn yc nn kk ff (wr.alloc (.cells #[.string x0, .string x1, .slice ya yn yc] 104)) rfl rfl H1.own r2_ q2_ H1.b0 (by omega) (by omega) H1.sz ?_; intro v' w' hown' hb')
          have H2 := H1.app hown' hb'
          rw [← HS.out] at H2
          go_roundw
          case rel => exact ⟨j + 1, _, by omega, by go_num, rfl, H2⟩
          case measure => simp [intOf]; omega
        · obtain rfl : n2 = j := by omega
          clear hlt hj
          have hl : ((L1.map (cut 2)) ++ exFrom (.sl n2 3 f2)).length ≤ 1048576 ∧ n3 ≤ 1048576 := by
            have h2 := HN.out
            rw [List.length_append, List.length_map]
            omega
          obtain ⟨hl1, hl2⟩ := hl
          have b3 := H.box.cell (i := 3) (v := .slice a3 n3 p3) rfl
          have b4 := H.box.cell (i := 4) (v := .slice a4 n4 p4) rfl
          go_wp2_with (at_builtin; refine appM rfl (.tmp 35) (.tmp 37) rfl w0 (W.heap.size + 1) v ((L1.map (cut 2)) ++ exFrom (.sl n2 3 f2)) a3 n3 p3 n3 10 f3 _ rfl rfl H.own r3 q3 H.b0 (by omega) (by omega) H.sz ?_; intro v' w' hown' hb'; replace H : LY w0 W w' #[.bool c0, .slice a1 L1.length p1, .slice a2 n2 p2, .slice a3 n3 p3, .slice a4 n4 p4, .int .i64 c5] v' (((L1.map (cut 2)) ++ exFrom (.sl n2 3 f2)) ++ (Dat.sl n3 10 f3).els) := H.app hown' hb'; replace b4 := H.box.cell (i := 4) (v := .slice a4 n4 p4) rfl; clear hown' hb' b3)
          clear hl1 hl2 b4
          go_loopw [3, 42] (fun out i wr => ∃ (j : Nat) (v : Value), j ≤ n4 ∧ i = .int .i64 (j : Int) ∧ v = out ∧ LY w0 W wr #[.bool c0, .slice a1 L1.length p1, .slice a2 n2 p2, .slice a3 n3 p3, .slice a4 n4 p4, .int .i64 c5] v ((((L1.map (cut 2)) ++ exFrom (.sl n2 3 f2)) ++ (Dat.sl n3 10 f3).els) ++ (Dat.sl j 11 f4).els)) (fun _ i _ => n4 - (intOf i).toNat)
          case atStart => exact ⟨0, _, by omega, rfl, rfl, by show LY w0 W _ _ _ (_ ++ []); rw [List.append_nil]; exact H⟩
          case round =>
            obtain ⟨j, v, hj, rfl, rfl, H⟩ := hrel
            by_cases hlt : j < n4
            · have hlt2 : (j : Int) < (n4 : Int) := by omega
              obtain ⟨g, o, rfl, -, hg, x0, x1, x2, x3, x4, x5, x6, x7, x8, x9, x10, ⟨z0, z1, z2, z3, z4, z5, z6, z7, z8, z9, z10⟩, ⟨⟨e0, b0⟩, ⟨e1, b1⟩, e2, ⟨e3, b3⟩, ⟨e4, b4⟩, ⟨e5, b5⟩, ⟨e6, b6⟩, ⟨e7, b7⟩, ⟨r8_, q8_⟩, ⟨r9_, q9_⟩, e10⟩⟩ := row_keys r4 q4 hlt
              replace z0 := (H.b0.cell (p := ⟨g, o + j * 11, none⟩) hg).trans z0
              replace z1 := (H.b0.cell (p := ⟨g, o + j * 11 + 1, none⟩) hg).trans z1
              replace z2 := (H.b0.cell (p := ⟨g, o + j * 11 + 2, none⟩) hg).trans z2
              replace z3 := (H.b0.cell (p := ⟨g, o + j * 11 + 3, none⟩) hg).trans z3
              replace z4 := (H.b0.cell (p := ⟨g, o + j * 11 + 4, none⟩) hg).trans z4
              replace z5 := (H.b0.cell (p := ⟨g, o + j * 11 + 5, none⟩) hg).trans z5
              replace z6 := (H.b0.cell (p := ⟨g, o + j * 11 + 6, none⟩) hg).trans z6
              replace z7 := (H.b0.cell (p := ⟨g, o + j * 11 + 7, none⟩) hg).trans z7
              replace z8 := (H.b0.cell (p := ⟨g, o + j * 11 + 8, none⟩) hg).trans z8
              replace z9 := (H.b0.cell (p := ⟨g, o + j * 11 + 9, none⟩) hg).trans z9
              replace z10 := (H.b0.cell (p := ⟨g, o + j * 11 + 10, none⟩) hg).trans z10
              obtain ⟨ya, yn, yc, rfl⟩ := r8_.slice_of q8_ rfl
              obtain ⟨za, zn, zc, rfl⟩ := r9_.slice_of q9_ rfl
              have hs : (((L1.map (cut 2)) ++ exFrom (.sl n2 3 f2)) ++ (Dat.sl n3 10 f3).els) ++ (Dat.sl (j + 1) 11 f4).els = ((((L1.map (cut 2)) ++ exFrom (.sl n2 3 f2)) ++ (Dat.sl n3 10 f3).els) ++ (Dat.sl j 11 f4).els) ++ [f4 j] := by rw [els_succ, ← List.append_assoc]
              have hl : ((((L1.map (cut 2)) ++ exFrom (.sl n2 3 f2)) ++ (Dat.sl n3 10 f3).els) ++ (Dat.sl j 11 f4).els).length ≤ 1048576 := by
                have h2 := HN.out
                simp only [List.length_append, els_len, List.length_map]
                omega
              have HS := Lib.hid hs
              have hc : OutP w0 [.int .i64 x0, .int .i64 x1, .bool x2, .int .i64 x3, .int .i64 x4, .string x5, .string x6, .string x7, .slice ya yn yc, .slice za zn zc] [f4 j] := OutP.one rfl (fun m hm => match m, hm with
                  | 0, _ => ⟨_, rfl, by show Rd w0 0 _ (f4 j 0); rw [e0]; rfl, q4.2.2.2 j hlt 0 (by decide)⟩
                  | 1, _ => ⟨_, rfl, by show Rd w0 0 _ (f4 j 1); rw [e1]; rfl, q4.2.2.2 j hlt 1 (by decide)⟩
                  | 2, _ => ⟨_, rfl, by show Rd w0 0 _ (f4 j 2); rw [e2]; rfl, q4.2.2.2 j hlt 2 (by decide)⟩
                  | 3, _ => ⟨_, rfl, by show Rd w0 0 _ (f4 j 3); rw [e3]; rfl, q4.2.2.2 j hlt 3 (by decide)⟩
                  | 4, _ => ⟨_, rfl, by show Rd w0 0 _ (f4 j 4); rw [e4]; rfl, q4.2.2.2 j hlt 4 (by decide)⟩
                  | 5, _ => ⟨_, rfl, by show Rd w0 0 _ (f4 j 5); rw [e5]; rfl, q4.2.2.2 j hlt 5 (by decide)⟩
                  | 6, _ => ⟨_, rfl, by show Rd w0 0 _ (f4 j 6); rw [e6]; rfl, q4.2.2.2 j hlt 6 (by decide)⟩
                  | 7, _ => ⟨_, rfl, by show Rd w0 0 _ (f4 j 7); rw [e7]; rfl, q4.2.2.2 j hlt 7 (by decide)⟩
                  | 8, _ => ⟨_, rfl, by exact r8_, q4.2.2.2 j hlt 8 (by decide)⟩
                  | 9, _ => ⟨_, rfl, by exact r9_, q4.2.2.2 j hlt 9 (by decide)⟩
                  | m + 10, hm => absurd hm (by simp [exprTy]))
              have HC := Lib.hid hc
              have H1 := H.next ((Below.refl _ wr).alloc (Nat.le_refl _) (.cells #[.int .i64 x0, .int .i64 x1, .bool x2, .int .i64 x3, .int .i64 x4, .string x5, .string x6, .string x7, .slice ya yn yc, .slice za zn zc, .bool x10] 106))
              clear hs hc e0 e1 e2 e3 e4 e5 e6 e7 e10 r8_ r9_
              go_wp2_with (at_builtin; refine appE rfl (.tmp 46) (.tmp 49) rfl w0 (W.heap.size + 1) v ((((L1.map (cut 2)) ++ exFrom (.sl n2 3 f2)) ++ (Dat.sl n3 10 f3).els) ++ (Dat.sl j 11 f4).els) (f4 j) #[.int .i64 x0, .int .i64 x1, .bool x2, .int .i64 x3, .int .i64 x4, .string x5, .string x6, .string x7, .slice ya yn yc, .slice za zn zc] (wr.alloc (.cells #[.int .i64 x0, .int .i64 x1, .bool x2, .int .i64 x3, .int .i64 x4, .string x5, .string x6, .string x7, .slice ya yn yc, .slice za zn zc, .bool x10] 106)) (wr.heap.size + 1) (by simp) rfl rfl H1.own HC.out (by omega) H1.sz ?_; intro v' w' hown' hb')
              have H2 := H1.app hown' hb'
              rw [← HS.out] at H2
              go_roundw
              case rel => exact ⟨j + 1, _, by omega, by go_num, rfl, H2⟩
              case measure => simp [intOf]; omega
            · obtain rfl : n4 = j := by omega
              clear hlt hj
              go_wp2_with fail
              go_ret
              exact ⟨v, rfl, H.own, H.b⟩
end Go.Proofs.Ytgihklohhjhjbaa
