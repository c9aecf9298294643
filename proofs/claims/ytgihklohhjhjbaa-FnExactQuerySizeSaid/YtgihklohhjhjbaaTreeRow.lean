
/- The elements of trees' slices, cell by cell. -/
import Derived.Test.YtgihklohhjhjbaaDat
namespace Go.Proofs.Ytgihklohhjhjbaa
open Go.RowKit

theorem Fits.int {d : Dat} (h : Fits d .int) : ∃ n : Int, d = .v (.int .i64 n) ∧ -9223372036854775808 ≤ n ∧ n ≤ 9223372036854775807 := by
  cases d with
  | v x => obtain ⟨n, rfl, h1⟩ := h; exact ⟨n, rfl, h1⟩
  | sl n k f => exact absurd h.1 (by decide)
theorem Fits.bool {d : Dat} (h : Fits d .bool) : ∃ b : Bool, d = .v (.bool b) := by
  cases d with
  | v x => obtain ⟨n, rfl⟩ := h; exact ⟨n, rfl⟩
  | sl n k f => exact absurd h.1 (by decide)
theorem Fits.str {d : Dat} (h : Fits d .str) : ∃ s : ByteArray, d = .v (.string s) ∧ s.size ≤ 9223372036854775807 := by
  cases d with
  | v x => obtain ⟨n, rfl, h1⟩ := h; exact ⟨n, rfl, h1⟩
  | sl n k f => exact absurd h.1 (by decide)
theorem Fits.deep {d : Dat} {ty : Ty} (h : Fits d ty) (hd : deep ty = true) : ∃ (n k : Nat) (f : Nat → Nat → Dat), d = .sl n k f := by
  cases d with
  | v x => cases ty <;> first | (cases hd; done) | exact h.elim
  | sl n k f => exact ⟨n, k, f, rfl⟩
/-- a cell that holds a slice -/
theorem Rd.slice_of {w : World} {L : Nat} {d : Dat} {x : Value} {ty : Ty} (h : Rd w L x d) (hf : Fits d ty) (hd : Go.Proofs.Ytgihklohhjhjbaa.deep ty = true) : ∃ (a : Option Addr) (n cap : Nat), x = .slice a n cap := by
  obtain ⟨n, k, f, rfl⟩ := hf.deep hd
  obtain ⟨a, cap, e, _⟩ := h
  exact ⟨a, n, cap, e⟩
theorem row_exprs {w : World} {L n k m : Nat} {f : Nat → Nat → Dat} {a : Option Addr} {cap : Nat} (h : Rd w L (.slice a m cap) (.sl n k f)) (hf : Fits (.sl n k f) .exprs) {i : Nat} (hi : i < n) :
    ∃ (g o : Nat), a = some ⟨g, o, none⟩ ∧ L ≤ g ∧ g < w.heap.size ∧ ∃ (c0 : Int) (c1 : Int) (c2 : Bool) (c3 : Int) (c4 : Int) (c5 : ByteArray) (c6 : ByteArray) (c7 : ByteArray) (c8 : Value) (c9 : Value),
      (w.cell? ⟨g, o + i * 10, none⟩ = some (.int .i64 c0) ∧ w.cell? ⟨g, o + i * 10 + 1, none⟩ = some (.int .i64 c1) ∧ w.cell? ⟨g, o + i * 10 + 2, none⟩ = some (.bool c2) ∧ w.cell? ⟨g, o + i * 10 + 3, none⟩ = some (.int .i64 c3) ∧ w.cell? ⟨g, o + i * 10 + 4, none⟩ = some (.int .i64 c4) ∧ w.cell? ⟨g, o + i * 10 + 5, none⟩ = some (.string c5) ∧ w.cell? ⟨g, o + i * 10 + 6, none⟩ = some (.string c6) ∧ w.cell? ⟨g, o + i * 10 + 7, none⟩ = some (.string c7) ∧ w.cell? ⟨g, o + i * 10 + 8, none⟩ = some (c8) ∧ w.cell? ⟨g, o + i * 10 + 9, none⟩ = some (c9)) ∧
      ((f i 0 = .v (.int .i64 c0) ∧ -9223372036854775808 ≤ c0 ∧ c0 ≤ 9223372036854775807) ∧ (f i 1 = .v (.int .i64 c1) ∧ -9223372036854775808 ≤ c1 ∧ c1 ≤ 9223372036854775807) ∧ f i 2 = .v (.bool c2) ∧ (f i 3 = .v (.int .i64 c3) ∧ -9223372036854775808 ≤ c3 ∧ c3 ≤ 9223372036854775807) ∧ (f i 4 = .v (.int .i64 c4) ∧ -9223372036854775808 ≤ c4 ∧ c4 ≤ 9223372036854775807) ∧ (f i 5 = .v (.string c5) ∧ c5.size ≤ 9223372036854775807) ∧ (f i 6 = .v (.string c6) ∧ c6.size ≤ 9223372036854775807) ∧ (f i 7 = .v (.string c7) ∧ c7.size ≤ 9223372036854775807) ∧ (Rd w L c8 (f i 8) ∧ Fits (f i 8) .exprs) ∧ (Rd w L c9 (f i 9) ∧ Fits (f i 9) .queries)) := by
  obtain ⟨_, _, hk, hfit⟩ := hf
  obtain rfl : k = 10 := hk
  obtain ⟨_, g, o, ea, hL, hg, hc⟩ := h.elem hi
  obtain ⟨y0, z0, r0⟩ := hc 0 (by decide)
  have f0 : Fits (f i 0) .int := hfit i hi 0 (by decide)
  obtain ⟨c0, e0, b0⟩ := f0.int
  rw [e0] at r0
  obtain rfl : y0 = .int .i64 c0 := r0
  obtain ⟨y1, z1, r1⟩ := hc 1 (by decide)
  have f1 : Fits (f i 1) .int := hfit i hi 1 (by decide)
  obtain ⟨c1, e1, b1⟩ := f1.int
  rw [e1] at r1
  obtain rfl : y1 = .int .i64 c1 := r1
  obtain ⟨y2, z2, r2⟩ := hc 2 (by decide)
  have f2 : Fits (f i 2) .bool := hfit i hi 2 (by decide)
  obtain ⟨c2, e2⟩ := f2.bool
  rw [e2] at r2
  obtain rfl : y2 = .bool c2 := r2
  obtain ⟨y3, z3, r3⟩ := hc 3 (by decide)
  have f3 : Fits (f i 3) .int := hfit i hi 3 (by decide)
  obtain ⟨c3, e3, b3⟩ := f3.int
  rw [e3] at r3
  obtain rfl : y3 = .int .i64 c3 := r3
  obtain ⟨y4, z4, r4⟩ := hc 4 (by decide)
  have f4 : Fits (f i 4) .int := hfit i hi 4 (by decide)
  obtain ⟨c4, e4, b4⟩ := f4.int
  rw [e4] at r4
  obtain rfl : y4 = .int .i64 c4 := r4
  obtain ⟨y5, z5, r5⟩ := hc 5 (by decide)
  have f5 : Fits (f i 5) .str := hfit i hi 5 (by decide)
  obtain ⟨c5, e5, b5⟩ := f5.str
  rw [e5] at r5
  obtain rfl : y5 = .string c5 := r5
  obtain ⟨y6, z6, r6⟩ := hc 6 (by decide)
  have f6 : Fits (f i 6) .str := hfit i hi 6 (by decide)
  obtain ⟨c6, e6, b6⟩ := f6.str
  rw [e6] at r6
  obtain rfl : y6 = .string c6 := r6
  obtain ⟨y7, z7, r7⟩ := hc 7 (by decide)
  have f7 : Fits (f i 7) .str := hfit i hi 7 (by decide)
  obtain ⟨c7, e7, b7⟩ := f7.str
  rw [e7] at r7
  obtain rfl : y7 = .string c7 := r7
  obtain ⟨y8, z8, r8⟩ := hc 8 (by decide)
  have f8 : Fits (f i 8) .exprs := hfit i hi 8 (by decide)
  obtain ⟨y9, z9, r9⟩ := hc 9 (by decide)
  have f9 : Fits (f i 9) .queries := hfit i hi 9 (by decide)
  exact ⟨g, o, ea, hL, hg, c0, c1, c2, c3, c4, c5, c6, c7, y8, y9, ⟨z0, z1, z2, z3, z4, z5, z6, z7, z8, z9⟩, ⟨⟨e0, b0⟩, ⟨e1, b1⟩, e2, ⟨e3, b3⟩, ⟨e4, b4⟩, ⟨e5, b5⟩, ⟨e6, b6⟩, ⟨e7, b7⟩, ⟨r8, f8⟩, ⟨r9, f9⟩⟩⟩
theorem row_items {w : World} {L n k m : Nat} {f : Nat → Nat → Dat} {a : Option Addr} {cap : Nat} (h : Rd w L (.slice a m cap) (.sl n k f)) (hf : Fits (.sl n k f) .items) {i : Nat} (hi : i < n) :
    ∃ (g o : Nat), a = some ⟨g, o, none⟩ ∧ L ≤ g ∧ g < w.heap.size ∧ ∃ (c0 : Bool) (c1 : ByteArray) (c2 : Int) (c3 : Int) (c4 : Bool) (c5 : Int) (c6 : Int) (c7 : ByteArray) (c8 : ByteArray) (c9 : ByteArray) (c10 : Value) (c11 : Value) (c12 : ByteArray),
      (w.cell? ⟨g, o + i * 13, none⟩ = some (.bool c0) ∧ w.cell? ⟨g, o + i * 13 + 1, none⟩ = some (.string c1) ∧ w.cell? ⟨g, o + i * 13 + 2, none⟩ = some (.int .i64 c2) ∧ w.cell? ⟨g, o + i * 13 + 3, none⟩ = some (.int .i64 c3) ∧ w.cell? ⟨g, o + i * 13 + 4, none⟩ = some (.bool c4) ∧ w.cell? ⟨g, o + i * 13 + 5, none⟩ = some (.int .i64 c5) ∧ w.cell? ⟨g, o + i * 13 + 6, none⟩ = some (.int .i64 c6) ∧ w.cell? ⟨g, o + i * 13 + 7, none⟩ = some (.string c7) ∧ w.cell? ⟨g, o + i * 13 + 8, none⟩ = some (.string c8) ∧ w.cell? ⟨g, o + i * 13 + 9, none⟩ = some (.string c9) ∧ w.cell? ⟨g, o + i * 13 + 10, none⟩ = some (c10) ∧ w.cell? ⟨g, o + i * 13 + 11, none⟩ = some (c11) ∧ w.cell? ⟨g, o + i * 13 + 12, none⟩ = some (.string c12)) ∧
      (f i 0 = .v (.bool c0) ∧ (f i 1 = .v (.string c1) ∧ c1.size ≤ 9223372036854775807) ∧ (f i 2 = .v (.int .i64 c2) ∧ -9223372036854775808 ≤ c2 ∧ c2 ≤ 9223372036854775807) ∧ (f i 3 = .v (.int .i64 c3) ∧ -9223372036854775808 ≤ c3 ∧ c3 ≤ 9223372036854775807) ∧ f i 4 = .v (.bool c4) ∧ (f i 5 = .v (.int .i64 c5) ∧ -9223372036854775808 ≤ c5 ∧ c5 ≤ 9223372036854775807) ∧ (f i 6 = .v (.int .i64 c6) ∧ -9223372036854775808 ≤ c6 ∧ c6 ≤ 9223372036854775807) ∧ (f i 7 = .v (.string c7) ∧ c7.size ≤ 9223372036854775807) ∧ (f i 8 = .v (.string c8) ∧ c8.size ≤ 9223372036854775807) ∧ (f i 9 = .v (.string c9) ∧ c9.size ≤ 9223372036854775807) ∧ (Rd w L c10 (f i 10) ∧ Fits (f i 10) .exprs) ∧ (Rd w L c11 (f i 11) ∧ Fits (f i 11) .queries) ∧ (f i 12 = .v (.string c12) ∧ c12.size ≤ 9223372036854775807)) := by
  obtain ⟨_, _, hk, hfit⟩ := hf
  obtain rfl : k = 13 := hk
  obtain ⟨_, g, o, ea, hL, hg, hc⟩ := h.elem hi
  obtain ⟨y0, z0, r0⟩ := hc 0 (by decide)
  have f0 : Fits (f i 0) .bool := hfit i hi 0 (by decide)
  obtain ⟨c0, e0⟩ := f0.bool
  rw [e0] at r0
  obtain rfl : y0 = .bool c0 := r0
  obtain ⟨y1, z1, r1⟩ := hc 1 (by decide)
  have f1 : Fits (f i 1) .str := hfit i hi 1 (by decide)
  obtain ⟨c1, e1, b1⟩ := f1.str
  rw [e1] at r1
  obtain rfl : y1 = .string c1 := r1
  obtain ⟨y2, z2, r2⟩ := hc 2 (by decide)
  have f2 : Fits (f i 2) .int := hfit i hi 2 (by decide)
  obtain ⟨c2, e2, b2⟩ := f2.int
  rw [e2] at r2
  obtain rfl : y2 = .int .i64 c2 := r2
  obtain ⟨y3, z3, r3⟩ := hc 3 (by decide)
  have f3 : Fits (f i 3) .int := hfit i hi 3 (by decide)
  obtain ⟨c3, e3, b3⟩ := f3.int
  rw [e3] at r3
  obtain rfl : y3 = .int .i64 c3 := r3
  obtain ⟨y4, z4, r4⟩ := hc 4 (by decide)
  have f4 : Fits (f i 4) .bool := hfit i hi 4 (by decide)
  obtain ⟨c4, e4⟩ := f4.bool
  rw [e4] at r4
  obtain rfl : y4 = .bool c4 := r4
  obtain ⟨y5, z5, r5⟩ := hc 5 (by decide)
  have f5 : Fits (f i 5) .int := hfit i hi 5 (by decide)
  obtain ⟨c5, e5, b5⟩ := f5.int
  rw [e5] at r5
  obtain rfl : y5 = .int .i64 c5 := r5
  obtain ⟨y6, z6, r6⟩ := hc 6 (by decide)
  have f6 : Fits (f i 6) .int := hfit i hi 6 (by decide)
  obtain ⟨c6, e6, b6⟩ := f6.int
  rw [e6] at r6
  obtain rfl : y6 = .int .i64 c6 := r6
  obtain ⟨y7, z7, r7⟩ := hc 7 (by decide)
  have f7 : Fits (f i 7) .str := hfit i hi 7 (by decide)
  obtain ⟨c7, e7, b7⟩ := f7.str
  rw [e7] at r7
  obtain rfl : y7 = .string c7 := r7
  obtain ⟨y8, z8, r8⟩ := hc 8 (by decide)
  have f8 : Fits (f i 8) .str := hfit i hi 8 (by decide)
  obtain ⟨c8, e8, b8⟩ := f8.str
  rw [e8] at r8
  obtain rfl : y8 = .string c8 := r8
  obtain ⟨y9, z9, r9⟩ := hc 9 (by decide)
  have f9 : Fits (f i 9) .str := hfit i hi 9 (by decide)
  obtain ⟨c9, e9, b9⟩ := f9.str
  rw [e9] at r9
  obtain rfl : y9 = .string c9 := r9
  obtain ⟨y10, z10, r10⟩ := hc 10 (by decide)
  have f10 : Fits (f i 10) .exprs := hfit i hi 10 (by decide)
  obtain ⟨y11, z11, r11⟩ := hc 11 (by decide)
  have f11 : Fits (f i 11) .queries := hfit i hi 11 (by decide)
  obtain ⟨y12, z12, r12⟩ := hc 12 (by decide)
  have f12 : Fits (f i 12) .str := hfit i hi 12 (by decide)
  obtain ⟨c12, e12, b12⟩ := f12.str
  rw [e12] at r12
  obtain rfl : y12 = .string c12 := r12
  exact ⟨g, o, ea, hL, hg, c0, c1, c2, c3, c4, c5, c6, c7, c8, c9, y10, y11, c12, ⟨z0, z1, z2, z3, z4, z5, z6, z7, z8, z9, z10, z11, z12⟩, ⟨e0, ⟨e1, b1⟩, ⟨e2, b2⟩, ⟨e3, b3⟩, e4, ⟨e5, b5⟩, ⟨e6, b6⟩, ⟨e7, b7⟩, ⟨e8, b8⟩, ⟨e9, b9⟩, ⟨r10, f10⟩, ⟨r11, f11⟩, ⟨e12, b12⟩⟩⟩
theorem row_sources {w : World} {L n k m : Nat} {f : Nat → Nat → Dat} {a : Option Addr} {cap : Nat} (h : Rd w L (.slice a m cap) (.sl n k f)) (hf : Fits (.sl n k f) .sources) {i : Nat} (hi : i < n) :
    ∃ (g o : Nat), a = some ⟨g, o, none⟩ ∧ L ≤ g ∧ g < w.heap.size ∧ ∃ (c0 : ByteArray) (c1 : ByteArray) (c2 : Value),
      (w.cell? ⟨g, o + i * 3, none⟩ = some (.string c0) ∧ w.cell? ⟨g, o + i * 3 + 1, none⟩ = some (.string c1) ∧ w.cell? ⟨g, o + i * 3 + 2, none⟩ = some (c2)) ∧
      ((f i 0 = .v (.string c0) ∧ c0.size ≤ 9223372036854775807) ∧ (f i 1 = .v (.string c1) ∧ c1.size ≤ 9223372036854775807) ∧ (Rd w L c2 (f i 2) ∧ Fits (f i 2) .exprs)) := by
  obtain ⟨_, _, hk, hfit⟩ := hf
  obtain rfl : k = 3 := hk
  obtain ⟨_, g, o, ea, hL, hg, hc⟩ := h.elem hi
  obtain ⟨y0, z0, r0⟩ := hc 0 (by decide)
  have f0 : Fits (f i 0) .str := hfit i hi 0 (by decide)
  obtain ⟨c0, e0, b0⟩ := f0.str
  rw [e0] at r0
  obtain rfl : y0 = .string c0 := r0
  obtain ⟨y1, z1, r1⟩ := hc 1 (by decide)
  have f1 : Fits (f i 1) .str := hfit i hi 1 (by decide)
  obtain ⟨c1, e1, b1⟩ := f1.str
  rw [e1] at r1
  obtain rfl : y1 = .string c1 := r1
  obtain ⟨y2, z2, r2⟩ := hc 2 (by decide)
  have f2 : Fits (f i 2) .exprs := hfit i hi 2 (by decide)
  exact ⟨g, o, ea, hL, hg, c0, c1, y2, ⟨z0, z1, z2⟩, ⟨⟨e0, b0⟩, ⟨e1, b1⟩, ⟨r2, f2⟩⟩⟩
theorem row_keys {w : World} {L n k m : Nat} {f : Nat → Nat → Dat} {a : Option Addr} {cap : Nat} (h : Rd w L (.slice a m cap) (.sl n k f)) (hf : Fits (.sl n k f) .keys) {i : Nat} (hi : i < n) :
    ∃ (g o : Nat), a = some ⟨g, o, none⟩ ∧ L ≤ g ∧ g < w.heap.size ∧ ∃ (c0 : Int) (c1 : Int) (c2 : Bool) (c3 : Int) (c4 : Int) (c5 : ByteArray) (c6 : ByteArray) (c7 : ByteArray) (c8 : Value) (c9 : Value) (c10 : Bool),
      (w.cell? ⟨g, o + i * 11, none⟩ = some (.int .i64 c0) ∧ w.cell? ⟨g, o + i * 11 + 1, none⟩ = some (.int .i64 c1) ∧ w.cell? ⟨g, o + i * 11 + 2, none⟩ = some (.bool c2) ∧ w.cell? ⟨g, o + i * 11 + 3, none⟩ = some (.int .i64 c3) ∧ w.cell? ⟨g, o + i * 11 + 4, none⟩ = some (.int .i64 c4) ∧ w.cell? ⟨g, o + i * 11 + 5, none⟩ = some (.string c5) ∧ w.cell? ⟨g, o + i * 11 + 6, none⟩ = some (.string c6) ∧ w.cell? ⟨g, o + i * 11 + 7, none⟩ = some (.string c7) ∧ w.cell? ⟨g, o + i * 11 + 8, none⟩ = some (c8) ∧ w.cell? ⟨g, o + i * 11 + 9, none⟩ = some (c9) ∧ w.cell? ⟨g, o + i * 11 + 10, none⟩ = some (.bool c10)) ∧
      ((f i 0 = .v (.int .i64 c0) ∧ -9223372036854775808 ≤ c0 ∧ c0 ≤ 9223372036854775807) ∧ (f i 1 = .v (.int .i64 c1) ∧ -9223372036854775808 ≤ c1 ∧ c1 ≤ 9223372036854775807) ∧ f i 2 = .v (.bool c2) ∧ (f i 3 = .v (.int .i64 c3) ∧ -9223372036854775808 ≤ c3 ∧ c3 ≤ 9223372036854775807) ∧ (f i 4 = .v (.int .i64 c4) ∧ -9223372036854775808 ≤ c4 ∧ c4 ≤ 9223372036854775807) ∧ (f i 5 = .v (.string c5) ∧ c5.size ≤ 9223372036854775807) ∧ (f i 6 = .v (.string c6) ∧ c6.size ≤ 9223372036854775807) ∧ (f i 7 = .v (.string c7) ∧ c7.size ≤ 9223372036854775807) ∧ (Rd w L c8 (f i 8) ∧ Fits (f i 8) .exprs) ∧ (Rd w L c9 (f i 9) ∧ Fits (f i 9) .queries) ∧ f i 10 = .v (.bool c10)) := by
  obtain ⟨_, _, hk, hfit⟩ := hf
  obtain rfl : k = 11 := hk
  obtain ⟨_, g, o, ea, hL, hg, hc⟩ := h.elem hi
  obtain ⟨y0, z0, r0⟩ := hc 0 (by decide)
  have f0 : Fits (f i 0) .int := hfit i hi 0 (by decide)
  obtain ⟨c0, e0, b0⟩ := f0.int
  rw [e0] at r0
  obtain rfl : y0 = .int .i64 c0 := r0
  obtain ⟨y1, z1, r1⟩ := hc 1 (by decide)
  have f1 : Fits (f i 1) .int := hfit i hi 1 (by decide)
  obtain ⟨c1, e1, b1⟩ := f1.int
  rw [e1] at r1
  obtain rfl : y1 = .int .i64 c1 := r1
  obtain ⟨y2, z2, r2⟩ := hc 2 (by decide)
  have f2 : Fits (f i 2) .bool := hfit i hi 2 (by decide)
  obtain ⟨c2, e2⟩ := f2.bool
  rw [e2] at r2
  obtain rfl : y2 = .bool c2 := r2
  obtain ⟨y3, z3, r3⟩ := hc 3 (by decide)
  have f3 : Fits (f i 3) .int := hfit i hi 3 (by decide)
  obtain ⟨c3, e3, b3⟩ := f3.int
  rw [e3] at r3
  obtain rfl : y3 = .int .i64 c3 := r3
  obtain ⟨y4, z4, r4⟩ := hc 4 (by decide)
  have f4 : Fits (f i 4) .int := hfit i hi 4 (by decide)
  obtain ⟨c4, e4, b4⟩ := f4.int
  rw [e4] at r4
  obtain rfl : y4 = .int .i64 c4 := r4
  obtain ⟨y5, z5, r5⟩ := hc 5 (by decide)
  have f5 : Fits (f i 5) .str := hfit i hi 5 (by decide)
  obtain ⟨c5, e5, b5⟩ := f5.str
  rw [e5] at r5
  obtain rfl : y5 = .string c5 := r5
  obtain ⟨y6, z6, r6⟩ := hc 6 (by decide)
  have f6 : Fits (f i 6) .str := hfit i hi 6 (by decide)
  obtain ⟨c6, e6, b6⟩ := f6.str
  rw [e6] at r6
  obtain rfl : y6 = .string c6 := r6
  obtain ⟨y7, z7, r7⟩ := hc 7 (by decide)
  have f7 : Fits (f i 7) .str := hfit i hi 7 (by decide)
  obtain ⟨c7, e7, b7⟩ := f7.str
  rw [e7] at r7
  obtain rfl : y7 = .string c7 := r7
  obtain ⟨y8, z8, r8⟩ := hc 8 (by decide)
  have f8 : Fits (f i 8) .exprs := hfit i hi 8 (by decide)
  obtain ⟨y9, z9, r9⟩ := hc 9 (by decide)
  have f9 : Fits (f i 9) .queries := hfit i hi 9 (by decide)
  obtain ⟨y10, z10, r10⟩ := hc 10 (by decide)
  have f10 : Fits (f i 10) .bool := hfit i hi 10 (by decide)
  obtain ⟨c10, e10⟩ := f10.bool
  rw [e10] at r10
  obtain rfl : y10 = .bool c10 := r10
  exact ⟨g, o, ea, hL, hg, c0, c1, c2, c3, c4, c5, c6, c7, y8, y9, c10, ⟨z0, z1, z2, z3, z4, z5, z6, z7, z8, z9, z10⟩, ⟨⟨e0, b0⟩, ⟨e1, b1⟩, e2, ⟨e3, b3⟩, ⟨e4, b4⟩, ⟨e5, b5⟩, ⟨e6, b6⟩, ⟨e7, b7⟩, ⟨r8, f8⟩, ⟨r9, f9⟩, e10⟩⟩
theorem row_queries {w : World} {L n k m : Nat} {f : Nat → Nat → Dat} {a : Option Addr} {cap : Nat} (h : Rd w L (.slice a m cap) (.sl n k f)) (hf : Fits (.sl n k f) .queries) {i : Nat} (hi : i < n) :
    ∃ (g o : Nat), a = some ⟨g, o, none⟩ ∧ L ≤ g ∧ g < w.heap.size ∧ ∃ (c0 : Bool) (c1 : Value) (c2 : Value) (c3 : Value) (c4 : Value) (c5 : Int),
      (w.cell? ⟨g, o + i * 6, none⟩ = some (.bool c0) ∧ w.cell? ⟨g, o + i * 6 + 1, none⟩ = some (c1) ∧ w.cell? ⟨g, o + i * 6 + 2, none⟩ = some (c2) ∧ w.cell? ⟨g, o + i * 6 + 3, none⟩ = some (c3) ∧ w.cell? ⟨g, o + i * 6 + 4, none⟩ = some (c4) ∧ w.cell? ⟨g, o + i * 6 + 5, none⟩ = some (.int .i64 c5)) ∧
      (f i 0 = .v (.bool c0) ∧ (Rd w L c1 (f i 1) ∧ Fits (f i 1) .items) ∧ (Rd w L c2 (f i 2) ∧ Fits (f i 2) .sources) ∧ (Rd w L c3 (f i 3) ∧ Fits (f i 3) .exprs) ∧ (Rd w L c4 (f i 4) ∧ Fits (f i 4) .keys) ∧ (f i 5 = .v (.int .i64 c5) ∧ -9223372036854775808 ≤ c5 ∧ c5 ≤ 9223372036854775807)) := by
  obtain ⟨_, _, hk, hfit⟩ := hf
  obtain rfl : k = 6 := hk
  obtain ⟨_, g, o, ea, hL, hg, hc⟩ := h.elem hi
  obtain ⟨y0, z0, r0⟩ := hc 0 (by decide)
  have f0 : Fits (f i 0) .bool := hfit i hi 0 (by decide)
  obtain ⟨c0, e0⟩ := f0.bool
  rw [e0] at r0
  obtain rfl : y0 = .bool c0 := r0
  obtain ⟨y1, z1, r1⟩ := hc 1 (by decide)
  have f1 : Fits (f i 1) .items := hfit i hi 1 (by decide)
  obtain ⟨y2, z2, r2⟩ := hc 2 (by decide)
  have f2 : Fits (f i 2) .sources := hfit i hi 2 (by decide)
  obtain ⟨y3, z3, r3⟩ := hc 3 (by decide)
  have f3 : Fits (f i 3) .exprs := hfit i hi 3 (by decide)
  obtain ⟨y4, z4, r4⟩ := hc 4 (by decide)
  have f4 : Fits (f i 4) .keys := hfit i hi 4 (by decide)
  obtain ⟨y5, z5, r5⟩ := hc 5 (by decide)
  have f5 : Fits (f i 5) .int := hfit i hi 5 (by decide)
  obtain ⟨c5, e5, b5⟩ := f5.int
  rw [e5] at r5
  obtain rfl : y5 = .int .i64 c5 := r5
  exact ⟨g, o, ea, hL, hg, c0, y1, y2, y3, y4, c5, ⟨z0, z1, z2, z3, z4, z5⟩, ⟨e0, ⟨r1, f1⟩, ⟨r2, f2⟩, ⟨r3, f3⟩, ⟨r4, f4⟩, ⟨e5, b5⟩⟩⟩
end Go.Proofs.Ytgihklohhjhjbaa
