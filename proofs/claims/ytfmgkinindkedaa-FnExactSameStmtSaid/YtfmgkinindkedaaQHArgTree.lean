/- Joined texts: ArgTree. -/
import Derived.Test.YtfmgkinindkedaaQSST
import Derived.Test.YtfmgkinindkedaaQSSA
/- Trees that came in as arguments, field by field. -/
namespace Go.Proofs.Ytfmgkinindkedaa
open Go.ChangeShapes Go.WideShapes Go.ChangeAt Go.RowKit Go.Deep

section
variable {H : Type} {enc : TypeId × Value → H} {W : World}
theorem Cells.dat {tys : List Ty} {n : Nat} {cs : List Value} (h : Cells enc W tys n cs) (j : Nat) (hj : j < tys.length) (hp : plainTy tys[j] = true := by rfl) : ∃ d, Rd W 0 (cs.getD j undef) d ∧ Fits d tys[j] := by
  obtain ⟨m, y, _, ht⟩ := h.2 j hj
  exact cell_dat m _ _ y hp ht
set_option maxRecDepth 100000 in
theorem arg_Expr {r : Reach} {b0 : Nat} {v : Value} {d : DataW H} {p : List MemPlace} (hv : Value.okWide Try.prog W r b0 50 v) (h : DataW.Trod enc Try.prog W 0 (fun _ => true) true 50 v d p) :
    ∃ (c0 : Int) (c1 : Int) (c2 : Bool) (c3 : Int) (c4 : Int) (c5 : ByteArray) (c6 : ByteArray) (c7 : ByteArray) (c8 : Value) (c9 : Value) (d8 : Dat) (d9 : Dat), v = .agg #[.int .i64 c0, .int .i64 c1, .bool c2, .int .i64 c3, .int .i64 c4, .string c5, .string c6, .string c7, c8, c9] ∧ (-9223372036854775808 ≤ c0 ∧ c0 ≤ 9223372036854775807) ∧ (-9223372036854775808 ≤ c1 ∧ c1 ≤ 9223372036854775807) ∧ (-9223372036854775808 ≤ c3 ∧ c3 ≤ 9223372036854775807) ∧ (-9223372036854775808 ≤ c4 ∧ c4 ≤ 9223372036854775807) ∧ c5.size ≤ 9223372036854775807 ∧ c6.size ≤ 9223372036854775807 ∧ c7.size ≤ 9223372036854775807 ∧ (Rd W 0 c8 d8 ∧ Fits d8 .exprs) ∧ (Rd W 0 c9 d9 ∧ Fits d9 .queries) := by
  obtain ⟨cs, rfl, hsz⟩ := okWide_struct Try.underlying50 hv
  have hc : Try.prog.cellsOf 50 = 10 := by kernel_rfl
  obtain ⟨l⟩ := cs
  match l, hsz.trans hc with
  | [x0, x1, x2, x3, x4, x5, x6, x7, x8, x9], _ =>
    obtain ⟨fuel, hf⟩ := h
    have hC := flat_Expr (W := W) (cs := [x0, x1, x2, x3, x4, x5, x6, x7, x8, x9]) hf
    obtain ⟨d0, r0, f0⟩ := hC.dat 0 (by decide)
    obtain ⟨c0, rfl, b0⟩ := Fits.int (d := d0) f0
    obtain rfl : x0 = .int .i64 c0 := r0
    obtain ⟨d1, r1, f1⟩ := hC.dat 1 (by decide)
    obtain ⟨c1, rfl, b1⟩ := Fits.int (d := d1) f1
    obtain rfl : x1 = .int .i64 c1 := r1
    obtain ⟨d2, r2, f2⟩ := hC.dat 2 (by decide)
    obtain ⟨c2, rfl⟩ := Fits.bool (d := d2) f2
    obtain rfl : x2 = .bool c2 := r2
    obtain ⟨d3, r3, f3⟩ := hC.dat 3 (by decide)
    obtain ⟨c3, rfl, b3⟩ := Fits.int (d := d3) f3
    obtain rfl : x3 = .int .i64 c3 := r3
    obtain ⟨d4, r4, f4⟩ := hC.dat 4 (by decide)
    obtain ⟨c4, rfl, b4⟩ := Fits.int (d := d4) f4
    obtain rfl : x4 = .int .i64 c4 := r4
    obtain ⟨d5, r5, f5⟩ := hC.dat 5 (by decide)
    obtain ⟨c5, rfl, b5⟩ := Fits.str (d := d5) f5
    obtain rfl : x5 = .string c5 := r5
    obtain ⟨d6, r6, f6⟩ := hC.dat 6 (by decide)
    obtain ⟨c6, rfl, b6⟩ := Fits.str (d := d6) f6
    obtain rfl : x6 = .string c6 := r6
    obtain ⟨d7, r7, f7⟩ := hC.dat 7 (by decide)
    obtain ⟨c7, rfl, b7⟩ := Fits.str (d := d7) f7
    obtain rfl : x7 = .string c7 := r7
    obtain ⟨d8, r8, f8⟩ := hC.dat 8 (by decide)
    obtain ⟨d9, r9, f9⟩ := hC.dat 9 (by decide)
    exact ⟨c0, c1, c2, c3, c4, c5, c6, c7, x8, x9, d8, d9, rfl, b0, b1, b3, b4, b5, b6, b7, ⟨r8, f8⟩, ⟨r9, f9⟩⟩
set_option maxRecDepth 100000 in
theorem arg_Query {r : Reach} {b0 : Nat} {v : Value} {d : DataW H} {p : List MemPlace} (hv : Value.okWide Try.prog W r b0 27 v) (h : DataW.Trod enc Try.prog W 0 (fun _ => true) true 27 v d p) :
    ∃ (c0 : Bool) (c1 : Value) (c2 : Value) (c3 : Value) (c4 : Value) (c5 : Int) (d1 : Dat) (d2 : Dat) (d3 : Dat) (d4 : Dat), v = .agg #[.bool c0, c1, c2, c3, c4, .int .i64 c5] ∧ (Rd W 0 c1 d1 ∧ Fits d1 .items) ∧ (Rd W 0 c2 d2 ∧ Fits d2 .sources) ∧ (Rd W 0 c3 d3 ∧ Fits d3 .exprs) ∧ (Rd W 0 c4 d4 ∧ Fits d4 .keys) ∧ (-9223372036854775808 ≤ c5 ∧ c5 ≤ 9223372036854775807) := by
  obtain ⟨cs, rfl, hsz⟩ := okWide_struct Try.underlying27 hv
  have hc : Try.prog.cellsOf 27 = 6 := by kernel_rfl
  obtain ⟨l⟩ := cs
  match l, hsz.trans hc with
  | [x0, x1, x2, x3, x4, x5], _ =>
    obtain ⟨fuel, hf⟩ := h
    have hC := flat_Query (W := W) (cs := [x0, x1, x2, x3, x4, x5]) hf
    obtain ⟨d0, r0, f0⟩ := hC.dat 0 (by decide)
    obtain ⟨c0, rfl⟩ := Fits.bool (d := d0) f0
    obtain rfl : x0 = .bool c0 := r0
    obtain ⟨d1, r1, f1⟩ := hC.dat 1 (by decide)
    obtain ⟨d2, r2, f2⟩ := hC.dat 2 (by decide)
    obtain ⟨d3, r3, f3⟩ := hC.dat 3 (by decide)
    obtain ⟨d4, r4, f4⟩ := hC.dat 4 (by decide)
    obtain ⟨d5, r5, f5⟩ := hC.dat 5 (by decide)
    obtain ⟨c5, rfl, b5⟩ := Fits.int (d := d5) f5
    obtain rfl : x5 = .int .i64 c5 := r5
    exact ⟨c0, x1, x2, x3, x4, c5, d1, d2, d3, d4, rfl, ⟨r1, f1⟩, ⟨r2, f2⟩, ⟨r3, f3⟩, ⟨r4, f4⟩, b5⟩
end
end Go.Proofs.Ytfmgkinindkedaa
