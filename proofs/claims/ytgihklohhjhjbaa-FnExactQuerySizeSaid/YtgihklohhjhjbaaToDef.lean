
/- Trees that came in, copied by the laws: what comes back reads the same, in memory of its own. -/
import Derived.Test.YtgihklohhjhjbaaRowAt
import Derived.Test.YtgihklohhjhjbaaTreeRow
import Derived.Test.YtgihklohhjhjbaaValArg
import Derived.Laws.MakeOwn
namespace Go.Proofs.Ytgihklohhjhjbaa
open Go.RowKit

/-- a copy comes back -/
def ToE (d : Dat) (w : World) (e : Ending) (w' : World) : Prop := ∃ y : Value, e = .returned y ∧ Rd w' w.heap.size y d ∧ Below w.heap.size w w'
def toFn : Ty → Nat
  | .exprs => 63
  | .items => 72
  | .sources => 73
  | .keys => 74
  | .queries => 64
  | _ => 0
def ToP (d : Dat) (ty : Ty) : Prop := ∀ (x : Value) (w : World), Rd w 0 x d → Fits d ty → msr d ≤ 1048576 → Calls Try.prog (toFn ty) #[x] w (ToE d w)
def ToAll (d : Dat) : Prop := ∀ ty, deep ty = true → ToP d ty
theorem msr_n (n k : Nat) (f : Nat → Nat → Dat) : n ≤ msr (.sl n k f) := by unfold msr; omega
theorem sum_le {α : Type} (g : α → Nat) : ∀ (l : List α) (a : α), a ∈ l → g a ≤ (l.map g).sum
  | b :: l, a, h => by
    rw [List.map_cons, List.sum_cons]
    rcases List.mem_cons.1 h with rfl | h
    · omega
    · have := sum_le g l a h; omega
theorem msr_el {n k : Nat} {f : Nat → Nat → Dat} {i j : Nat} (hi : i < n) (hj : j < k) : msr (f i j) ≤ msr (.sl n k f) := by
  have h1 := sum_le (fun j => msr (f i j)) (List.range k) j (List.mem_range.2 hj)
  have h2 := sum_le (fun i => ((List.range k).map fun j => msr (f i j)).sum) (List.range n) i (List.mem_range.2 hi)
  have h3 : msr (.sl n k f) = n + ((List.range n).map fun i => ((List.range k).map fun j => msr (f i j)).sum).sum := by rw [msr]
  omega
/-- a struct of this type comes back, its slices copied -/
def ToExprE (c0 : Int) (c1 : Int) (c2 : Bool) (c3 : Int) (c4 : Int) (c5 : ByteArray) (c6 : ByteArray) (c7 : ByteArray) (d8 : Dat) (d9 : Dat) (w : World) (e : Ending) (w' : World) : Prop :=
  ∃ y8 y9 : Value, e = .returned (.agg #[.int .i64 c0, .int .i64 c1, .bool c2, .int .i64 c3, .int .i64 c4, .string c5, .string c6, .string c7, y8, y9]) ∧ Rd w' w.heap.size y8 d8 ∧ Rd w' w.heap.size y9 d9 ∧ Below w.heap.size w w'
/-- a struct of this type comes back, its slices copied -/
def ToItemE (c0 : Bool) (c1 : ByteArray) (c2 : Int) (c3 : Int) (c4 : Bool) (c5 : Int) (c6 : Int) (c7 : ByteArray) (c8 : ByteArray) (c9 : ByteArray) (c12 : ByteArray) (d10 : Dat) (d11 : Dat) (w : World) (e : Ending) (w' : World) : Prop :=
  ∃ y10 y11 : Value, e = .returned (.agg #[.bool c0, .string c1, .int .i64 c2, .int .i64 c3, .bool c4, .int .i64 c5, .int .i64 c6, .string c7, .string c8, .string c9, y10, y11, .string c12]) ∧ Rd w' w.heap.size y10 d10 ∧ Rd w' w.heap.size y11 d11 ∧ Below w.heap.size w w'
/-- a struct of this type comes back, its slices copied -/
def ToSourceE (c0 : ByteArray) (c1 : ByteArray) (d2 : Dat) (w : World) (e : Ending) (w' : World) : Prop :=
  ∃ y2 : Value, e = .returned (.agg #[.string c0, .string c1, y2]) ∧ Rd w' w.heap.size y2 d2 ∧ Below w.heap.size w w'
/-- a struct of this type comes back, its slices copied -/
def ToSortKeyE (c0 : Int) (c1 : Int) (c2 : Bool) (c3 : Int) (c4 : Int) (c5 : ByteArray) (c6 : ByteArray) (c7 : ByteArray) (c10 : Bool) (d8 : Dat) (d9 : Dat) (w : World) (e : Ending) (w' : World) : Prop :=
  ∃ y8 y9 : Value, e = .returned (.agg #[.int .i64 c0, .int .i64 c1, .bool c2, .int .i64 c3, .int .i64 c4, .string c5, .string c6, .string c7, y8, y9, .bool c10]) ∧ Rd w' w.heap.size y8 d8 ∧ Rd w' w.heap.size y9 d9 ∧ Below w.heap.size w w'
/-- a struct of this type comes back, its slices copied -/
def ToQueryE (c0 : Bool) (c5 : Int) (d1 : Dat) (d2 : Dat) (d3 : Dat) (d4 : Dat) (w : World) (e : Ending) (w' : World) : Prop :=
  ∃ y1 y2 y3 y4 : Value, e = .returned (.agg #[.bool c0, y1, y2, y3, y4, .int .i64 c5]) ∧ Rd w' w.heap.size y1 d1 ∧ Rd w' w.heap.size y2 d2 ∧ Rd w' w.heap.size y3 d3 ∧ Rd w' w.heap.size y4 d4 ∧ Below w.heap.size w w'
end Go.Proofs.Ytgihklohhjhjbaa
