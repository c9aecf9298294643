/- Joined texts: LexMath LexMath2 ValAt TokAt TokArg. -/
import Derived.Test.YtcliijfdlcagoaaGreatQZAB
import Derived.Test.YtcliijfdlcagoaaGreatQZAA
import Derived.Lib.SlicesS
import Derived.Deep.QuietTactic
import Derived.BigQuiet
namespace Go.Proofs.YtcliijfdlcagoaaGreat
set_option linter.unusedVariables false
set_option linter.unusedSimpArgs false
open Go.RowKit
open Go.Lib (decDigits)
def sl (l : List UInt8) (a b : Nat) : List UInt8 := (l.drop a).take (b - a)
def runEnd (l : List UInt8) (a : Nat) : Nat :=
  if a < l.length then (if wd ((l.getD a 0).toNat : Int) then runEnd l (a + 1) else a) else a
termination_by l.length - a
def quo (q : UInt8) (l : List UInt8) (i : Nat) : Option (List UInt8 × Nat) :=
  if i < l.length then
    if l.getD i 0 = q then
      (if i + 1 < l.length ∧ l.getD (i + 1) 0 = q then (quo q l (i + 2)).map (fun r => (q :: r.1, r.2)) else some ([], i + 1))
    else (quo q l (i + 1)).map (fun r => (l.getD i 0 :: r.1, r.2))
  else none
termination_by l.length - i
def signs : List (List UInt8) := [[40], [41], [44], [46], [42], [43], [45], [47], [37], [61], [60, 62], [60], [60, 61], [62], [62, 61], [124, 124]]
def signB (t : List UInt8) : Bool := signs.contains t
def numB (t : List UInt8) : Bool := decide (digVal t ≤ 9223372036854775807) && (decDigits (digVal t) == t)
def tokOk (k : Int) (t : List UInt8) : Bool :=
  if k = 1 then decide (0 < numOf (upL t)) && (upL t == t)
  else if k = 2 then okLen t.length
  else if k = 3 then numB t
  else if k = 4 then decide (t.length ≤ 40)
  else if k = 5 then signB t
  else false
structure Tk where
  k : Int
  t : List UInt8
  a : Nat
def let1 (l : List UInt8) (a : Nat) : Bool := ltr ((l.getD a 0).toNat : Int) || ((l.getD a 0).toNat : Int) == 95
def raw (l : List UInt8) (a : Nat) : Option (Tk × Nat) :=
  let b := l.getD a 0
  if let1 l a then
    (if 0 < numOf (upL (sl l a (runEnd l a))) then some (⟨1, upL (sl l a (runEnd l a)), a⟩, runEnd l a) else some (⟨2, sl l a (runEnd l a), a⟩, runEnd l a))
  else if dg (b.toNat : Int) then some (⟨3, sl l a (runEnd l a), a⟩, runEnd l a)
  else if b = 34 then (quo 34 l (a + 1)).map (fun r => (⟨2, r.1, a⟩, r.2))
  else if b = 39 then (quo 39 l (a + 1)).map (fun r => (⟨4, r.1, a⟩, r.2))
  else if a + 2 ≤ l.length ∧ signB (sl l a (a + 2)) = true then some (⟨5, sl l a (a + 2), a⟩, a + 2)
  else some (⟨5, sl l a (a + 1), a⟩, a + 1)
def one (l : List UInt8) (a : Nat) : Option (Tk × Nat) :=
  match raw l a with
  | some (t, e) => if tokOk t.k t.t then some (t, e) else none
  | none => none
theorem beq_lit (s : ByteArray) (l : List UInt8) : (s.toList == l) = decide (s.data.toList = l) := by
  rw [ByteArray.toList_eq]
  by_cases h : s.data.toList = l
  · rw [decide_eq_true h]; simpa using h
  · rw [decide_eq_false h]; simpa using h
def ValAt (W : World) (B : Nat) (k a : Int) (t : ByteArray) : Prop := W.heap[B]? = some (.cells #[.int .i64 k, .int .i64 a, .string t] 76 (0, 0))
theorem val_new (w : World) (o : Obj) (k a : Int) (t : ByteArray) : ValAt ((w.alloc o).alloc (.cells #[.int .i64 k, .int .i64 a, .string t] 76)) (w.heap.size + 1) k a t := by
  have h := heap_alloc_new (w.alloc o) (.cells #[.int .i64 k, .int .i64 a, .string t] 76)
  have e : (w.alloc o).heap.size = w.heap.size + 1 := by simp
  rw [e] at h
  exact h
theorem ValAt.below {W W' : World} {B C : Nat} {k a : Int} {t : ByteArray} (H : ValAt W B k a t) (g : Below C W W') (h : B < C) : ValAt W' B k a t := (g.block B h).trans H
def leftOf (n z : Int) : Int := if n - z < 0 then -1 else n - z
end Go.Proofs.YtcliijfdlcagoaaGreat
