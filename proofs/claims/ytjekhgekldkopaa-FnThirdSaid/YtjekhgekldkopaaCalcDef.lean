
/- What the operators give; a value that is put into a block. -/
import Derived.Test.YtjekhgekldkopaaOpMath
import Derived.Test.YtjekhgekldkopaaOrdS
import Derived.Test.YtjekhgekldkopaaValS
namespace Go.Proofs.Ytjekhgekldkopaa
open Go.RowKit

/-- the kind, the number, the text and the error that an operator gives -/
structure CR where
  k : Int
  n : Int
  t : ByteArray
  c : Int
def CalcE (r : CR) (w : World) (e : Ending) (w' : World) : Prop := e = .returned (.tuple #[.agg #[.int .i64 r.k, .int .i64 r.n, .string r.t], .int .i64 r.c]) ∧ Below w.heap.size w w'
def nullC : CR := ⟨0, 0, ⟨#[]⟩, 0⟩
def errC (c : Int) : CR := ⟨0, 0, ⟨#[]⟩, c⟩
def numC (x : Int) : CR := if fits x then ⟨1, x, ⟨#[]⟩, 0⟩ else errC 2
def boolC (b : Bool) : CR := ⟨3, if b then 1 else 0, ⟨#[]⟩, 0⟩
def kindIn (k c : Int) : Bool := (k == c) || (k == 0)
def fitsOp (op k k' : Int) : Bool :=
  if op ≤ 2 then kindIn k 3 && kindIn k' 3
  else if op ≤ 8 then (k == k') || ((k == 0) || (k' == 0))
  else if op = 9 then kindIn k 2 && kindIn k' 2
  else kindIn k 1 && kindIn k' 1
def logicC (op k n k' n' : Int) : CR :=
  if (k = 3 ∧ n = (if op = 1 then 1 else 0)) ∨ (k' = 3 ∧ n' = (if op = 1 then 1 else 0)) then boolC (op == 1)
  else if k = 0 ∨ k' = 0 then nullC else boolC (op == 2)
def holdsB (op o : Int) : Bool :=
  if op = 3 then o == 0 else if op = 4 then o != 0 else if op = 5 then decide (o < 0) else if op = 6 then decide (o ≤ 0) else if op = 7 then decide (0 < o) else decide (0 ≤ o)
def catC (t t' : ByteArray) : CR := if t.size + t'.size ≤ 200 then ⟨2, 0, t ++ t', 0⟩ else errC 2
def numOpC (op a b : Int) : CR :=
  if op = 10 then numC (a + b) else if op = 11 then numC (a - b) else if op = 12 then numC (a * b)
  else if b = 0 then errC 3 else if op = 13 then numC (a.tdiv b) else numC (a.tmod b)
def calcC (op k a : Int) (t : ByteArray) (k' a' : Int) (t' : ByteArray) : CR :=
  if (decide (1 ≤ op) && decide (op ≤ 14)) && (valOk k a t.data.toList && (valOk k' a' t'.data.toList && fitsOp op k k')) then
    if op ≤ 2 then logicC op k a k' a'
    else if (k == 0) || (k' == 0) then nullC
    else if op ≤ 8 then boolC (holdsB op (ordV (k, a, t.data.toList) (k', a', t'.data.toList)))
    else if op = 9 then catC t t'
    else numOpC op a a'
  else errC 1
theorem numC_yes {x : Int} (h : fits x = true) : numC x = ⟨1, x, ⟨#[]⟩, 0⟩ := by unfold numC; rw [if_pos h]
theorem numC_no {x : Int} (h : fits x = false) : numC x = errC 2 := by unfold numC; rw [if_neg (by simp [h])]

/-- the world after a value has been put into block R -/
def put (V : World) (R : Nat) (k n : Int) (t : ByteArray) : World := ((V.setCell ⟨R, 0, none⟩ (.int .i64 k)).setCell ⟨R, 1, none⟩ (.int .i64 n)).setCell ⟨R, 2, none⟩ (.string t)
theorem put_eq (V : World) (R : Nat) (k n : Int) (t : ByteArray) : ((V.setCell ⟨R, 0, none⟩ (.int .i64 k)).setCell ⟨R, 1, none⟩ (.int .i64 n)).setCell ⟨R, 2, none⟩ (.string t) = put V R k n t := rfl
theorem ValAt.puts {V : World} {R : Nat} {k0 n0 : Int} {t0 : ByteArray} (r : ValAt V R k0 n0 t0) (k n : Int) (t : ByteArray) : ValAt (put V R k n t) R k n t := ((r.set0 k).set1 n).set2 t
theorem ValAt.cells {V : World} {R : Nat} {k n : Int} {t : ByteArray} (r : ValAt V R k n t) : V.cell? ⟨R, 0, none⟩ = some (.int .i64 k) ∧ V.cell? ⟨R, 1, none⟩ = some (.int .i64 n) ∧ V.cell? ⟨R, 2, none⟩ = some (.string t) :=
  ⟨cell_of_row V R 0 _ 27 (0, 0) r, cell_of_row V R 1 _ 27 (0, 0) r, cell_of_row V R 2 _ 27 (0, 0) r⟩
theorem ValAt.soft {V : World} {R : Nat} {k n : Int} {t : ByteArray} (r : ValAt V R k n t) : V.frozen? ⟨R, 0, none⟩ = false ∧ V.frozen? ⟨R, 1, none⟩ = false ∧ V.frozen? ⟨R, 2, none⟩ = false :=
  ⟨frozen_of_row V R 0 _ 27 r, frozen_of_row V R 1 _ 27 r, frozen_of_row V R 2 _ 27 r⟩
theorem put_below {B : Nat} {w V : World} (h : Below B w V) {R : Nat} (hR : B ≤ R) (k n : Int) (t : ByteArray) : Below B w (put V R k n t) := ((h.setCell hR _).setCell hR _).setCell hR _
/-- the result's block alone -/
structure Fr1 (w V : World) : Prop where
  b : Below w.heap.size w V
  r0 : ValAt V w.heap.size 0 0 ⟨#[]⟩
theorem fr1_new (w : World) : Fr1 w (w.alloc (.cells #[.int .i64 0, .int .i64 0, .string ⟨#[]⟩] 27)) := ⟨(Below.refl _ _).alloc (Nat.le_refl _) _, heap_alloc_new w _⟩
theorem Fr1.next {w V V' : World} (H : Fr1 w V) (h : Below V.heap.size V V') : Fr1 w V' := ⟨H.b.trans (h.mono H.b.size), (h.block _ (Array.getElem?_eq_some_iff.1 H.r0).1).trans H.r0⟩
theorem Fr1.fin {w V : World} (H : Fr1 w V) (k n : Int) (t : ByteArray) : (put V w.heap.size k n t).cell? ⟨w.heap.size, 0, none⟩ = some (.int .i64 k) ∧ (put V w.heap.size k n t).cell? ⟨w.heap.size, 1, none⟩ = some (.int .i64 n) ∧ (put V w.heap.size k n t).cell? ⟨w.heap.size, 2, none⟩ = some (.string t) ∧ Below w.heap.size w (put V w.heap.size k n t) :=
  ⟨(H.r0.puts k n t).cells.1, (H.r0.puts k n t).cells.2.1, (H.r0.puts k n t).cells.2.2, put_below H.b (Nat.le_refl _) k n t⟩
/-- two values' boxes and the result's block -/
structure Fr (w V : World) (k a : Int) (t : ByteArray) (k' a' : Int) (t' : ByteArray) : Prop where
  b : Below w.heap.size w V
  a0 : ValAt V w.heap.size k a t
  b0 : ValAt V (w.heap.size + 1) k' a' t'
  r0 : ValAt V (w.heap.size + 2) 0 0 ⟨#[]⟩
theorem Fr.next {w V V' : World} {k a : Int} {t : ByteArray} {k' a' : Int} {t' : ByteArray} (H : Fr w V k a t k' a' t') (h : Below V.heap.size V V') : Fr w V' k a t k' a' t' :=
  ⟨H.b.trans (h.mono H.b.size), (h.block _ (Array.getElem?_eq_some_iff.1 H.a0).1).trans H.a0, (h.block _ (Array.getElem?_eq_some_iff.1 H.b0).1).trans H.b0, (h.block _ (Array.getElem?_eq_some_iff.1 H.r0).1).trans H.r0⟩
theorem fr_new (w : World) (k a : Int) (t : ByteArray) (k' a' : Int) (t' : ByteArray) :
    Fr w (((w.alloc (.cells #[.int .i64 k, .int .i64 a, .string t] 27)).alloc (.cells #[.int .i64 k', .int .i64 a', .string t'] 27)).alloc (.cells #[.int .i64 0, .int .i64 0, .string ⟨#[]⟩] 27)) k a t k' a' t' := by
  have r3 := heap_alloc_new ((w.alloc (.cells #[.int .i64 k, .int .i64 a, .string t] 27)).alloc (.cells #[.int .i64 k', .int .i64 a', .string t'] 27)) (.cells #[.int .i64 0, .int .i64 0, .string ⟨#[]⟩] 27)
  have r2 := heap_alloc_new (w.alloc (.cells #[.int .i64 k, .int .i64 a, .string t] 27)) (.cells #[.int .i64 k', .int .i64 a', .string t'] 27)
  have r1 := heap_alloc_new w (.cells #[.int .i64 k, .int .i64 a, .string t] 27)
  have e1 : (w.alloc (.cells #[.int .i64 k, .int .i64 a, .string t] 27)).heap.size = w.heap.size + 1 := by simp
  have e2 : ((w.alloc (.cells #[.int .i64 k, .int .i64 a, .string t] 27)).alloc (.cells #[.int .i64 k', .int .i64 a', .string t'] 27)).heap.size = w.heap.size + 2 := by simp
  rw [e1] at r2
  rw [e2] at r3
  refine ⟨(((Below.refl w.heap.size w).alloc (Nat.le_refl _) _).alloc (by simp) _).alloc (by simp; omega) _, ?_, ?_, r3⟩
  · exact (Below.heap_alloc _ _ _ (by simp; omega)).trans ((Below.heap_alloc _ _ _ (by simp)).trans r1)
  · exact (Below.heap_alloc _ _ _ (by simp)).trans r2
theorem Fr.fin {w V : World} {k a : Int} {t : ByteArray} {k' a' : Int} {t' : ByteArray} (H : Fr w V k a t k' a' t') (K N : Int) (T : ByteArray) :
    (put V (w.heap.size + 2) K N T).cell? ⟨w.heap.size + 2, 0, none⟩ = some (.int .i64 K) ∧ (put V (w.heap.size + 2) K N T).cell? ⟨w.heap.size + 2, 1, none⟩ = some (.int .i64 N) ∧ (put V (w.heap.size + 2) K N T).cell? ⟨w.heap.size + 2, 2, none⟩ = some (.string T) ∧ Below w.heap.size w (put V (w.heap.size + 2) K N T) :=
  ⟨(H.r0.puts K N T).cells.1, (H.r0.puts K N T).cells.2.1, (H.r0.puts K N T).cells.2.2, put_below H.b (by omega) K N T⟩
/-- a value's box and the result's block -/
structure FrU (w V : World) (k a : Int) (t : ByteArray) : Prop where
  b : Below w.heap.size w V
  a0 : ValAt V w.heap.size k a t
  r0 : ValAt V (w.heap.size + 1) 0 0 ⟨#[]⟩
theorem FrU.next {w V V' : World} {k a : Int} {t : ByteArray} (H : FrU w V k a t) (h : Below V.heap.size V V') : FrU w V' k a t :=
  ⟨H.b.trans (h.mono H.b.size), (h.block _ (Array.getElem?_eq_some_iff.1 H.a0).1).trans H.a0, (h.block _ (Array.getElem?_eq_some_iff.1 H.r0).1).trans H.r0⟩
theorem frU_new (w : World) (k a : Int) (t : ByteArray) :
    FrU w ((w.alloc (.cells #[.int .i64 k, .int .i64 a, .string t] 27)).alloc (.cells #[.int .i64 0, .int .i64 0, .string ⟨#[]⟩] 27)) k a t := by
  have r2 := heap_alloc_new (w.alloc (.cells #[.int .i64 k, .int .i64 a, .string t] 27)) (.cells #[.int .i64 0, .int .i64 0, .string ⟨#[]⟩] 27)
  have r1 := heap_alloc_new w (.cells #[.int .i64 k, .int .i64 a, .string t] 27)
  have e1 : (w.alloc (.cells #[.int .i64 k, .int .i64 a, .string t] 27)).heap.size = w.heap.size + 1 := by simp
  rw [e1] at r2
  exact ⟨((Below.refl w.heap.size w).alloc (Nat.le_refl _) _).alloc (by simp) _, (Below.heap_alloc _ _ _ (by simp)).trans r1, r2⟩
theorem FrU.fin {w V : World} {k a : Int} {t : ByteArray} (H : FrU w V k a t) (K N : Int) (T : ByteArray) :
    (put V (w.heap.size + 1) K N T).cell? ⟨w.heap.size + 1, 0, none⟩ = some (.int .i64 K) ∧ (put V (w.heap.size + 1) K N T).cell? ⟨w.heap.size + 1, 1, none⟩ = some (.int .i64 N) ∧ (put V (w.heap.size + 1) K N T).cell? ⟨w.heap.size + 1, 2, none⟩ = some (.string T) ∧ Below w.heap.size w (put V (w.heap.size + 1) K N T) :=
  ⟨(H.r0.puts K N T).cells.1, (H.r0.puts K N T).cells.2.1, (H.r0.puts K N T).cells.2.2, put_below H.b (by omega) K N T⟩
/-- two values' boxes -/
structure Fr2 (w V : World) (k a : Int) (t : ByteArray) (k' a' : Int) (t' : ByteArray) : Prop where
  b : Below w.heap.size w V
  a0 : ValAt V w.heap.size k a t
  b0 : ValAt V (w.heap.size + 1) k' a' t'
theorem Fr2.next {w V V' : World} {k a : Int} {t : ByteArray} {k' a' : Int} {t' : ByteArray} (H : Fr2 w V k a t k' a' t') (h : Below V.heap.size V V') : Fr2 w V' k a t k' a' t' :=
  ⟨H.b.trans (h.mono H.b.size), (h.block _ (Array.getElem?_eq_some_iff.1 H.a0).1).trans H.a0, (h.block _ (Array.getElem?_eq_some_iff.1 H.b0).1).trans H.b0⟩
theorem fr2_new (w : World) (k a : Int) (t : ByteArray) (k' a' : Int) (t' : ByteArray) :
    Fr2 w ((w.alloc (.cells #[.int .i64 k, .int .i64 a, .string t] 27)).alloc (.cells #[.int .i64 k', .int .i64 a', .string t'] 27)) k a t k' a' t' := by
  have r2 := heap_alloc_new (w.alloc (.cells #[.int .i64 k, .int .i64 a, .string t] 27)) (.cells #[.int .i64 k', .int .i64 a', .string t'] 27)
  have r1 := heap_alloc_new w (.cells #[.int .i64 k, .int .i64 a, .string t] 27)
  have e1 : (w.alloc (.cells #[.int .i64 k, .int .i64 a, .string t] 27)).heap.size = w.heap.size + 1 := by simp
  rw [e1] at r2
  exact ⟨((Below.refl w.heap.size w).alloc (Nat.le_refl _) _).alloc (by simp) _, (Below.heap_alloc _ _ _ (by simp)).trans r1, r2⟩
end Go.Proofs.Ytjekhgekldkopaa
