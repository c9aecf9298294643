/- Joined texts: CalcDef OpDraw DrawTyped CmpMath. -/
import Derived.Test.YtjekhgekldkopaaQF
import Derived.Test.YtjekhgekldkopaaQG
import Derived.Test.YtjekhgekldkopaaQD
import Derived.Test.YtjekhgekldkopaaQE
import Derived.Deep.RegionWith
import Derived.Lib.Bytealg
/- What the operators give; a value that is put into a block. -/
namespace Go.Proofs.Ytjekhgekldkopaa
open Go.RowKit

/-- the kind, the number, the text and the error that an operator gives -/
structure CR where
  k : Int
  n : Int
  t : ByteArray
  c : Int
def CalcE (r : CR) (w : World) (e : Ending) (w' : World) : Prop := e = .returned (.tuple #[.agg #[.int .i64 r.k, .int .i64 r.n, .string r.t], .int .i64 r.c]) ∧ Below w.heap.size w w'
def nullC : CR := ⟨0, 0, ⟨#[]⟩, 0⟩
def errC (c : Int) : CR := ⟨0, 0, ⟨#[]⟩, c⟩
def numC (x : Int) : CR := if fits x then ⟨1, x, ⟨#[]⟩, 0⟩ else errC 2
def boolC (b : Bool) : CR := ⟨3, if b then 1 else 0, ⟨#[]⟩, 0⟩
def kindIn (k c : Int) : Bool := (k == c) || (k == 0)
def fitsOp (op k k' : Int) : Bool :=
  if op ≤ 2 then kindIn k 3 && kindIn k' 3
  else if op ≤ 8 then (k == k') || ((k == 0) || (k' == 0))
  else if op = 9 then kindIn k 2 && kindIn k' 2
  else kindIn k 1 && kindIn k' 1
def logicC (op k n k' n' : Int) : CR :=
  if (k = 3 ∧ n = (if op = 1 then 1 else 0)) ∨ (k' = 3 ∧ n' = (if op = 1 then 1 else 0)) then boolC (op == 1)
  else if k = 0 ∨ k' = 0 then nullC else boolC (op == 2)
def holdsB (op o : Int) : Bool :=
  if op = 3 then o == 0 else if op = 4 then o != 0 else if op = 5 then decide (o < 0) else if op = 6 then decide (o ≤ 0) else if op = 7 then decide (0 < o) else decide (0 ≤ o)
def catC (t t' : ByteArray) : CR := if t.size + t'.size ≤ 200 then ⟨2, 0, t ++ t', 0⟩ else errC 2
def numOpC (op a b : Int) : CR :=
  if op = 10 then numC (a + b) else if op = 11 then numC (a - b) else if op = 12 then numC (a * b)
  else if b = 0 then errC 3 else if op = 13 then numC (a.tdiv b) else numC (a.tmod b)
def calcC (op k a : Int) (t : ByteArray) (k' a' : Int) (t' : ByteArray) : CR :=
  if (decide (1 ≤ op) && decide (op ≤ 14)) && (valOk k a t.data.toList && (valOk k' a' t'.data.toList && fitsOp op k k')) then
    if op ≤ 2 then logicC op k a k' a'
    else if (k == 0) || (k' == 0) then nullC
    else if op ≤ 8 then boolC (holdsB op (ordV (k, a, t.data.toList) (k', a', t'.data.toList)))
    else if op = 9 then catC t t'
    else numOpC op a a'
  else errC 1
theorem numC_yes {x : Int} (h : fits x = true) : numC x = ⟨1, x, ⟨#[]⟩, 0⟩ := by unfold numC; rw [if_pos h]
theorem numC_no {x : Int} (h : fits x = false) : numC x = errC 2 := by unfold numC; rw [if_neg (by simp [h])]

/-- the world after a value has been put into block R -/
def put (V : World) (R : Nat) (k n : Int) (t : ByteArray) : World := ((V.setCell ⟨R, 0, none⟩ (.int .i64 k)).setCell ⟨R, 1, none⟩ (.int .i64 n)).setCell ⟨R, 2, none⟩ (.string t)
theorem put_eq (V : World) (R : Nat) (k n : Int) (t : ByteArray) : ((V.setCell ⟨R, 0, none⟩ (.int .i64 k)).setCell ⟨R, 1, none⟩ (.int .i64 n)).setCell ⟨R, 2, none⟩ (.string t) = put V R k n t := rfl
theorem ValAt.puts {V : World} {R : Nat} {k0 n0 : Int} {t0 : ByteArray} (r : ValAt V R k0 n0 t0) (k n : Int) (t : ByteArray) : ValAt (put V R k n t) R k n t := ((r.set0 k).set1 n).set2 t
theorem ValAt.cells {V : World} {R : Nat} {k n : Int} {t : ByteArray} (r : ValAt V R k n t) : V.cell? ⟨R, 0, none⟩ = some (.int .i64 k) ∧ V.cell? ⟨R, 1, none⟩ = some (.int .i64 n) ∧ V.cell? ⟨R, 2, none⟩ = some (.string t) :=
  ⟨cell_of_row V R 0 _ 27 (0, 0) r, cell_of_row V R 1 _ 27 (0, 0) r, cell_of_row V R 2 _ 27 (0, 0) r⟩
theorem ValAt.soft {V : World} {R : Nat} {k n : Int} {t : ByteArray} (r : ValAt V R k n t) : V.frozen? ⟨R, 0, none⟩ = false ∧ V.frozen? ⟨R, 1, none⟩ = false ∧ V.frozen? ⟨R, 2, none⟩ = false :=
  ⟨frozen_of_row V R 0 _ 27 r, frozen_of_row V R 1 _ 27 r, frozen_of_row V R 2 _ 27 r⟩
theorem put_below {B : Nat} {w V : World} (h : Below B w V) {R : Nat} (hR : B ≤ R) (k n : Int) (t : ByteArray) : Below B w (put V R k n t) := ((h.setCell hR _).setCell hR _).setCell hR _
/-- the result's block alone -/
structure Fr1 (w V : World) : Prop where
  b : Below w.heap.size w V
  r0 : ValAt V w.heap.size 0 0 ⟨#[]⟩
theorem fr1_new (w : World) : Fr1 w (w.alloc (.cells #[.int .i64 0, .int .i64 0, .string ⟨#[]⟩] 27)) := ⟨(Below.refl _ _).alloc (Nat.le_refl _) _, heap_alloc_new w _⟩
theorem Fr1.next {w V V' : World} (H : Fr1 w V) (h : Below V.heap.size V V') : Fr1 w V' := ⟨H.b.trans (h.mono H.b.size), (h.block _ (Array.getElem?_eq_some_iff.1 H.r0).1).trans H.r0⟩
theorem Fr1.fin {w V : World} (H : Fr1 w V) (k n : Int) (t : ByteArray) : (put V w.heap.size k n t).cell? ⟨w.heap.size, 0, none⟩ = some (.int .i64 k) ∧ (put V w.heap.size k n t).cell? ⟨w.heap.size, 1, none⟩ = some (.int .i64 n) ∧ (put V w.heap.size k n t).cell? ⟨w.heap.size, 2, none⟩ = some (.string t) ∧ Below w.heap.size w (put V w.heap.size k n t) :=
  ⟨(H.r0.puts k n t).cells.1, (H.r0.puts k n t).cells.2.1, (H.r0.puts k n t).cells.2.2, put_below H.b (Nat.le_refl _) k n t⟩
/-- two values' boxes and the result's block -/
structure Fr (w V : World) (k a : Int) (t : ByteArray) (k' a' : Int) (t' : ByteArray) : Prop where
  b : Below w.heap.size w V
  a0 : ValAt V w.heap.size k a t
  b0 : ValAt V (w.heap.size + 1) k' a' t'
  r0 : ValAt V (w.heap.size + 2) 0 0 ⟨#[]⟩
theorem Fr.next {w V V' : World} {k a : Int} {t : ByteArray} {k' a' : Int} {t' : ByteArray} (H : Fr w V k a t k' a' t') (h : Below V.heap.size V V') : Fr w V' k a t k' a' t' :=
  ⟨H.b.trans (h.mono H.b.size), (h.block _ (Array.getElem?_eq_some_iff.1 H.a0).1).trans H.a0, (h.block _ (Array.getElem?_eq_some_iff.1 H.b0).1).trans H.b0, (h.block _ (Array.getElem?_eq_some_iff.1 H.r0).1).trans H.r0⟩
theorem fr_new (w : World) (k a : Int) (t : ByteArray) (k' a' : Int) (t' : ByteArray) :
    Fr w (((w.alloc (.cells #[.int .i64 k, .int .i64 a, .string t] 27)).alloc (.cells #[.int .i64 k', .int .i64 a', .string t'] 27)).alloc (.cells #[.int .i64 0, .int .i64 0, .string ⟨#[]⟩] 27)) k a t k' a' t' := by
  have r3 := heap_alloc_new ((w.alloc (.cells #[.int .i64 k, .int .i64 a, .string t] 27)).alloc (.cells #[.int .i64 k', .int .i64 a', .string t'] 27)) (.cells #[.int .i64 0, .int .i64 0, .string ⟨#[]⟩] 27)
  have r2 := heap_alloc_new (w.alloc (.cells #[.int .i64 k, .int .i64 a, .string t] 27)) (.cells #[.int .i64 k', .int .i64 a', .string t'] 27)
  have r1 := heap_alloc_new w (.cells #[.int .i64 k, .int .i64 a, .string t] 27)
  have e1 : (w.alloc (.cells #[.int .i64 k, .int .i64 a, .string t] 27)).heap.size = w.heap.size + 1 := by simp
  have e2 : ((w.alloc (.cells #[.int .i64 k, .int .i64 a, .string t] 27)).alloc (.cells #[.int .i64 k', .int .i64 a', .string t'] 27)).heap.size = w.heap.size + 2 := by simp
  rw [e1] at r2
  rw [e2] at r3
  refine ⟨(((Below.refl w.heap.size w).alloc (Nat.le_refl _) _).alloc (by simp) _).alloc (by simp; omega) _, ?_, ?_, r3⟩
  · exact (Below.heap_alloc _ _ _ (by simp; omega)).trans ((Below.heap_alloc _ _ _ (by simp)).trans r1)
  · exact (Below.heap_alloc _ _ _ (by simp)).trans r2
theorem Fr.fin {w V : World} {k a : Int} {t : ByteArray} {k' a' : Int} {t' : ByteArray} (H : Fr w V k a t k' a' t') (K N : Int) (T : ByteArray) :
    (put V (w.heap.size + 2) K N T).cell? ⟨w.heap.size + 2, 0, none⟩ = some (.int .i64 K) ∧ (put V (w.heap.size + 2) K N T).cell? ⟨w.heap.size + 2, 1, none⟩ = some (.int .i64 N) ∧ (put V (w.heap.size + 2) K N T).cell? ⟨w.heap.size + 2, 2, none⟩ = some (.string T) ∧ Below w.heap.size w (put V (w.heap.size + 2) K N T) :=
  ⟨(H.r0.puts K N T).cells.1, (H.r0.puts K N T).cells.2.1, (H.r0.puts K N T).cells.2.2, put_below H.b (by omega) K N T⟩
/-- a value's box and the result's block -/
structure FrU (w V : World) (k a : Int) (t : ByteArray) : Prop where
  b : Below w.heap.size w V
  a0 : ValAt V w.heap.size k a t
  r0 : ValAt V (w.heap.size + 1) 0 0 ⟨#[]⟩
theorem FrU.next {w V V' : World} {k a : Int} {t : ByteArray} (H : FrU w V k a t) (h : Below V.heap.size V V') : FrU w V' k a t :=
  ⟨H.b.trans (h.mono H.b.size), (h.block _ (Array.getElem?_eq_some_iff.1 H.a0).1).trans H.a0, (h.block _ (Array.getElem?_eq_some_iff.1 H.r0).1).trans H.r0⟩
theorem frU_new (w : World) (k a : Int) (t : ByteArray) :
    FrU w ((w.alloc (.cells #[.int .i64 k, .int .i64 a, .string t] 27)).alloc (.cells #[.int .i64 0, .int .i64 0, .string ⟨#[]⟩] 27)) k a t := by
  have r2 := heap_alloc_new (w.alloc (.cells #[.int .i64 k, .int .i64 a, .string t] 27)) (.cells #[.int .i64 0, .int .i64 0, .string ⟨#[]⟩] 27)
  have r1 := heap_alloc_new w (.cells #[.int .i64 k, .int .i64 a, .string t] 27)
  have e1 : (w.alloc (.cells #[.int .i64 k, .int .i64 a, .string t] 27)).heap.size = w.heap.size + 1 := by simp
  rw [e1] at r2
  exact ⟨((Below.refl w.heap.size w).alloc (Nat.le_refl _) _).alloc (by simp) _, (Below.heap_alloc _ _ _ (by simp)).trans r1, r2⟩
theorem FrU.fin {w V : World} {k a : Int} {t : ByteArray} (H : FrU w V k a t) (K N : Int) (T : ByteArray) :
    (put V (w.heap.size + 1) K N T).cell? ⟨w.heap.size + 1, 0, none⟩ = some (.int .i64 K) ∧ (put V (w.heap.size + 1) K N T).cell? ⟨w.heap.size + 1, 1, none⟩ = some (.int .i64 N) ∧ (put V (w.heap.size + 1) K N T).cell? ⟨w.heap.size + 1, 2, none⟩ = some (.string T) ∧ Below w.heap.size w (put V (w.heap.size + 1) K N T) :=
  ⟨(H.r0.puts K N T).cells.1, (H.r0.puts K N T).cells.2.1, (H.r0.puts K N T).cells.2.2, put_below H.b (by omega) K N T⟩
/-- two values' boxes -/
structure Fr2 (w V : World) (k a : Int) (t : ByteArray) (k' a' : Int) (t' : ByteArray) : Prop where
  b : Below w.heap.size w V
  a0 : ValAt V w.heap.size k a t
  b0 : ValAt V (w.heap.size + 1) k' a' t'
theorem Fr2.next {w V V' : World} {k a : Int} {t : ByteArray} {k' a' : Int} {t' : ByteArray} (H : Fr2 w V k a t k' a' t') (h : Below V.heap.size V V') : Fr2 w V' k a t k' a' t' :=
  ⟨H.b.trans (h.mono H.b.size), (h.block _ (Array.getElem?_eq_some_iff.1 H.a0).1).trans H.a0, (h.block _ (Array.getElem?_eq_some_iff.1 H.b0).1).trans H.b0⟩
theorem fr2_new (w : World) (k a : Int) (t : ByteArray) (k' a' : Int) (t' : ByteArray) :
    Fr2 w ((w.alloc (.cells #[.int .i64 k, .int .i64 a, .string t] 27)).alloc (.cells #[.int .i64 k', .int .i64 a', .string t'] 27)) k a t k' a' t' := by
  have r2 := heap_alloc_new (w.alloc (.cells #[.int .i64 k, .int .i64 a, .string t] 27)) (.cells #[.int .i64 k', .int .i64 a', .string t'] 27)
  have r1 := heap_alloc_new w (.cells #[.int .i64 k, .int .i64 a, .string t] 27)
  have e1 : (w.alloc (.cells #[.int .i64 k, .int .i64 a, .string t] 27)).heap.size = w.heap.size + 1 := by simp
  rw [e1] at r2
  exact ⟨((Below.refl w.heap.size w).alloc (Nat.le_refl _) _).alloc (by simp) _, (Below.heap_alloc _ _ _ (by simp)).trans r1, r2⟩
end Go.Proofs.Ytjekhgekldkopaa

/- Contracts of the functions that draw two numbers. -/
namespace Go.Proofs.Ytjekhgekldkopaa
open Go.RowKit

/-- two integers of 64 bits -/
def TwoIntE (B : Nat) (W : World) (e : Ending) (W' : World) : Prop :=
  ∃ x y : Int, (-9223372036854775808 ≤ x ∧ x ≤ 9223372036854775807) ∧ (-9223372036854775808 ≤ y ∧ y ≤ 9223372036854775807) ∧ e = .returned (.tuple #[.int .i64 x, .int .i64 y]) ∧ Below B W W'
set_option maxRecDepth 100000 in
set_option maxHeartbeats 1000000 in
theorem pair_any (B : Nat) (a : Option Addr) (len cap : Nat) (W : World) (H : RowB B a len W) (hB : B ≤ W.heap.size) :
    Calls Try.prog 41 #[.slice a len cap] W (TwoIntE B W) := by
  go_enter Try.func41, Try.ntmps41
  go_wp2_with fail
  refine (new_any B a len cap _ H hB).mono ?_
  rintro e W1 ⟨rfl, hc1, hb1⟩
  go_wp2_with fail
  refine (whole_any B W.heap.size a len cap _ hc1).mono ?_
  rintro e W2 ⟨x, hx0, hx1, rfl, hc2, hg2⟩
  go_wp2_with fail
  refine (whole_any B W.heap.size a len cap _ hc2).mono ?_
  rintro e W3 ⟨y, hy0, hy1, rfl, hc3, hg3⟩
  have hz1 := hb1.size
  have hz2 := hg2.size
  have hbb := below_of_grown (below_of_grown hb1 hg2 hB (by omega)) hg3 hB (by omega)
  go_wp2_with fail
  go_ret2
  exact ⟨x, y, ⟨hx0, hx1⟩, ⟨hy0, hy1⟩, rfl, hbb⟩
set_option maxRecDepth 100000 in
set_option maxHeartbeats 1000000 in
theorem drawAdd_any (B : Nat) (a : Option Addr) (len cap : Nat) (W : World) (H : RowB B a len W) (hB : B ≤ W.heap.size) :
    Calls Try.prog 16 #[.slice a len cap] W (TwoIntE B W) := by
  go_enter Try.func16, Try.ntmps16
  go_wp2_with fail
  refine (pair_any B a len cap _ H hB).mono ?_
  rintro e W1 ⟨x, y, hx, hy, rfl, hb1⟩
  have HX := Lib.hid (And.intro hx hy)
  clear hx hy
  go_wp2_with fail
  go_ret2
  exact ⟨x, y, HX.out.1, HX.out.2, rfl, hb1⟩
set_option maxRecDepth 100000 in
set_option maxHeartbeats 4000000 in
theorem drawMul_any (B : Nat) (a : Option Addr) (len cap : Nat) (W : World) (H : RowB B a len W) (hB : B ≤ W.heap.size) :
    Calls Try.prog 30 #[.slice a len cap] W (TwoIntE B W) := by
  go_enter Try.func30, Try.ntmps30
  go_wp2_with fail
  refine (new_any B a len cap _ H hB).mono ?_
  rintro e W1 ⟨rfl, hc1, hb1⟩
  have hz1 := hb1.size
  go_wp2_with fail
  refine (once_any 3 B W.heap.size a len cap _ hc1 (by omega) (by omega)).mono ?_
  rintro e W2 ⟨b, rfl, hc2, hg2⟩
  have hz2 := hg2.size
  have hb2 := below_of_grown hb1 hg2 hB (by omega)
  have hl2 := hc2.lt
  clear hg2 hc1 hb1
  cases b
  · go_wp2_with fail
    refine (pair_any B a len cap _ (H.later hb2) (by omega)).mono ?_
    rintro e W3 ⟨x, y, hx, hy, rfl, hb3⟩
    have HX := Lib.hid (And.intro hx hy)
    clear hx hy
    have hbb := hb2.trans hb3
    go_wp2_with fail
    go_ret2
    exact ⟨x, y, HX.out.1, HX.out.2, rfl, hbb⟩
  · go_wp2_with fail
    refine (pickInt_any W2.heap.size 6 (-4294967296) 4294967296 B W.heap.size a len cap _ (hc2.alloc _) (by omega) (by omega) (by simp) (by omega) ?_).mono ?_
    · intro j hj
      rw [cell_of_row _ W2.heap.size j _ 3 (0, 0) (heap_alloc_new W2 _)]
      rcases (show j = 0 ∨ j = 1 ∨ j = 2 ∨ j = 3 ∨ j = 4 ∨ j = 5 by omega) with rfl | rfl | rfl | rfl | rfl | rfl <;> exact ⟨_, by decide, by decide, rfl⟩
    · rintro e W3 ⟨x, hx0, hx1, rfl, hc3, hg3⟩
      have hb3 := below_of_grown (hb2.alloc (by omega) _) hg3 hB (by simp; omega)
      have hz3 := hg3.size
      have hl3 := hc3.lt
      clear hg3 hc2
      go_wp2_with fail
      refine (pickInt_any W3.heap.size 6 (-4294967296) 4294967296 B W.heap.size a len cap _ (hc3.alloc _) (by omega) (by omega) (by simp) (by omega) ?_).mono ?_
      · intro j hj
        rw [cell_of_row _ W3.heap.size j _ 3 (0, 0) (heap_alloc_new W3 _)]
        rcases (show j = 0 ∨ j = 1 ∨ j = 2 ∨ j = 3 ∨ j = 4 ∨ j = 5 by omega) with rfl | rfl | rfl | rfl | rfl | rfl <;> exact ⟨_, by decide, by decide, rfl⟩
      · rintro e W4 ⟨y, hy0, hy1, rfl, hc4, hg4⟩
        have hbb := below_of_grown (hb3.alloc (by simp at hz3; omega) _) hg4 hB (by simp at hz3 ⊢; omega)
        go_wp2_with fail
        go_ret2
        exact ⟨x, y, ⟨by omega, by omega⟩, ⟨by omega, by omega⟩, rfl, hbb⟩
end Go.Proofs.Ytjekhgekldkopaa

/- Contracts of the functions that draw the operands of an operator. -/
namespace Go.Proofs.Ytjekhgekldkopaa
open Go.RowKit

theorem Cur.puts {B C R : Nat} {a : Option Addr} {len cap : Nat} {W : World} (H : Cur B C a len cap W) (hRC : R ≠ C) (hB : B ≤ R) (k n : Int) (t : ByteArray) : Cur B C a len cap (put W R k n t) := by
  have one : ∀ {W : World} (o : Nat) (v : Value), Cur B C a len cap W → Cur B C a len cap (W.setCell ⟨R, o, none⟩ v) := by
    intro W o v H
    obtain ⟨h1, ⟨i, h, hi, hc⟩, h3, h4⟩ := H
    refine ⟨h1, ⟨i, h, hi, (heap_setCell_other W ⟨R, o, none⟩ C v (by show C ≠ R; omega)).trans hc⟩, h3, fun j hj => ?_⟩
    obtain ⟨b, off, n, e1, e2, e3, e4, e5⟩ := h4 j hj
    exact ⟨b, off, n, e1, e2, e3, e4, (World.cell?_of_block (w := W) (a := ⟨b, off + j, none⟩) (heap_setCell_other W ⟨R, o, none⟩ b v (by show b ≠ R; omega))).trans e5⟩
  exact one _ _ (one _ _ (one _ _ H))
theorem grown_put {W W' : World} {r : Option Nat} {R : Nat} (h : W.grownBy W' r) (hR : W.heap.size ≤ R) (k n : Int) (t : ByteArray) : W.grownBy (put W' R k n t) r := by
  have one : ∀ {W' : World} (o : Nat) (v : Value), W.grownBy W' r → W.grownBy (W'.setCell ⟨R, o, none⟩ v) r := fun {W'} o v h =>
    ⟨h.os, h.tape, h.output, by simpa using h.size, fun k hk hr => (heap_setCell_other W' ⟨R, o, none⟩ k v (by show k ≠ R; omega)).trans (h.block k hk hr)⟩
  exact one _ _ (one _ _ (one _ _ h))
theorem put_other {W : World} {R Q : Nat} {k n : Int} {t : ByteArray} (H : ValAt W Q k n t) (h : Q ≠ R) (k' n' : Int) (t' : ByteArray) : ValAt (put W R k' n' t') Q k n t :=
  ((H.set_other h).set_other h).set_other h
theorem put_size' (W : World) (R : Nat) (k n : Int) (t : ByteArray) : (put W R k n t).heap.size = W.heap.size := by simp [put]
theorem below_put {B R : Nat} {W W' : World} (h : Below B W W') (hR : B ≤ R) (k n : Int) (t : ByteArray) : Below B W (put W' R k n t) := put_below h hR k n t
/-- what a drawn value satisfies -/
def Nice (M : Nat) (n : Int) (t : ByteArray) : Prop := t.size ≤ M ∧ -9223372036854775808 ≤ n ∧ n ≤ 9223372036854775807
set_option maxRecDepth 100000 in
set_option maxHeartbeats 4000000 in
theorem typed_any (kind : Int) (hk : kind = 1 ∨ kind = 2 ∨ kind = 3) (B C : Nat) (a : Option Addr) (len cap : Nat) (W : World) (H : Cur B C a len cap W) (hBW : B ≤ W.heap.size) :
    Calls Try.prog 66 #[.pointer (some ⟨C, 0, none⟩), .int .i64 kind] W (ValDrawE 8 B C a len cap W) := by
  have hWC := H.lt
  have r0 : ValAt (W.alloc (.cells #[.int .i64 0, .int .i64 0, .string ⟨#[]⟩] 27)) W.heap.size 0 0 ⟨#[]⟩ := heap_alloc_new W _
  have hgr := grown_alloc W (.cells #[.int .i64 0, .int .i64 0, .string ⟨#[]⟩] 27) (some C)
  go_enter Try.func66, Try.ntmps66
  go_wp2_with fail
  refine (once_any 6 B C a len cap _ (H.alloc _) (by omega) (by omega)).mono ?_
  rintro e W1 ⟨b0, rfl, hc, hg1⟩
  replace r0 := r0.turn hg1 (by omega)
  replace hgr := grown_tr hgr hg1
  clear hg1
  cases b0
  case true =>
    obtain ⟨z0, z1, z2⟩ := r0.soft
    obtain ⟨g0, g1, g2⟩ := r0.cells
    have hF := r0.puts (0) (0) (⟨#[]⟩)
    obtain ⟨f0, f1, f2⟩ := hF.cells
    have hcF := hc.puts (R := W.heap.size) (by omega) (by have := hc.1; omega) (0) (0) (⟨#[]⟩)
    have hgF := grown_put hgr (Nat.le_refl _) (0) (0) (⟨#[]⟩)
    go_wp2_with fail
    rw [put_eq]
    generalize put _ W.heap.size (0) (0) (⟨#[]⟩) = wf at f0 f1 f2 hcF hgF ⊢
    refine bodyPost_ret (v := .agg #[.int .i64 (0), .int .i64 (0), .string (⟨#[]⟩)]) (by simp [results, Try.results66, go_sem, f0, f1, f2]) rfl ?_
    exact ⟨0, 0, ⟨#[]⟩, ⟨by decide, by decide, by decide⟩, rfl, hcF, hgF⟩
  rcases hk with rfl | rfl | rfl
  · go_wp2_with fail
    refine (whole_any B C a len cap _ hc).mono ?_
    rintro e W2 ⟨m, hm0, hm1, rfl, hc2, hg2⟩
    clear hc
    replace r0 := r0.turn hg2 (by omega)
    replace hgr := grown_tr hgr hg2
    clear hg2
    go_wp2_with fail
    refine (intValue_spec m _).mono ?_
    rintro e W3 ⟨rfl, hb3⟩
    have hc := hc2.later hb3
    have hg3 := grown_of_new hb3 (some C)
    clear hb3 hc2
    replace r0 := r0.turn hg3 (by omega)
    replace hgr := grown_tr hgr hg3
    clear hg3
    obtain ⟨z0, z1, z2⟩ := r0.soft
    obtain ⟨g0, g1, g2⟩ := r0.cells
    have hF := r0.puts (1) (m) (⟨#[]⟩)
    obtain ⟨f0, f1, f2⟩ := hF.cells
    have hcF := hc.puts (R := W.heap.size) (by omega) (by have := hc.1; omega) (1) (m) (⟨#[]⟩)
    have hgF := grown_put hgr (Nat.le_refl _) (1) (m) (⟨#[]⟩)
    go_wp2_with fail
    rw [put_eq]
    generalize put _ W.heap.size (1) (m) (⟨#[]⟩) = wf at f0 f1 f2 hcF hgF ⊢
    refine bodyPost_ret (v := .agg #[.int .i64 (1), .int .i64 (m), .string (⟨#[]⟩)]) (by simp [results, Try.results66, go_sem, f0, f1, f2]) rfl ?_
    exact ⟨1, m, ⟨#[]⟩, ⟨by decide, hm0, hm1⟩, rfl, hcF, hgF⟩
  · go_wp2_with fail
    refine (pick_any 8 W1.heap.size 4 B C a len cap _ (hc.alloc _) (by omega) (by omega) (by simp) (by have := hc.lt; omega) ?_).mono ?_
    · intro j hj
      rw [cell_of_row _ W1.heap.size j _ 9 (0, 0) (heap_alloc_new W1 _)]
      rcases (show j = 0 ∨ j = 1 ∨ j = 2 ∨ j = 3 by omega) with rfl | rfl | rfl | rfl <;> exact ⟨_, by decide, rfl⟩
    · rintro e W2 ⟨S, hS, rfl, hc2, hg2'⟩
      have hg2 := grown_tr (grown_alloc W1 _ (some C)) hg2'
      clear hg2' hc
      replace r0 := r0.turn hg2 (by omega)
      replace hgr := grown_tr hgr hg2
      clear hg2
      go_wp2_with fail
      refine (textValue_spec S _).mono ?_
      rintro e W3 ⟨rfl, hb3⟩
      have hc := hc2.later hb3
      have hg3 := grown_of_new hb3 (some C)
      clear hb3 hc2
      replace r0 := r0.turn hg3 (by omega)
      replace hgr := grown_tr hgr hg3
      clear hg3
      obtain ⟨z0, z1, z2⟩ := r0.soft
      obtain ⟨g0, g1, g2⟩ := r0.cells
      have hF := r0.puts (2) (0) (S)
      obtain ⟨f0, f1, f2⟩ := hF.cells
      have hcF := hc.puts (R := W.heap.size) (by omega) (by have := hc.1; omega) (2) (0) (S)
      have hgF := grown_put hgr (Nat.le_refl _) (2) (0) (S)
      go_wp2_with fail
      rw [put_eq]
      generalize put _ W.heap.size (2) (0) (S) = wf at f0 f1 f2 hcF hgF ⊢
      refine bodyPost_ret (v := .agg #[.int .i64 (2), .int .i64 (0), .string (S)]) (by simp [results, Try.results66, go_sem, f0, f1, f2]) rfl ?_
      exact ⟨2, 0, S, ⟨hS, by decide, by decide⟩, rfl, hcF, hgF⟩
  · go_wp2_with fail
    refine (once_any 2 B C a len cap _ hc (by omega) (by omega)).mono ?_
    rintro e W2 ⟨b, rfl, hc2, hg2⟩
    clear hc
    replace r0 := r0.turn hg2 (by omega)
    replace hgr := grown_tr hgr hg2
    clear hg2
    have hBV := fun w => boolValue_spec b w
    have hyb : -9223372036854775808 ≤ (if b then (1 : Int) else 0) ∧ (if b then (1 : Int) else 0) ≤ 9223372036854775807 := by cases b <;> decide
    generalize (if b then (1 : Int) else 0) = y at hBV hyb
    have HYB := Lib.hid hyb
    clear hyb
    go_wp2_with fail
    refine (hBV _).mono ?_
    rintro e W3 ⟨rfl, hb3⟩
    have hc := hc2.later hb3
    have hg3 := grown_of_new hb3 (some C)
    clear hb3 hc2 hBV
    replace r0 := r0.turn hg3 (by omega)
    replace hgr := grown_tr hgr hg3
    clear hg3
    obtain ⟨z0, z1, z2⟩ := r0.soft
    obtain ⟨g0, g1, g2⟩ := r0.cells
    have hF := r0.puts (3) (y) (⟨#[]⟩)
    obtain ⟨f0, f1, f2⟩ := hF.cells
    have hcF := hc.puts (R := W.heap.size) (by omega) (by have := hc.1; omega) (3) (y) (⟨#[]⟩)
    have hgF := grown_put hgr (Nat.le_refl _) (3) (y) (⟨#[]⟩)
    go_wp2_with fail
    rw [put_eq]
    generalize put _ W.heap.size (3) (y) (⟨#[]⟩) = wf at f0 f1 f2 hcF hgF ⊢
    refine bodyPost_ret (v := .agg #[.int .i64 (3), .int .i64 (y), .string (⟨#[]⟩)]) (by simp [results, Try.results66, go_sem, f0, f1, f2]) rfl ?_
    exact ⟨3, y, ⟨#[]⟩, ⟨by decide, HYB.out⟩, rfl, hcF, hgF⟩
end Go.Proofs.Ytjekhgekldkopaa

/- Comparing integers and strings, the first that is not zero: as plain functions. No program. -/
namespace Go.Proofs.Ytjekhgekldkopaa

/-- two integers compared -/
def cmpI (x y : Int) : Int := if x < y then -1 else if y < x then 1 else 0
/-- the first of three that is not zero -/
def orI (a b c : Int) : Int := if a = 0 then if b = 0 then c else b else a
theorem cmpBytes_eq : ∀ x y : List UInt8, Lib.compareBytes x y = if Op.bytesLess x y then -1 else if Op.bytesLess y x then 1 else 0
  | [], [] => rfl
  | [], _ :: _ => rfl
  | _ :: _, [] => rfl
  | a :: x, b :: y => by
    rw [bl_cons, bl_cons, Lib.compareBytes]
    by_cases h : a < b
    · rw [if_pos h, decide_eq_true h]; rfl
    · rw [if_neg h, decide_eq_false h]
      by_cases h2 : b < a
      · have h3 : ¬ a = b := fun e => by subst e; exact UInt8.lt_irrefl _ h2
        rw [if_pos h2, decide_eq_true h2]
        simp [h3]
      · have h3 : a = b := by
          rcases UInt8.lt_or_lt_of_ne (a := a) (b := b) |> fun f => Classical.em (a = b) |>.imp id f with h1 | h1
          · exact h1
          · rcases h1 with h1 | h1
            · exact absurd h1 h
            · exact absurd h1 h2
        subst h3
        rw [if_neg h2, decide_eq_false h2, cmpBytes_eq x y]
        simp
theorem ordV_or (k n : Int) (t : List UInt8) (k' n' : Int) (t' : List UInt8) : ordV (k, n, t) (k', n', t') = orI (cmpI k k') (cmpI n n') (Lib.compareBytes t t') := by
  rw [cmpBytes_eq]
  unfold ordV orI cmpI
  simp only
  by_cases h1 : k < k'
  · rw [if_pos h1, if_pos h1, if_neg (by decide)]
  · rw [if_neg h1, if_neg h1]
    by_cases h2 : k' < k
    · rw [if_pos h2, if_pos h2, if_neg (by decide)]
    · rw [if_neg h2, if_neg h2, if_pos rfl]
      by_cases h3 : n < n'
      · rw [if_pos h3, if_pos h3, if_neg (by decide)]
      · rw [if_neg h3, if_neg h3]
        by_cases h4 : n' < n
        · rw [if_pos h4, if_pos h4, if_neg (by decide)]
        · rw [if_neg h4, if_neg h4, if_pos rfl]
end Go.Proofs.Ytjekhgekldkopaa
