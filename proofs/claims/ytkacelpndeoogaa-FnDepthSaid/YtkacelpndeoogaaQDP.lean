/- Joined texts: DrawE Key Fold KeyOf. -/
import Derived.Test.YtkacelpndeoogaaQDO
import Derived.Test.YtkacelpndeoogaaQDA
import Derived.Test.YtkacelpndeoogaaQDC
import Derived.Test.YtkacelpndeoogaaQDD
import Derived.Laws.Tables
/- Structs in boxes of their own while a draw goes on. -/
namespace Go.Proofs.Ytkacelpndeoogaa
open Go.RowKit

theorem RowAt.turn {W W' : World} {B : Nat} {T : TypeId} {cs : Array Value} {r : Option Nat} (h : RowAt W B T cs) (g : W.grownBy W' r) (hr : some B ≠ r) : RowAt W' B T cs := (g.block B h.lt hr).trans h
theorem setRow_other (W : World) (b k : Nat) (cs : Array Value) (h : k ≠ b) : (W.setRow b cs).heap[k]? = W.heap[k]? := by
  unfold World.setRow
  simp only [Array.getElem?_modify]
  rw [if_neg (fun e => h e.symm)]
theorem setRow_grown (W : World) (b : Nat) (cs : Array Value) : W.grownBy (W.setRow b cs) (some b) :=
  ⟨rfl, rfl, rfl, by unfold World.setRow; simp, fun k _ hk => setRow_other W b k cs (fun e => hk (by rw [e]))⟩
theorem RowAt.setRow {W : World} {b : Nat} {T : TypeId} {zs : Array Value} (h : RowAt W b T zs) (cs : Array Value) : RowAt (W.setRow b cs) b T cs := setRow_heap W b zs cs T (0, 0) h
/-- what was there at the start turns at most at the cursor, though a block made since is written -/
theorem grown_own {W W' W'' : World} {r : Option Nat} {b : Nat} (h : W.grownBy W' r) (g : W'.grownBy W'' (some b)) (hb : W.heap.size ≤ b) : W.grownBy W'' r :=
  ⟨g.os.trans h.os, g.tape.trans h.tape, g.output.trans h.output, Nat.le_trans h.size g.size, fun k hk hr => (g.block k (Nat.lt_of_lt_of_le hk h.size) (fun e => by injection e with e; omega)).trans (h.block k hk hr)⟩
theorem Cur.own {B C b : Nat} {a : Option Addr} {len cap : Nat} {W W' : World} (H : Cur B C a len cap W) (g : W.grownBy W' (some b)) (hb : C < b) : Cur B C a len cap W' := by
  have hlt := H.lt
  obtain ⟨h1, ⟨i, h, hi, hc⟩, h3, h4⟩ := H
  refine ⟨h1, ⟨i, h, hi, (g.block C hlt (fun e => by injection e with e; omega)).trans hc⟩, h3, fun j hj => ?_⟩
  obtain ⟨b', off, n, e1, e2, e3, e4, e5⟩ := h4 j hj
  exact ⟨b', off, n, e1, e2, e3, e4, (World.cell?_of_block (w := W) (a := ⟨b', off + j, none⟩) (g.block b' (by omega) (fun e => by injection e with e; omega))).trans e5⟩
/-- the zero expression -/
def zeroE : List Value := [.int .i64 0, .int .i64 0, .bool false, .int .i64 0, .int .i64 0, .string ⟨#[]⟩, .string ⟨#[]⟩, .string ⟨#[]⟩, .slice none 0 0, .slice none 0 0]
theorem ldE_row {W : World} {b : Nat} {ys : List Value} (h : RowAt W b 29 ys.toArray) (hl : ys.length = 10) :
    (ldX 29 (.pointer (some ⟨b, 0, none⟩))).run Try.prog W = .ok (.value (.agg ys.toArray)) W :=
  run_ldX (P := Try.prog) (o := 0) hl Try.isAgg29 Try.sizeOf29 fun k u hk => by rw [Nat.zero_add]; exact h.cell (i := k) (by simpa using hk)
theorem stE_row {W : World} {b : Nat} {zs : Array Value} {ys : List Value} (h : RowAt W b 29 zs) (hz : zs.size = 10) (hl : ys.length = 10) (ho : ys.all Value.oneCell' = true) :
    (stX 29 (.pointer (some ⟨b, 0, none⟩)) (.agg ys.toArray)).run Try.prog W = .ok .skip (W.setRow b ys.toArray) := by
  have := storeAt_row (P := Try.prog) (zs := zs) ys (fun w => by rw [hl]; exact Try.sizeOf29 w) (by rw [hl, hz]) ho h
  simp [stX, this, Result.andThen]
/-- a column -/
def ColD (B C : Nat) (a : Option Addr) (len cap : Nat) (W : World) (e : Ending) (W' : World) : Prop :=
  ∃ s6 s7 : ByteArray, s6.size ≤ 24 ∧ s7.size ≤ 24 ∧ e = .returned (.agg #[.int .i64 2, .int .i64 0, .bool false, .int .i64 0, .int .i64 0, .string ⟨#[]⟩, .string s6, .string s7, .slice none 0 0, .slice none 0 0]) ∧ Cur B C a len cap W' ∧ W.grownBy W' (some C)
end Go.Proofs.Ytkacelpndeoogaa

/- Contracts of the map of keywords and of Fold, program and model. -/
namespace Go.Proofs.Ytkacelpndeoogaa
open Go.RowKit Go.Maps

/-- a store of the map's making, which cannot fail -/
theorem wpList_insert_own {H : Type} {P : Program} (w : World) {ops : Array Oper} {rest : List Oper} {o : Oper} {a : Act} {Q : Exit → Act → World → Prop}
    (hg : o.guard = none) (m x v : Operand) (t : TypeId) (hop : o.op = Op.insert t m x v)
    (k e : TypeId) (K : Keyed P k) (ht : P.underlying t = some (.map k e)) (R : Value → Option (DataW H × List MemPlace)) (b n : Nat) (D : DataW H)
    (hm : a.eval m = .map (some b)) (hown : w.ownsMap P k R b n D) (hn : n < maxLen) (key val : Value) (kl : Lit) (hx : a.eval x = key) (hv : a.eval v = val) (hkey : keyOf P k key = some kl)
    (d : DataW H) (ps : List MemPlace) (hval : R val = some (d, ps))
    (hK : ∀ w', w'.ownsMap P k R b (n + 1) (D.put kl d) → w.grownBy w' (some b) → wpList P ops Q rest (a.put o.dst undef) w') :
    wpList P ops Q (o :: rest) a w := by
  refine wpList_plain hg fun K' hK' => ?_
  obtain ⟨w', hrun, r1, r2⟩ := hown.update K ht hn hkey hval
  unfold Oper.wp
  simp [execOp, hop, hm, hx, hv, hrun, Result.andThen]
  exact hK' _ _ (hK w' r1 r2)

theorem lawS : Keyed Try.prog 9 := string_keyed Try.underlying9
theorem zeroI (w : World) : (zeroValue 3).run Try.prog w = .ok (.int .i64 0) w := by kernel_rfl

/-- block b is the map of the first k keywords -/
def KwAt (w0 : World) (b k : Nat) (w : World) : Prop := w.ownsMap Try.prog 9 (plainElem Try.prog 3) b k (kwD k) ∧ w0.grownBy w (some b)
end Go.Proofs.Ytkacelpndeoogaa

/- Contracts of Fold, program and model. -/
namespace Go.Proofs.Ytkacelpndeoogaa
open Go.RowKit

theorem upL_getD (l : List UInt8) (j : Nat) : upB (l.getD j 0) = (upL l).getD j 0 := by
  unfold upL
  rw [List.getD_eq_getElem?_getD, List.getD_eq_getElem?_getD, List.getElem?_map]
  cases l[j]? <;> rfl

end Go.Proofs.Ytkacelpndeoogaa

/- Contracts of KeyOf, program and model, and of the list of keywords. -/
namespace Go.Proofs.Ytkacelpndeoogaa
open Go.RowKit Go.Maps

theorem ownsMap_below {H : Type} {P : Program} {k : TypeId} {R : Value → Option (DataW H × List MemPlace)} {w w' : World} {b n B : Nat} {D : DataW H} (h : w.ownsMap P k R b n D) (hb : Below B w w') (hB : b < B) : w'.ownsMap P k R b n D := by
  obtain ⟨es, clock, h1, F, hs, hD⟩ := h
  exact ⟨es, clock, (hb.block b hB).trans h1, F, hs, hD⟩

set_option maxRecDepth 100000 in
set_option maxHeartbeats 400000 in
theorem words_spec (w : World) :
    Calls Try.prog 177 #[] w fun e w' => e = .returned (.slice (some ⟨w.heap.size, 0, none⟩) 29 29) ∧ StrRow w' w.heap.size 29 wordB ∧ Below w.heap.size w w' := by
  go_enter Try.func177, Try.ntmps177
  go_wp2
  go_ret
  refine ⟨rfl, ⟨by simp, fun j hj => ⟨?_, frozen_of_row _ w.heap.size j _ 9 (heap_alloc_new w _)⟩⟩, (Below.refl _ _).alloc (Nat.le_refl _) _⟩
  rw [cell_of_row _ w.heap.size j _ 9 (0, 0) (heap_alloc_new w _)]
  rcases (show j = 0 ∨ j = 1 ∨ j = 2 ∨ j = 3 ∨ j = 4 ∨ j = 5 ∨ j = 6 ∨ j = 7 ∨ j = 8 ∨ j = 9 ∨ j = 10 ∨ j = 11 ∨ j = 12 ∨ j = 13 ∨ j = 14 ∨ j = 15 ∨ j = 16 ∨ j = 17 ∨ j = 18 ∨ j = 19 ∨ j = 20 ∨ j = 21 ∨ j = 22 ∨ j = 23 ∨ j = 24 ∨ j = 25 ∨ j = 26 ∨ j = 27 ∨ j = 28 by omega) with rfl | rfl | rfl | rfl | rfl | rfl | rfl | rfl | rfl | rfl | rfl | rfl | rfl | rfl | rfl | rfl | rfl | rfl | rfl | rfl | rfl | rfl | rfl | rfl | rfl | rfl | rfl | rfl | rfl <;> rfl

theorem word_eq {k : Nat} {F : ByteArray} {l : List UInt8} (hF : F = ⟨l.toArray⟩) : ((wordB k).toList == F.toList) = decide (word k = l) := by
  subst hF
  by_cases h : word k = l
  · rw [decide_eq_true h, Lib.bytes_beq_iff]
    unfold wordB; rw [h]
  · rw [decide_eq_false h, Lib.bytes_beq_false_iff]
    intro e
    exact h (by have := congrArg (fun b : ByteArray => b.data.toList) e; simpa [wordB] using this)

end Go.Proofs.Ytkacelpndeoogaa
