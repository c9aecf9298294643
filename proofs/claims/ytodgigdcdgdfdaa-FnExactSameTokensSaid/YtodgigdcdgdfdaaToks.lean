
/- Slices of tokens that a call owns; what a lexer hands back. -/
import Derived.Test.YtodgigdcdgdfdaaLexMath
import Derived.Test.YtodgigdcdgdfdaaOwn
namespace Go.Proofs.Ytodgigdcdgdfdaa
open Go.RowKit

theorem Try.infoTk : (Try.prog.info? 27).map (fun i => (i.zero, i.size, i.bytes)) = some (some (.agg #[.int .i64 0, .string ByteArray.empty, .int .i64 0]), 3, 32) := by kernel_rfl

/-- a token's cells -/
def tkCells (t : Tk) : List Value := [.int .i64 t.k, .string ⟨t.t.toArray⟩, .int .i64 (t.a : Int)]
def toksCells (L : List Tk) : List Value := L.flatMap tkCells
theorem toksCells_snoc (L : List Tk) (t : Tk) : toksCells (L ++ [t]) = toksCells L ++ tkCells t := by simp [toksCells]
/-- the slice value v of the call's own holds the tokens L -/
def OwnT (w : World) (B : Nat) (v : Value) (L : List Tk) : Prop := w.ownsRow B 27 3 v L.length (toksCells L)

theorem appT {ops : Array Oper} {rest : List Oper} {o : Oper} {a : Act} {Q : Exit → Act → World → Prop}
    (hgd : o.guard = none) (s x : Operand) (ho : o.op = .call { callee := .builtin .append, args := #[s, x], argTypes := #[33, 33] })
    (B : Nat) (v : Value) (L : List Tk) (t : Tk) (S : ByteArray) (hS : S = ⟨t.t.toArray⟩) (W : World) (nb : Nat) (hnb : W.heap.size = nb) (hs : a.eval s = v) (hx : a.eval x = .slice (some ⟨nb, 0, none⟩) 1 1)
    (hown : OwnT W B v L) (hl : L.length ≤ 4000000) (hB : B ≤ W.heap.size)
    (h : ∀ (g cap : Nat) (w' : World), OwnT w' B (.slice (some ⟨g, 0, none⟩) (L.length + 1) cap) (L ++ [t]) → Below B W w' → wpList Try.prog ops Q rest (a.put o.dst (.slice (some ⟨g, 0, none⟩) (L.length + 1) cap)) w') :
    wpList Try.prog ops Q (o :: rest) a (W.alloc (.cells #[.int .i64 t.k, .string S, .int .i64 (t.a : Int)] 27)) := by
  subst hS
  subst hnb
  obtain ⟨i, hi, hz, hsize, hby⟩ := info_parts Try.infoTk
  have hrow := heap_alloc_new W (.cells #[.int .i64 t.k, .string ⟨t.t.toArray⟩, .int .i64 (t.a : Int)] 27)
  refine wpList_append_own _ hgd s x 33 ho B 27 i _ 3 32 Try.underlying33 hi hz hsize hby rfl (by decide) v L.length (toksCells L) hs (World.ownsRow.alloc hown _) ⟨W.heap.size, 0, none⟩ 1 1 (tkCells t) hx rfl (fun j u hj => ?_) (fun u hu => by simp [tkCells] at hu; rcases hu with rfl | rfl | rfl <;> rfl) (by unfold maxLen; omega) (by omega) (by simp; omega) ?_
  · have hp : (⟨W.heap.size, 0, none⟩ : Addr).add j = ⟨W.heap.size, j, none⟩ := by unfold Addr.add; split <;> simp_all
    rw [hp, cell_of_row _ W.heap.size j _ 27 (0, 0) hrow]
    have hj3 : j < 3 := by
      have := (List.getElem?_eq_some_iff.1 hj).1
      simpa [tkCells] using this
    rcases (show j = 0 ∨ j = 1 ∨ j = 2 by omega) with rfl | rfl | rfl <;> exact hj
  · intro v' w' hown' hgrow hnil
    have hb : Below B W w' := ((Below.refl B W).alloc hB _).grown hgrow (by simp; omega) (fun q hq => (World.ownsRow.lt hown q hq).1)
    obtain ⟨g, cap, rfl⟩ : ∃ g cap, v' = .slice (some ⟨g, 0, none⟩) (L.length + 1) cap := by
      rcases hown'.2 with ⟨_, h0⟩ | ⟨g, cap, _, h0, _⟩
      · omega
      · exact ⟨g, cap, h0⟩
    exact h g cap w' (by unfold OwnT; rw [toksCells_snoc, List.length_append]; exact hown') hb

/-- what a lexer hands back -/
def LexE (r : Except Nat (List Tk)) (w : World) (e : Ending) (w' : World) : Prop :=
  (match r with
    | .ok L => ∃ v, e = .returned (.tuple #[v, .int .i64 (-1)]) ∧ OwnT w' w.heap.size v L
    | .error n => ∃ (a : Option Addr) (cap : Nat), e = .returned (.tuple #[.slice a 0 cap, .int .i64 (n : Int)])) ∧ Below w.heap.size w w'
end Go.Proofs.Ytodgigdcdgdfdaa
