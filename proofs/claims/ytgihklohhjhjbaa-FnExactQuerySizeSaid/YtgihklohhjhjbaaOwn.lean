
/- A slice of bytes that the call owns, and what an append of one byte does to it. Over any program. -/
import Derived.WalkKit
import Derived.ProofKit
import Derived.Below
import Derived.BigCall
import Derived.Maps.AppendAt
import Derived.Laws.IdiomStrings
namespace Go.Proofs.Ytgihklohhjhjbaa
open Go.RowKit

/-- a list of bytes as cells -/
def cellsOf (l : List UInt8) : List Value := l.map fun b => .int .u8 (b.toNat : Int)
theorem cellsOf_snoc (l : List UInt8) (b : UInt8) : cellsOf (l ++ [b]) = cellsOf l ++ [.int .u8 (b.toNat : Int)] := by simp [cellsOf]
theorem cellsOf_len (l : List UInt8) : (cellsOf l).length = l.length := by simp [cellsOf]
/-- the slice value v of the call's own, its element type numbered e, holds the bytes l -/
def OwnB (e : TypeId) (w : World) (B : Nat) (v : Value) (l : List UInt8) : Prop := w.ownsRow B e 1 v l.length (cellsOf l)

theorem OwnB.nil (e : TypeId) (w : World) (B : Nat) : OwnB e w B (.slice none 0 0) [] := World.ownsRow_nil _ _ _ _

theorem appB {P : Program} {ops : Array Oper} {rest : List Oper} {o : Oper} {a : Act} {Q : Exit → Act → World → Prop} {t e : TypeId} {i : TypeInfo}
    (ht : P.underlying t = some (.slice e)) (hi : P.info? e = some i) (hz : i.zero = some (.int .u8 0)) (hsize : i.size = 1) (hby : i.bytes = 1)
    (hgd : o.guard = none) (s x : Operand) (ho : o.op = .call { callee := .builtin .append, args := #[s, x], argTypes := #[t, t] })
    (B : Nat) (v : Value) (l : List UInt8) (b : UInt8) (n : Int) (W : World) (hs : a.eval s = v) (hx : a.eval x = .slice (some ⟨W.heap.size, 0, none⟩) 1 1)
    (hown : OwnB e W B v l) (hn : n = (b.toNat : Int)) (hl : l.length ≤ 4398046511104) (hB : B ≤ W.heap.size)
    (h : ∀ (g cap : Nat) (w' : World), OwnB e w' B (.slice (some ⟨g, 0, none⟩) (l.length + 1) cap) (l ++ [b]) → Below B W w' → wpList P ops Q rest (a.put o.dst (.slice (some ⟨g, 0, none⟩) (l.length + 1) cap)) w') :
    wpList P ops Q (o :: rest) a (W.alloc (.cells #[.int .u8 n] e)) := by
  subst hn
  refine wpList_append_own _ hgd s x t ho B e i (.int .u8 0) 1 1 ht hi hz hsize hby rfl (by decide) v l.length (cellsOf l) hs (World.ownsRow.alloc hown _) ⟨W.heap.size, 0, none⟩ 1 1 [.int .u8 (b.toNat : Int)] hx rfl (cell_one_new _ _ _) (fun u hu => by simp at hu; subst hu; rfl) (by unfold maxLen; omega) (by omega) (by simp; omega) ?_
  intro v' w' hown' hgrow hnil
  have hb : Below B W w' := ((Below.refl B W).alloc hB _).grown hgrow (by simp; omega) (fun q hq => (World.ownsRow.lt hown q hq).1)
  obtain ⟨g, cap, rfl⟩ : ∃ g cap, v' = .slice (some ⟨g, 0, none⟩) (l.length + 1) cap := by
    rcases hown'.2 with ⟨_, h0⟩ | ⟨g, cap, _, h0, _⟩
    · omega
    · exact ⟨g, cap, h0⟩
  exact h g cap w' (by unfold OwnB; rw [cellsOf_snoc, List.length_append]; exact hown') hb

/-- such a slice as a string -/
theorem OwnB.string {P : Program} {e src dst : TypeId} {w : World} {B g cap n : Nat} {l : List UInt8} (h : OwnB e w B (.slice (some ⟨g, 0, none⟩) n cap) l) (hn : n = l.length)
    (hs : P.underlying src = some (.slice e)) (he : P.underlying e = some (.int .u8)) (hd : P.underlying dst = some .string) :
    (convert src dst (.slice (some ⟨g, 0, none⟩) n cap)).run P w = .ok (.string ⟨l.toArray⟩) w := by
  subst hn
  exact run_convert_bytes_back w src dst e ⟨g, 0, none⟩ cap l hs he hd fun j hj => by
    have := World.ownsRow.cellAt h j (by omega)
    have hp : (⟨g, 0, none⟩ : Addr).add j = ⟨g, j, none⟩ := by unfold Addr.add; split <;> simp_all
    rw [hp, this, cellsOf]
    simp [hj]

/-- a new slice of one byte as a string -/
theorem conv_one {P : Program} {src dst e : TypeId} (w : World) (b : UInt8) (n : Int) (hn : n = (b.toNat : Int)) (hs : P.underlying src = some (.slice e)) (he : P.underlying e = some (.int .u8)) (hd : P.underlying dst = some .string) :
    (convert src dst (.slice (some ⟨w.heap.size, 0, none⟩) 1 1)).run P (w.alloc (.cells #[.int .u8 n] e)) = .ok (.string ⟨#[b]⟩) (w.alloc (.cells #[.int .u8 n] e)) := by
  subst hn
  have h := run_convert_bytes_back (P := P) (w.alloc (.cells #[.int .u8 (b.toNat : Int)] e)) src dst e ⟨w.heap.size, 0, none⟩ 1 [b] hs he hd (fun j hj => cell_one_new w _ _ j _ (by simp at hj; subst hj; rfl))
  exact h

/-- a new slice of two bytes as a string -/
theorem conv_two {P : Program} {src dst e : TypeId} (w : World) (b c : UInt8) (n m : Int) (hn : n = (b.toNat : Int)) (hm : m = (c.toNat : Int)) (hs : P.underlying src = some (.slice e)) (he : P.underlying e = some (.int .u8)) (hd : P.underlying dst = some .string) :
    (convert src dst (.slice (some ⟨w.heap.size, 0, none⟩) 2 2)).run P (w.alloc (.cells #[.int .u8 n, .int .u8 m] e)) = .ok (.string ⟨#[b, c]⟩) (w.alloc (.cells #[.int .u8 n, .int .u8 m] e)) := by
  subst hn hm
  have h := run_convert_bytes_back (P := P) (w.alloc (.cells #[.int .u8 (b.toNat : Int), .int .u8 (c.toNat : Int)] e)) src dst e ⟨w.heap.size, 0, none⟩ 2 [b, c] hs he hd (fun j hj => by
    have hp : (⟨w.heap.size, 0, none⟩ : Addr).add j = ⟨w.heap.size, j, none⟩ := by unfold Addr.add; split <;> simp_all
    rw [hp, cell_of_row _ w.heap.size j _ e (0, 0) (heap_alloc_new w _)]
    rcases (show j = 0 ∨ j = 1 by simp at hj; omega) with rfl | rfl <;> rfl)
  exact h
/-- a string comes back; nothing that was there has turned -/
def StrE (l : List UInt8) (w : World) (e : Ending) (w' : World) : Prop := e = .returned (.string ⟨l.toArray⟩) ∧ Below w.heap.size w w'
theorem ret_ba' {a : ByteArray} {l : List UInt8} (h : l = a.data.toList) : Ending.returned (.string a) = .returned (.string ⟨l.toArray⟩) := by rw [h]
end Go.Proofs.Ytgihklohhjhjbaa
