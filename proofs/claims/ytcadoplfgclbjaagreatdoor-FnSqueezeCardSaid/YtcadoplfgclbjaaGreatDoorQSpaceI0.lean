/- Joined texts: SpaceI0. -/
import Derived.Test.YtcadoplfgclbjaaGreatDoorQT
import Derived.Test.YtcadoplfgclbjaaGreatDoorQTokTextI
import Derived.Test.YtcadoplfgclbjaaGreatDoorQGapI
/- Ahead of the contracts of the program's writing of tokens: what a text that grows is, in which value it lies, and an append of a string onto nil. -/
namespace Go.Proofs.YtcadoplfgclbjaaGreatDoor
open Go.RowKit

/-- the value in which the text of the first k tokens lies -/
def RowV (k : Nat) (v : Value) (l : List UInt8) : Prop := (k = 0 ∧ l = [] ∧ v = .slice none 0 0) ∨ (0 < k ∧ ∃ g cap, v = .slice (some ⟨g, 0, none⟩) l.length cap)

theorem quoted_ne (q : UInt8) (l : List UInt8) : quoted q l ≠ [] := by unfold quoted; simp
theorem tokText_ne {k : Int} {t : List UInt8} (h : tokOk k t = true) : tokTextL k t ≠ [] := by
  rcases tok_forms h with ⟨_, _, _, _, hw⟩ | ⟨rfl, _, _, e⟩ | ⟨rfl, e⟩ | ⟨rfl, sg, e⟩
  · rw [hw.txt]; exact hw.ne
  · rw [e]; exact quoted_ne _ _
  · rw [e]; exact quoted_ne _ _
  · rw [e]
    rcases signB_cases sg with h | h | h | h | h | h | h | h | h | h | h | h | h | h | h | h <;> (rw [h]; decide)
theorem spL_up (all : Bool) (f : Nat → Int × ByteArray × Int) (k : Nat) : ∀ d, (spL all (keyF k f)).length ≤ (spL all (keyF (k + d) f)).length
  | 0 => Nat.le_refl _
  | d + 1 => by
    have ih := spL_up all f k d
    rw [show k + (d + 1) = (k + d) + 1 from rfl, spL_step, List.length_append, List.length_append]
    omega
theorem joinL_long {all : Bool} {k n : Nat} {f : Nat → Int × ByteArray × Int} (hk : k ≤ n) (h : 2000 < (spL all (keyF k f)).length) : joinL all n f = [] := by
  unfold joinL
  have := spL_up all f k (n - k)
  rw [show k + (n - k) = n by omega] at this
  split
  · rw [if_pos (by omega)]
  · rfl

theorem appS0 {P : Program} {ops : Array Oper} {rest : List Oper} {o : Oper} {a : Act} {Q : Exit → Act → World → Prop} {t u e : TypeId} {i : TypeInfo}
    (ht : P.underlying t = some (.slice e)) (hu : P.underlying u = some .string) (hi : P.info? e = some i) (hz : i.zero = some (.int .u8 0)) (hsize : i.size = 1) (hby : i.bytes = 1)
    (hgd : o.guard = none) (s x : Operand) (ho : o.op = .call { callee := .builtin .append, args := #[s, x], argTypes := #[t, u] })
    (B : Nat) (S : ByteArray) (W : World) (hs : a.eval s = .slice none 0 0) (hx : a.eval x = .string S) (hS0 : 0 < S.size) (hl : S.size ≤ 4398046511104) (hB : B ≤ W.heap.size)
    (h : ∀ (g cap : Nat) (w' : World), OwnB e w' B (.slice (some ⟨g, 0, none⟩) S.data.toList.length cap) S.data.toList → Below B W w' → wpList P ops Q rest (a.put o.dst (.slice (some ⟨g, 0, none⟩) S.data.toList.length cap)) w') :
    wpList P ops Q (o :: rest) a W := by
  have hlen : S.data.toList.length = S.size := rfl
  rw [hlen] at h
  have hown : OwnB e W B (.slice none 0 0) [] := OwnB.nil _ _ _
  refine Lib.wpList_append_own_string _ hgd s x t u ho B e i ht hu hi hz hsize hby (.slice none 0 0) 0 [] hs hown S hx (by unfold maxLen; omega) (by omega) hB ?_
  intro v' w' hown' hgrow hnil
  have hb : Below B W w' := (Below.refl B W).grown hgrow hB (fun q hq => (World.ownsRow.lt hown q hq).1)
  have hcells : ([] : List Value) ++ Lib.strCells S = cellsOf S.data.toList := by simp [cellsOf, Lib.strCells]
  rw [hcells] at hown'
  obtain ⟨g, cap, rfl⟩ : ∃ g cap, v' = .slice (some ⟨g, 0, none⟩) S.size cap := by
    rcases hown'.2 with ⟨h0, h1⟩ | ⟨g, cap, _, h0, _⟩
    · omega
    · exact ⟨g, cap, by rw [Nat.zero_add] at h0; exact h0⟩
  refine h g cap w' ?_ hb
  unfold OwnB
  rw [hlen]
  rw [Nat.zero_add] at hown'
  exact hown'

/-- an append of one byte onto an own slice that lies in a block: every other block stands as it was -/
theorem appB2 {P : Program} {ops : Array Oper} {rest : List Oper} {o : Oper} {a : Act} {Q : Exit → Act → World → Prop} {t e : TypeId} {i : TypeInfo}
    (ht : P.underlying t = some (.slice e)) (hi : P.info? e = some i) (hz : i.zero = some (.int .u8 0)) (hsize : i.size = 1) (hby : i.bytes = 1)
    (hgd : o.guard = none) (s x : Operand) (ho : o.op = .call { callee := .builtin .append, args := #[s, x], argTypes := #[t, t] })
    (B g0 c0 : Nat) (l : List UInt8) (b : UInt8) (n : Int) (W : World) (hs : a.eval s = .slice (some ⟨g0, 0, none⟩) l.length c0) (hx : a.eval x = .slice (some ⟨W.heap.size, 0, none⟩) 1 1)
    (hown : OwnB e W B (.slice (some ⟨g0, 0, none⟩) l.length c0) l) (hn : n = (b.toNat : Int)) (hl : l.length ≤ 4398046511104) (hB : B ≤ W.heap.size)
    (h : ∀ (g cap : Nat) (w' : World), OwnB e w' B (.slice (some ⟨g, 0, none⟩) (l.length + 1) cap) (l ++ [b]) → Below B W w' → W.heap.size ≤ w'.heap.size → (∀ q, q < W.heap.size → q ≠ g0 → w'.heap[q]? = W.heap[q]?) → wpList P ops Q rest (a.put o.dst (.slice (some ⟨g, 0, none⟩) (l.length + 1) cap)) w') :
    wpList P ops Q (o :: rest) a (W.alloc (.cells #[.int .u8 n] e)) := by
  subst hn
  refine wpList_append_own _ hgd s x t ho B e i (.int .u8 0) 1 1 ht hi hz hsize hby rfl (by decide) _ l.length (cellsOf l) hs (World.ownsRow.alloc hown _) ⟨W.heap.size, 0, none⟩ 1 1 [.int .u8 (b.toNat : Int)] hx rfl (cell_one_new _ _ _) (fun u hu => by simp at hu; subst hu; rfl) (by unfold maxLen; omega) (by omega) (by simp; omega) ?_
  intro v' w' hown' hgrow hnil
  have hb : Below B W w' := ((Below.refl B W).alloc hB _).grown hgrow (by simp; omega) (fun q hq => (World.ownsRow.lt hown q hq).1)
  have hsz : W.heap.size ≤ w'.heap.size := by have := hgrow.size; simp at this; omega
  obtain ⟨g, cap, rfl⟩ : ∃ g cap, v' = .slice (some ⟨g, 0, none⟩) (l.length + 1) cap := by
    rcases hown'.2 with ⟨_, h0⟩ | ⟨g, cap, _, h0, _⟩
    · omega
    · exact ⟨g, cap, h0⟩
  exact h g cap w' (by unfold OwnB; rw [cellsOf_snoc, List.length_append]; exact hown') hb hsz (fun q hq hne => (hgrow.block q (by simp; omega) (by simp only [Value.ownBlock]; intro e; exact hne (Option.some.inj e))).trans (Below.heap_alloc _ _ _ hq))
theorem cell_kept {w w' : World} {q o : Nat} {x : Value} (h : w'.heap[q]? = w.heap[q]?) (hc : w.cell? ⟨q, o, none⟩ = some x) : w'.cell? ⟨q, o, none⟩ = some x :=
  (World.cell?_of_block (w := w) (w' := w') (a := ⟨q, o, none⟩) h).trans hc
theorem OwnB.blk {e : TypeId} {w : World} {B g n c : Nat} {l : List UInt8} (h : OwnB e w B (.slice (some ⟨g, 0, none⟩) n c) l) : g < w.heap.size := (World.ownsRow.lt h g rfl).2

set_option maxRecDepth 100000 in
theorem alwaysGap_impl (k : Int) (t : ByteArray) (a k' : Int) (t' : ByteArray) (a' : Int) (w : World) :
    Calls Tryz.prog 23 #[.agg #[.int .i64 k, .string t, .int .i64 a], .agg #[.int .i64 k', .string t', .int .i64 a']] w (BoolE true w) := by
  go_enter Tryz.func23, Tryz.ntmps23
  go_wp2_with fail
  go_ret
  exact ⟨rfl, twoBox_below k t a k' t' a' w⟩

/-- a new block that holds a token -/
def tokNew (k : Int) (t : ByteArray) (a : Int) (w : World) : World := w.alloc (.cells #[.int .i64 k, .string t, .int .i64 a] 40)
theorem tokNew_below (k : Int) (t : ByteArray) (a : Int) (w : World) : Below w.heap.size w (tokNew k t a w) := (Below.refl w.heap.size w).alloc (Nat.le_refl _) _
theorem tokNew_cells {k : Int} {t : ByteArray} {a : Int} {w w' : World} (h : Below (w.heap.size + 1) (tokNew k t a w) w') :
    w'.cell? ⟨w.heap.size, 0, none⟩ = some (.int .i64 k) ∧ w'.cell? ⟨w.heap.size, 1, none⟩ = some (.string t) ∧ w'.cell? ⟨w.heap.size, 2, none⟩ = some (.int .i64 a) := by
  have r1 : (tokNew k t a w).heap[w.heap.size]? = some (.cells #[.int .i64 k, .string t, .int .i64 a] 40) := heap_alloc_new w _
  refine ⟨?_, ?_, ?_⟩
  · rw [h.cell (by show w.heap.size < _; omega), cell_of_row _ _ 0 _ 40 (0, 0) r1]; rfl
  · rw [h.cell (by show w.heap.size < _; omega), cell_of_row _ _ 1 _ 40 (0, 0) r1]; rfl
  · rw [h.cell (by show w.heap.size < _; omega), cell_of_row _ _ 2 _ 40 (0, 0) r1]; rfl
theorem tokNew_size (k : Int) (t : ByteArray) (a : Int) (w : World) : (tokNew k t a w).heap.size = w.heap.size + 1 := by simp [tokNew]
end Go.Proofs.YtcadoplfgclbjaaGreatDoor
