/- Joined texts: Own Pure KeyMath NameDef. -/
import Derived.Test.YtfmgkinindkedaaQSSA
import Derived.WalkKit
import Derived.ProofKit
import Derived.Below
import Derived.BigCall
import Derived.Maps.AppendAt
import Derived.Laws.IdiomStrings
import Derived.Maps.RangeWalk
import Derived.Maps.OwnOps
import Derived.Lib.Hide
import Derived.Lib.SlicesS
/- A slice of bytes that the call owns, and what an append of one byte does to it. Over any program. -/
namespace Go.Proofs.Ytfmgkinindkedaa
open Go.RowKit

/-- a list of bytes as cells -/
def cellsOf (l : List UInt8) : List Value := l.map fun b => .int .u8 (b.toNat : Int)
theorem cellsOf_snoc (l : List UInt8) (b : UInt8) : cellsOf (l ++ [b]) = cellsOf l ++ [.int .u8 (b.toNat : Int)] := by simp [cellsOf]
theorem cellsOf_len (l : List UInt8) : (cellsOf l).length = l.length := by simp [cellsOf]
/-- the slice value v of the call's own, its element type numbered e, holds the bytes l -/
def OwnB (e : TypeId) (w : World) (B : Nat) (v : Value) (l : List UInt8) : Prop := w.ownsRow B e 1 v l.length (cellsOf l)

theorem OwnB.nil (e : TypeId) (w : World) (B : Nat) : OwnB e w B (.slice none 0 0) [] := World.ownsRow_nil _ _ _ _

theorem appB {P : Program} {ops : Array Oper} {rest : List Oper} {o : Oper} {a : Act} {Q : Exit → Act → World → Prop} {t e : TypeId} {i : TypeInfo}
    (ht : P.underlying t = some (.slice e)) (hi : P.info? e = some i) (hz : i.zero = some (.int .u8 0)) (hsize : i.size = 1) (hby : i.bytes = 1)
    (hgd : o.guard = none) (s x : Operand) (ho : o.op = .call { callee := .builtin .append, args := #[s, x], argTypes := #[t, t] })
    (B : Nat) (v : Value) (l : List UInt8) (b : UInt8) (n : Int) (W : World) (hs : a.eval s = v) (hx : a.eval x = .slice (some ⟨W.heap.size, 0, none⟩) 1 1)
    (hown : OwnB e W B v l) (hn : n = (b.toNat : Int)) (hl : l.length ≤ 4398046511104) (hB : B ≤ W.heap.size)
    (h : ∀ (g cap : Nat) (w' : World), OwnB e w' B (.slice (some ⟨g, 0, none⟩) (l.length + 1) cap) (l ++ [b]) → Below B W w' → wpList P ops Q rest (a.put o.dst (.slice (some ⟨g, 0, none⟩) (l.length + 1) cap)) w') :
    wpList P ops Q (o :: rest) a (W.alloc (.cells #[.int .u8 n] e)) := by
  subst hn
  refine wpList_append_own _ hgd s x t ho B e i (.int .u8 0) 1 1 ht hi hz hsize hby rfl (by decide) v l.length (cellsOf l) hs (World.ownsRow.alloc hown _) ⟨W.heap.size, 0, none⟩ 1 1 [.int .u8 (b.toNat : Int)] hx rfl (cell_one_new _ _ _) (fun u hu => by simp at hu; subst hu; rfl) (by unfold maxLen; omega) (by omega) (by simp; omega) ?_
  intro v' w' hown' hgrow hnil
  have hb : Below B W w' := ((Below.refl B W).alloc hB _).grown hgrow (by simp; omega) (fun q hq => (World.ownsRow.lt hown q hq).1)
  obtain ⟨g, cap, rfl⟩ : ∃ g cap, v' = .slice (some ⟨g, 0, none⟩) (l.length + 1) cap := by
    rcases hown'.2 with ⟨_, h0⟩ | ⟨g, cap, _, h0, _⟩
    · omega
    · exact ⟨g, cap, h0⟩
  exact h g cap w' (by unfold OwnB; rw [cellsOf_snoc, List.length_append]; exact hown') hb

/-- such a slice as a string -/
theorem OwnB.string {P : Program} {e src dst : TypeId} {w : World} {B g cap n : Nat} {l : List UInt8} (h : OwnB e w B (.slice (some ⟨g, 0, none⟩) n cap) l) (hn : n = l.length)
    (hs : P.underlying src = some (.slice e)) (he : P.underlying e = some (.int .u8)) (hd : P.underlying dst = some .string) :
    (convert src dst (.slice (some ⟨g, 0, none⟩) n cap)).run P w = .ok (.string ⟨l.toArray⟩) w := by
  subst hn
  exact run_convert_bytes_back w src dst e ⟨g, 0, none⟩ cap l hs he hd fun j hj => by
    have := World.ownsRow.cellAt h j (by omega)
    have hp : (⟨g, 0, none⟩ : Addr).add j = ⟨g, j, none⟩ := by unfold Addr.add; split <;> simp_all
    rw [hp, this, cellsOf]
    simp [hj]

/-- a new slice of one byte as a string -/
theorem conv_one {P : Program} {src dst e : TypeId} (w : World) (b : UInt8) (n : Int) (hn : n = (b.toNat : Int)) (hs : P.underlying src = some (.slice e)) (he : P.underlying e = some (.int .u8)) (hd : P.underlying dst = some .string) :
    (convert src dst (.slice (some ⟨w.heap.size, 0, none⟩) 1 1)).run P (w.alloc (.cells #[.int .u8 n] e)) = .ok (.string ⟨#[b]⟩) (w.alloc (.cells #[.int .u8 n] e)) := by
  subst hn
  have h := run_convert_bytes_back (P := P) (w.alloc (.cells #[.int .u8 (b.toNat : Int)] e)) src dst e ⟨w.heap.size, 0, none⟩ 1 [b] hs he hd (fun j hj => cell_one_new w _ _ j _ (by simp at hj; subst hj; rfl))
  exact h

/-- a new slice of two bytes as a string -/
theorem conv_two {P : Program} {src dst e : TypeId} (w : World) (b c : UInt8) (n m : Int) (hn : n = (b.toNat : Int)) (hm : m = (c.toNat : Int)) (hs : P.underlying src = some (.slice e)) (he : P.underlying e = some (.int .u8)) (hd : P.underlying dst = some .string) :
    (convert src dst (.slice (some ⟨w.heap.size, 0, none⟩) 2 2)).run P (w.alloc (.cells #[.int .u8 n, .int .u8 m] e)) = .ok (.string ⟨#[b, c]⟩) (w.alloc (.cells #[.int .u8 n, .int .u8 m] e)) := by
  subst hn hm
  have h := run_convert_bytes_back (P := P) (w.alloc (.cells #[.int .u8 (b.toNat : Int), .int .u8 (c.toNat : Int)] e)) src dst e ⟨w.heap.size, 0, none⟩ 2 [b, c] hs he hd (fun j hj => by
    have hp : (⟨w.heap.size, 0, none⟩ : Addr).add j = ⟨w.heap.size, j, none⟩ := by unfold Addr.add; split <;> simp_all
    rw [hp, cell_of_row _ w.heap.size j _ e (0, 0) (heap_alloc_new w _)]
    rcases (show j = 0 ∨ j = 1 by simp at hj; omega) with rfl | rfl <;> rfl)
  exact h
/-- a string comes back; nothing that was there has turned -/
def StrE (l : List UInt8) (w : World) (e : Ending) (w' : World) : Prop := e = .returned (.string ⟨l.toArray⟩) ∧ Below w.heap.size w w'
theorem ret_ba' {a : ByteArray} {l : List UInt8} (h : l = a.data.toList) : Ending.returned (.string a) = .returned (.string ⟨l.toArray⟩) := by rw [h]
end Go.Proofs.Ytfmgkinindkedaa

/- Contracts of the small tests on bytes and lengths, program and model. They write nothing. -/
namespace Go.Proofs.Ytfmgkinindkedaa
open Go.RowKit

/-- that value comes back, the world is as it was -/
def PureE (v : Value) (w : World) (e : Ending) (w' : World) : Prop := e = .returned v ∧ w' = w
theorem pure_bool {a b : Bool} {w : World} (h : a = b) : PureE (.bool b) w (.returned (.bool a)) w := by subst h; exact ⟨rfl, rfl⟩
/-- a number comes back; nothing that was there has turned -/
def IntE (n : Int) (w : World) (e : Ending) (w' : World) : Prop := e = .returned (.int .i64 n) ∧ Below w.heap.size w w'
/-- a bool comes back; nothing that was there has turned -/
def BoolE (b : Bool) (w : World) (e : Ending) (w' : World) : Prop := e = .returned (.bool b) ∧ Below w.heap.size w w'

/-- a digit -/
def dg (n : Int) : Bool := decide (48 ≤ n) && decide (n ≤ 57)
/-- a letter -/
def ltr (n : Int) : Bool := decide (65 ≤ n) && decide (n ≤ 90) || decide (97 ≤ n) && decide (n ≤ 122)
/-- a letter, a digit or an underscore -/
def wd (n : Int) : Bool := ltr n || dg n || n == 95
theorem in_any (a lo hi : Int) (b : Bool) (w : World) (hb : b = decide (lo ≤ a ∧ a ≤ hi)) : Calls Try.prog 62 #[.int .i64 a, .int .i64 lo, .int .i64 hi] w (PureE (.bool b) w) := by
  subst hb
  by_cases h1 : lo ≤ a
  · have hd : decide (lo ≤ a) = true := by simpa using h1
    by_cases h2 : a ≤ hi
    · have hd2 : decide (a ≤ hi) = true := by simpa using h2
      go_enter Try.func62, Try.ntmps62
      go_wp2
      go_ret
      exact pure_bool (by first | rfl | (rw [Bool.decide_and, hd, hd2] <;> rfl))
    · have hd2 : decide (a ≤ hi) = false := by simpa using h2
      go_enter Try.func62, Try.ntmps62
      go_wp2
      go_ret
      exact pure_bool (by first | rfl | (rw [Bool.decide_and, hd, hd2] <;> rfl))
  · have hd : decide (lo ≤ a) = false := by simpa using h1
    go_enter Try.func62, Try.ntmps62
    go_wp2
    go_ret
    exact pure_bool (by first | rfl | (rw [Bool.decide_and, hd] <;> rfl))
end Go.Proofs.Ytfmgkinindkedaa

/- Keywords: the words, folding, and what stands at a key of the map of keywords. No program. -/
namespace Go.Proofs.Ytfmgkinindkedaa
open Go.RowKit

/-- the keywords in their order, behind the empty word -/
def words : List (List UInt8) := [[], [83, 69, 76, 69, 67, 84], [68, 73, 83, 84, 73, 78, 67, 84], [70, 82, 79, 77], [74, 79, 73, 78], [79, 78], [87, 72, 69, 82, 69], [79, 82, 68, 69, 82], [66, 89], [65, 83, 67], [68, 69, 83, 67], [76, 73, 77, 73, 84], [65, 83], [65, 78, 68], [79, 82], [78, 79, 84], [73, 83], [73, 78], [66, 69, 84, 87, 69, 69, 78], [69, 88, 73, 83, 84, 83], [78, 85, 76, 76], [84, 82, 85, 69], [70, 65, 76, 83, 69], [73, 78, 83, 69, 82, 84], [73, 78, 84, 79], [86, 65, 76, 85, 69, 83], [85, 80, 68, 65, 84, 69], [83, 69, 84], [68, 69, 76, 69, 84, 69]]
def word (k : Nat) : List UInt8 := words.getD k []
def wordB (k : Nat) : ByteArray := ⟨(word k).toArray⟩

/-- the byte in upper case -/
def upB (b : UInt8) : UInt8 := if 97 ≤ b.toNat ∧ b.toNat ≤ 122 then UInt8.ofNat (b.toNat - 32) else b
def upL (l : List UInt8) : List UInt8 := l.map upB
theorem upB_low {b : UInt8} (h1 : 97 ≤ b.toNat) (h2 : b.toNat ≤ 122) : (upB b).toNat = b.toNat - 32 := by
  unfold upB; rw [if_pos ⟨h1, h2⟩]; simp; omega
theorem upB_else {b : UInt8} (h : ¬ (97 ≤ b.toNat ∧ b.toNat ≤ 122)) : upB b = b := by
  unfold upB; rw [if_neg h]
theorem upL_len (l : List UInt8) : (upL l).length = l.length := by simp [upL]

/-- the number of a word, 0 where it is none -/
def numOf (l : List UInt8) : Nat := ((List.range 29).find? (fun k => decide (1 ≤ k) && (word k == l))).getD 0
theorem num_word {k : Nat} (h1 : 1 ≤ k) (h2 : k ≤ 28) : numOf (word k) = k := by
  have h : ∀ j, j < 29 → 1 ≤ j → numOf (word j) = j := by decide +kernel
  exact h k (by omega) h1
theorem num_cases (l : List UInt8) : (numOf l = 0 ∧ ∀ k, 1 ≤ k → k ≤ 28 → word k ≠ l) ∨ (1 ≤ numOf l ∧ numOf l ≤ 28 ∧ word (numOf l) = l) := by
  unfold numOf
  rcases h : (List.range 29).find? (fun k => decide (1 ≤ k) && (word k == l)) with _ | k
  · refine .inl ⟨rfl, fun k h1 h2 e => ?_⟩
    have := List.find?_eq_none.1 h k (by simp; omega)
    simp [h1, e] at this
  · refine .inr ?_
    have h1 := List.find?_some h
    have h2 := List.mem_of_find?_eq_some h
    simp at h1 h2
    exact ⟨h1.1, by simp; omega, h1.2⟩
theorem num_le (l : List UInt8) : numOf l ≤ 28 := by rcases num_cases l with h | h <;> omega
theorem num_of_word {l : List UInt8} {k : Nat} (h1 : 1 ≤ k) (h2 : k ≤ 28) (h : word k = l) : numOf l = k := by rw [← h]; exact num_word h1 h2
theorem word_ne {j k : Nat} (h1 : 1 ≤ j) (h2 : j ≤ 28) (h3 : 1 ≤ k) (h4 : k ≤ 28) (h : j ≠ k) : word j ≠ word k := fun e => h (by
  rw [← num_word h1 h2, e, num_word h3 h4])
theorem word_len {k : Nat} (h : k ≤ 28) : (word k).length ≤ 8 := by
  have h' : ∀ j, j < 29 → (word j).length ≤ 8 := by decide +kernel
  exact h' k (by omega)
theorem num_long {l : List UInt8} (h : 8 < l.length) : numOf l = 0 := by
  rcases num_cases l with h' | ⟨h1, h2, h3⟩
  · exact h'.1
  · have := word_len h2; rw [h3] at this; omega
theorem word_upper {k : Nat} (h : k ≤ 28) : ∀ b ∈ word k, 65 ≤ b.toNat ∧ b.toNat ≤ 90 := by
  have h' : ∀ j, j < 29 → ∀ b ∈ word j, 65 ≤ b.toNat ∧ b.toNat ≤ 90 := by decide +kernel
  exact h' k (by omega)

/-- the map of the first k keywords -/
def kwD : Nat → DataW Unit
  | 0 => .map []
  | k + 1 => (kwD k).put (.string (word (k + 1))) (.lit (.int .i64 ((k + 1 : Nat) : Int)))
theorem kwD_isMap : ∀ k, Maps.IsMap (kwD k)
  | 0 => Maps.isMap_empty
  | k + 1 => (kwD_isMap k).put _ _
theorem kw_at_some {j : Nat} (z : DataW Unit) (h1 : 1 ≤ j) : ∀ k, j ≤ k → k ≤ 28 → (kwD k).atKey (.string (word j)) z = .lit (.int .i64 (j : Int))
  | 0, h2, _ => by omega
  | k + 1, h2, h3 => by
    unfold kwD
    by_cases e : j = k + 1
    · subst e
      exact Maps.atKey_put_same (kwD_isMap k) (show WideAt.IsKeyLit (Lit.string (word (k + 1))) from True.intro) _ _
    · rw [Maps.atKey_put_other (fun e' => word_ne h1 (by omega) (by omega) (by omega) e (Lit.string.inj e'))]
      exact kw_at_some z h1 k (by omega) (by omega)
theorem kw_at_none {l : List UInt8} (z : DataW Unit) : ∀ k, (∀ j, 1 ≤ j → j ≤ k → word j ≠ l) → (kwD k).atKey (.string l) z = z
  | 0, _ => rfl
  | k + 1, h => by
    unfold kwD
    rw [Maps.atKey_put_other (fun e' => h (k + 1) (by omega) (by omega) (Lit.string.inj e').symm)]
    exact kw_at_none z k (fun j h1 h2 => h j h1 (by omega))
theorem kw_at (l : List UInt8) (z : DataW Unit) : (kwD 28).atKey (.string l) z = if numOf l = 0 then z else .lit (.int .i64 (numOf l : Int)) := by
  rcases num_cases l with ⟨h1, h2⟩ | ⟨h1, h2, h3⟩
  · rw [if_pos h1]
    exact kw_at_none z 28 h2
  · rw [if_neg (by omega)]
    have := kw_at_some z h1 28 h2 (by omega)
    rw [h3] at this
    exact this
theorem kw_num {l : List UInt8} {c : Int} (h : (kwD 28).atKey (.string l) (.lit (.int .i64 0)) = .lit (.int .i64 c)) : c = (numOf l : Int) := by
  rw [kw_at] at h
  split at h
  · rename_i h0
    cases h; rw [h0]; rfl
  · cases h; rfl
theorem kw_has {k : Nat} (h1 : 1 ≤ k) (h2 : k ≤ 28) : Maps.has (kwD 28) (.string (word k)) = true :=
  Maps.has_true_of_atKey fun z => kw_at_some z h1 28 h2 (by omega)
/-- an entry of the map: its element is its word's number -/
theorem kw_entry {l : List UInt8} {c : Int} (h : ∀ z, (kwD 28).atKey (.string l) z = .lit (.int .i64 c)) : 1 ≤ numOf l ∧ numOf l ≤ 28 ∧ c = (numOf l : Int) ∧ word (numOf l) = l := by
  have h0 := h .nil
  rw [kw_at] at h0
  rcases num_cases l with ⟨h1, h2⟩ | ⟨h1, h2, h3⟩
  · rw [if_pos h1] at h0; cases h0
  · rw [if_neg (by omega)] at h0
    cases h0
    exact ⟨h1, h2, rfl, h3⟩

/-- block g holds the strings f 0, f 1, .. up to n -/
def StrRow (w : World) (g n : Nat) (f : Nat → ByteArray) : Prop := g < w.heap.size ∧ ∀ j, j < n → w.cell? ⟨g, j, none⟩ = some (.string (f j)) ∧ w.frozen? ⟨g, j, none⟩ = false
theorem StrRow.keep {w w' : World} {g n : Nat} {f : Nat → ByteArray} (h : StrRow w g n f) (hb : w'.heap[g]? = w.heap[g]?) (hs : w.heap.size ≤ w'.heap.size) : StrRow w' g n f :=
  ⟨by have := h.1; omega, fun j hj => ⟨(World.cell?_of_block (w := w) (w' := w') (a := ⟨g, j, none⟩) hb).trans (h.2 j hj).1, (World.frozen?_of_block (w := w) (w' := w') (a := ⟨g, j, none⟩) hb).trans (h.2 j hj).2⟩⟩
theorem StrRow.below {w w' : World} {g n B : Nat} {f : Nat → ByteArray} (h : StrRow w g n f) (hb : Below B w w') (hg : g < B) : StrRow w' g n f := h.keep (hb.block g hg) hb.size

/-- block g holds the bytes f 0, f 1, .. up to n -/
def ByteRow (w : World) (g n : Nat) (f : Nat → UInt8) : Prop := g < w.heap.size ∧ ∀ j, j < n → w.cell? ⟨g, j, none⟩ = some (.int .u8 ((f j).toNat : Int)) ∧ w.frozen? ⟨g, j, none⟩ = false
theorem ByteRow.keep {w w' : World} {g n : Nat} {f : Nat → UInt8} (h : ByteRow w g n f) (hb : w'.heap[g]? = w.heap[g]?) (hs : w.heap.size ≤ w'.heap.size) : ByteRow w' g n f :=
  ⟨by have := h.1; omega, fun j hj => ⟨(World.cell?_of_block (w := w) (w' := w') (a := ⟨g, j, none⟩) hb).trans (h.2 j hj).1, (World.frozen?_of_block (w := w) (w' := w') (a := ⟨g, j, none⟩) hb).trans (h.2 j hj).2⟩⟩
theorem ByteRow.below {w w' : World} {g n B : Nat} {f : Nat → UInt8} (h : ByteRow w g n f) (hb : Below B w w') (hg : g < B) : ByteRow w' g n f := h.keep (hb.block g hg) hb.size
/-- the first i are h's, the others f's -/
def mixB (i : Nat) (h f : Nat → UInt8) (j : Nat) : UInt8 := if j < i then h j else f j
theorem mixB_lt {i j : Nat} {h f : Nat → UInt8} (hj : j < i) : mixB i h f j = h j := if_pos hj
theorem mixB_ge {i j : Nat} {h f : Nat → UInt8} (hj : ¬ j < i) : mixB i h f j = f j := if_neg hj
theorem ByteRow.put {w : World} {g n i : Nat} {f h : Nat → UInt8} {x : Int} (H : ByteRow w g n (mixB i h f)) (hx : x = ((h i).toNat : Int)) : ByteRow (w.setCell ⟨g, i, none⟩ (.int .u8 x)) g n (mixB (i + 1) h f) := by
  subst hx
  refine ⟨by have := H.1; simpa using this, fun j hj => ?_⟩
  obtain ⟨h1, h2⟩ := H.2 j hj
  refine ⟨?_, by rw [World.frozen?_setCell]; exact h2⟩
  by_cases e : i = j
  · subst e
    rw [World.cell?_setCell_same _ _ _ h1, mixB_lt (by omega)]
  · rw [World.cell?_setCell_other _ _ _ _ (fun x => e (Addr.mk.inj x).2.1), h1]
    by_cases hl : j < i
    · rw [mixB_lt hl, mixB_lt (by omega)]
    · rw [mixB_ge hl, mixB_ge (by omega)]
theorem ByteRow.stay {w : World} {g n i : Nat} {f h : Nat → UInt8} (H : ByteRow w g n (mixB i h f)) (hx : h i = f i) : ByteRow w g n (mixB (i + 1) h f) := by
  refine ⟨H.1, fun j hj => ?_⟩
  have h1 := H.2 j hj
  by_cases e : j = i
  · subst e
    rw [mixB_ge (by omega), ← hx] at h1
    rw [mixB_lt (by omega)]; exact h1
  · by_cases hl : j < i
    · rw [mixB_lt hl] at h1; rw [mixB_lt (by omega)]; exact h1
    · rw [mixB_ge hl] at h1; rw [mixB_ge (by omega)]; exact h1
theorem ByteRow.start {w : World} {g n : Nat} {f h : Nat → UInt8} (H : ByteRow w g n f) : ByteRow w g n (mixB 0 h f) :=
  ⟨H.1, fun j hj => by rw [mixB_ge (by omega)]; exact H.2 j hj⟩

/-- the new row of a string's bytes -/
theorem bytesRow_of (w : World) (s : ByteArray) (cap : Nat) (e : TypeId) (m : Nat) (hm : m = (bytesRow s cap).size) : ByteRow (w.drew.alloc (.cells (bytesRow s cap) e (m, m + 1))) w.heap.size s.size (fun j => s.data.toList.getD j 0) := by
  have hsz : (w.drew).heap.size = w.heap.size := rfl
  refine ⟨by simp [hsz], fun j hj => ?_⟩
  have hj' : j < s.data.size := hj
  have hr : (bytesRow s cap).size ≥ s.size := by
    unfold bytesRow
    simp only [Array.size_append, Array.size_map, Array.size_replicate]
    have : s.data.size = s.size := rfl
    omega
  refine ⟨?_, ?_⟩
  · have := World.cell?_alloc_mark (w.drew) (bytesRow s cap) e (m, m + 1) j
    rw [hsz] at this
    rw [this, bytesRow_at s cap j hj']
    simp [List.getD_eq_getElem?_getD, Array.getElem?_eq_getElem hj']
  · have := World.frozen?_alloc_mark (w.drew) (bytesRow s cap) e m (m + 1) j
    rw [hsz] at this
    rw [this]
    simp; omega
/-- such a row as a string -/
theorem ByteRow.string {P : Program} {e src dst : TypeId} {w : World} {g n cap : Nat} {f : Nat → UInt8} {l : List UInt8} (h : ByteRow w g n f) (hl : l.length = n) (hf : ∀ j, j < n → f j = l.getD j 0)
    (hs : P.underlying src = some (.slice e)) (he : P.underlying e = some (.int .u8)) (hd : P.underlying dst = some .string) :
    (convert src dst (.slice (some ⟨g, 0, none⟩) n cap)).run P w = .ok (.string ⟨l.toArray⟩) w := by
  subst hl
  exact run_convert_bytes_back w src dst e ⟨g, 0, none⟩ cap l hs he hd fun j hj => by
    have hp : (⟨g, 0, none⟩ : Addr).add j = ⟨g, j, none⟩ := by unfold Addr.add; split <;> simp_all
    rw [hp, (h.2 j hj).1, hf j hj]
    simp [List.getD_eq_getElem?_getD, hj]
end Go.Proofs.Ytfmgkinindkedaa

/- What a plain name is; plain facts. -/
namespace Go.Proofs.Ytfmgkinindkedaa
open Go.RowKit

/-- all of l are letters, digits, underscores -/
def allWd (l : List UInt8) : Bool := l.all fun b => wd (b.toNat : Int)
theorem str_at {s : ByteArray} {k : Nat} (h : k < s.size) : s[k] = s.data.toList.getD k 0 := by
  have h' : k < s.data.size := h
  have e : s[k] = s.data[k] := rfl
  rw [e]
  simp [List.getD_eq_getElem?_getD, Array.getElem?_eq_getElem h']
theorem allWd_false {l : List UInt8} {k : Nat} (h : k < l.length) (hw : wd ((l.getD k 0).toNat : Int) = false) : allWd l = false := by
  unfold allWd
  rw [List.all_eq_false]
  refine ⟨l.getD k 0, ?_, by rw [hw]; simp⟩
  rw [List.getD_eq_getElem?_getD, List.getElem?_eq_getElem h]
  exact List.getElem_mem h
theorem allWd_true {l : List UInt8} (hw : ∀ k, k < l.length → wd ((l.getD k 0).toNat : Int) = true) : allWd l = true := by
  unfold allWd
  rw [List.all_eq_true]
  intro b hb
  obtain ⟨k, hk, rfl⟩ := List.getElem_of_mem hb
  have := hw k hk
  rwa [List.getD_eq_getElem?_getD, List.getElem?_eq_getElem hk] at this

theorem wd_more {l : List UInt8} {k : Nat} (H : Hid (∀ j, j < k → wd ((l.getD j 0).toNat : Int) = true)) (h : wd ((l.getD k 0).toNat : Int) = true) : Hid (∀ j, j < k + 1 → wd ((l.getD j 0).toNat : Int) = true) := fun j hj => by
  by_cases e : j = k
  · subst e; exact h
  · exact H.out j (by omega)
theorem wd_eq (n : Int) : wd n = (ltr n || n == 95 || dg n) := by unfold wd; rw [Bool.or_assoc, Bool.or_assoc, Bool.or_comm (dg n)]

/-- 1 to 20 bytes -/
def okLen (n : Nat) : Bool := decide (1 ≤ (n : Int)) && decide ((n : Int) ≤ 20)
/-- a plain name -/
def plainB (l : List UInt8) : Bool := okLen l.length && !dg ((l.getD 0 0).toNat : Int) && allWd l && decide (numOf (upL l) = 0)
end Go.Proofs.Ytfmgkinindkedaa
