/- Joined texts: KeyMath NameDef DecMath LexMath LexMath2 ValAt. -/
import Derived.Test.YtkacelpndeoogaaQPB
import Derived.Test.YtkacelpndeoogaaQPA
import Derived.WalkKit
import Derived.ProofKit
import Derived.Maps.RangeWalk
import Derived.Maps.OwnOps
import Derived.Lib.Hide
import Derived.Lib.SlicesS
import Derived.Lib.ItoaNum
import Derived.Lib.Strings
/- Keywords: the words, folding, and what stands at a key of the map of keywords. No program. -/
namespace Go.Proofs.Ytkacelpndeoogaa
open Go.RowKit

/-- the keywords in their order, behind the empty word -/
def words : List (List UInt8) := [[], [83, 69, 76, 69, 67, 84], [68, 73, 83, 84, 73, 78, 67, 84], [70, 82, 79, 77], [74, 79, 73, 78], [79, 78], [87, 72, 69, 82, 69], [79, 82, 68, 69, 82], [66, 89], [65, 83, 67], [68, 69, 83, 67], [76, 73, 77, 73, 84], [65, 83], [65, 78, 68], [79, 82], [78, 79, 84], [73, 83], [73, 78], [66, 69, 84, 87, 69, 69, 78], [69, 88, 73, 83, 84, 83], [78, 85, 76, 76], [84, 82, 85, 69], [70, 65, 76, 83, 69], [73, 78, 83, 69, 82, 84], [73, 78, 84, 79], [86, 65, 76, 85, 69, 83], [85, 80, 68, 65, 84, 69], [83, 69, 84], [68, 69, 76, 69, 84, 69]]
def word (k : Nat) : List UInt8 := words.getD k []
def wordB (k : Nat) : ByteArray := ⟨(word k).toArray⟩

/-- the byte in upper case -/
def upB (b : UInt8) : UInt8 := if 97 ≤ b.toNat ∧ b.toNat ≤ 122 then UInt8.ofNat (b.toNat - 32) else b
def upL (l : List UInt8) : List UInt8 := l.map upB
theorem upB_low {b : UInt8} (h1 : 97 ≤ b.toNat) (h2 : b.toNat ≤ 122) : (upB b).toNat = b.toNat - 32 := by
  unfold upB; rw [if_pos ⟨h1, h2⟩]; simp; omega
theorem upB_else {b : UInt8} (h : ¬ (97 ≤ b.toNat ∧ b.toNat ≤ 122)) : upB b = b := by
  unfold upB; rw [if_neg h]
theorem upL_len (l : List UInt8) : (upL l).length = l.length := by simp [upL]

/-- the number of a word, 0 where it is none -/
def numOf (l : List UInt8) : Nat := ((List.range 29).find? (fun k => decide (1 ≤ k) && (word k == l))).getD 0
theorem num_word {k : Nat} (h1 : 1 ≤ k) (h2 : k ≤ 28) : numOf (word k) = k := by
  have h : ∀ j, j < 29 → 1 ≤ j → numOf (word j) = j := by decide +kernel
  exact h k (by omega) h1
theorem num_cases (l : List UInt8) : (numOf l = 0 ∧ ∀ k, 1 ≤ k → k ≤ 28 → word k ≠ l) ∨ (1 ≤ numOf l ∧ numOf l ≤ 28 ∧ word (numOf l) = l) := by
  unfold numOf
  rcases h : (List.range 29).find? (fun k => decide (1 ≤ k) && (word k == l)) with _ | k
  · refine .inl ⟨rfl, fun k h1 h2 e => ?_⟩
    have := List.find?_eq_none.1 h k (by simp; omega)
    simp [h1, e] at this
  · refine .inr ?_
    have h1 := List.find?_some h
    have h2 := List.mem_of_find?_eq_some h
    simp at h1 h2
    exact ⟨h1.1, by simp; omega, h1.2⟩
theorem num_le (l : List UInt8) : numOf l ≤ 28 := by rcases num_cases l with h | h <;> omega
theorem num_of_word {l : List UInt8} {k : Nat} (h1 : 1 ≤ k) (h2 : k ≤ 28) (h : word k = l) : numOf l = k := by rw [← h]; exact num_word h1 h2
theorem word_ne {j k : Nat} (h1 : 1 ≤ j) (h2 : j ≤ 28) (h3 : 1 ≤ k) (h4 : k ≤ 28) (h : j ≠ k) : word j ≠ word k := fun e => h (by
  rw [← num_word h1 h2, e, num_word h3 h4])
theorem word_len {k : Nat} (h : k ≤ 28) : (word k).length ≤ 8 := by
  have h' : ∀ j, j < 29 → (word j).length ≤ 8 := by decide +kernel
  exact h' k (by omega)
theorem num_long {l : List UInt8} (h : 8 < l.length) : numOf l = 0 := by
  rcases num_cases l with h' | ⟨h1, h2, h3⟩
  · exact h'.1
  · have := word_len h2; rw [h3] at this; omega
theorem word_upper {k : Nat} (h : k ≤ 28) : ∀ b ∈ word k, 65 ≤ b.toNat ∧ b.toNat ≤ 90 := by
  have h' : ∀ j, j < 29 → ∀ b ∈ word j, 65 ≤ b.toNat ∧ b.toNat ≤ 90 := by decide +kernel
  exact h' k (by omega)

/-- the map of the first k keywords -/
def kwD : Nat → DataW Unit
  | 0 => .map []
  | k + 1 => (kwD k).put (.string (word (k + 1))) (.lit (.int .i64 ((k + 1 : Nat) : Int)))
theorem kwD_isMap : ∀ k, Maps.IsMap (kwD k)
  | 0 => Maps.isMap_empty
  | k + 1 => (kwD_isMap k).put _ _
theorem kw_at_some {j : Nat} (z : DataW Unit) (h1 : 1 ≤ j) : ∀ k, j ≤ k → k ≤ 28 → (kwD k).atKey (.string (word j)) z = .lit (.int .i64 (j : Int))
  | 0, h2, _ => by omega
  | k + 1, h2, h3 => by
    unfold kwD
    by_cases e : j = k + 1
    · subst e
      exact Maps.atKey_put_same (kwD_isMap k) (show WideAt.IsKeyLit (Lit.string (word (k + 1))) from True.intro) _ _
    · rw [Maps.atKey_put_other (fun e' => word_ne h1 (by omega) (by omega) (by omega) e (Lit.string.inj e'))]
      exact kw_at_some z h1 k (by omega) (by omega)
theorem kw_at_none {l : List UInt8} (z : DataW Unit) : ∀ k, (∀ j, 1 ≤ j → j ≤ k → word j ≠ l) → (kwD k).atKey (.string l) z = z
  | 0, _ => rfl
  | k + 1, h => by
    unfold kwD
    rw [Maps.atKey_put_other (fun e' => h (k + 1) (by omega) (by omega) (Lit.string.inj e').symm)]
    exact kw_at_none z k (fun j h1 h2 => h j h1 (by omega))
theorem kw_at (l : List UInt8) (z : DataW Unit) : (kwD 28).atKey (.string l) z = if numOf l = 0 then z else .lit (.int .i64 (numOf l : Int)) := by
  rcases num_cases l with ⟨h1, h2⟩ | ⟨h1, h2, h3⟩
  · rw [if_pos h1]
    exact kw_at_none z 28 h2
  · rw [if_neg (by omega)]
    have := kw_at_some z h1 28 h2 (by omega)
    rw [h3] at this
    exact this
theorem kw_num {l : List UInt8} {c : Int} (h : (kwD 28).atKey (.string l) (.lit (.int .i64 0)) = .lit (.int .i64 c)) : c = (numOf l : Int) := by
  rw [kw_at] at h
  split at h
  · rename_i h0
    cases h; rw [h0]; rfl
  · cases h; rfl
theorem kw_has {k : Nat} (h1 : 1 ≤ k) (h2 : k ≤ 28) : Maps.has (kwD 28) (.string (word k)) = true :=
  Maps.has_true_of_atKey fun z => kw_at_some z h1 28 h2 (by omega)
/-- an entry of the map: its element is its word's number -/
theorem kw_entry {l : List UInt8} {c : Int} (h : ∀ z, (kwD 28).atKey (.string l) z = .lit (.int .i64 c)) : 1 ≤ numOf l ∧ numOf l ≤ 28 ∧ c = (numOf l : Int) ∧ word (numOf l) = l := by
  have h0 := h .nil
  rw [kw_at] at h0
  rcases num_cases l with ⟨h1, h2⟩ | ⟨h1, h2, h3⟩
  · rw [if_pos h1] at h0; cases h0
  · rw [if_neg (by omega)] at h0
    cases h0
    exact ⟨h1, h2, rfl, h3⟩

/-- block g holds the strings f 0, f 1, .. up to n -/
def StrRow (w : World) (g n : Nat) (f : Nat → ByteArray) : Prop := g < w.heap.size ∧ ∀ j, j < n → w.cell? ⟨g, j, none⟩ = some (.string (f j)) ∧ w.frozen? ⟨g, j, none⟩ = false
theorem StrRow.keep {w w' : World} {g n : Nat} {f : Nat → ByteArray} (h : StrRow w g n f) (hb : w'.heap[g]? = w.heap[g]?) (hs : w.heap.size ≤ w'.heap.size) : StrRow w' g n f :=
  ⟨by have := h.1; omega, fun j hj => ⟨(World.cell?_of_block (w := w) (w' := w') (a := ⟨g, j, none⟩) hb).trans (h.2 j hj).1, (World.frozen?_of_block (w := w) (w' := w') (a := ⟨g, j, none⟩) hb).trans (h.2 j hj).2⟩⟩
theorem StrRow.below {w w' : World} {g n B : Nat} {f : Nat → ByteArray} (h : StrRow w g n f) (hb : Below B w w') (hg : g < B) : StrRow w' g n f := h.keep (hb.block g hg) hb.size

/-- block g holds the bytes f 0, f 1, .. up to n -/
def ByteRow (w : World) (g n : Nat) (f : Nat → UInt8) : Prop := g < w.heap.size ∧ ∀ j, j < n → w.cell? ⟨g, j, none⟩ = some (.int .u8 ((f j).toNat : Int)) ∧ w.frozen? ⟨g, j, none⟩ = false
theorem ByteRow.keep {w w' : World} {g n : Nat} {f : Nat → UInt8} (h : ByteRow w g n f) (hb : w'.heap[g]? = w.heap[g]?) (hs : w.heap.size ≤ w'.heap.size) : ByteRow w' g n f :=
  ⟨by have := h.1; omega, fun j hj => ⟨(World.cell?_of_block (w := w) (w' := w') (a := ⟨g, j, none⟩) hb).trans (h.2 j hj).1, (World.frozen?_of_block (w := w) (w' := w') (a := ⟨g, j, none⟩) hb).trans (h.2 j hj).2⟩⟩
theorem ByteRow.below {w w' : World} {g n B : Nat} {f : Nat → UInt8} (h : ByteRow w g n f) (hb : Below B w w') (hg : g < B) : ByteRow w' g n f := h.keep (hb.block g hg) hb.size
/-- the first i are h's, the others f's -/
def mixB (i : Nat) (h f : Nat → UInt8) (j : Nat) : UInt8 := if j < i then h j else f j
theorem mixB_lt {i j : Nat} {h f : Nat → UInt8} (hj : j < i) : mixB i h f j = h j := if_pos hj
theorem mixB_ge {i j : Nat} {h f : Nat → UInt8} (hj : ¬ j < i) : mixB i h f j = f j := if_neg hj
theorem ByteRow.put {w : World} {g n i : Nat} {f h : Nat → UInt8} {x : Int} (H : ByteRow w g n (mixB i h f)) (hx : x = ((h i).toNat : Int)) : ByteRow (w.setCell ⟨g, i, none⟩ (.int .u8 x)) g n (mixB (i + 1) h f) := by
  subst hx
  refine ⟨by have := H.1; simpa using this, fun j hj => ?_⟩
  obtain ⟨h1, h2⟩ := H.2 j hj
  refine ⟨?_, by rw [World.frozen?_setCell]; exact h2⟩
  by_cases e : i = j
  · subst e
    rw [World.cell?_setCell_same _ _ _ h1, mixB_lt (by omega)]
  · rw [World.cell?_setCell_other _ _ _ _ (fun x => e (Addr.mk.inj x).2.1), h1]
    by_cases hl : j < i
    · rw [mixB_lt hl, mixB_lt (by omega)]
    · rw [mixB_ge hl, mixB_ge (by omega)]
theorem ByteRow.stay {w : World} {g n i : Nat} {f h : Nat → UInt8} (H : ByteRow w g n (mixB i h f)) (hx : h i = f i) : ByteRow w g n (mixB (i + 1) h f) := by
  refine ⟨H.1, fun j hj => ?_⟩
  have h1 := H.2 j hj
  by_cases e : j = i
  · subst e
    rw [mixB_ge (by omega), ← hx] at h1
    rw [mixB_lt (by omega)]; exact h1
  · by_cases hl : j < i
    · rw [mixB_lt hl] at h1; rw [mixB_lt (by omega)]; exact h1
    · rw [mixB_ge hl] at h1; rw [mixB_ge (by omega)]; exact h1
theorem ByteRow.start {w : World} {g n : Nat} {f h : Nat → UInt8} (H : ByteRow w g n f) : ByteRow w g n (mixB 0 h f) :=
  ⟨H.1, fun j hj => by rw [mixB_ge (by omega)]; exact H.2 j hj⟩

/-- the new row of a string's bytes -/
theorem bytesRow_of (w : World) (s : ByteArray) (cap : Nat) (e : TypeId) (m : Nat) (hm : m = (bytesRow s cap).size) : ByteRow (w.drew.alloc (.cells (bytesRow s cap) e (m, m + 1))) w.heap.size s.size (fun j => s.data.toList.getD j 0) := by
  have hsz : (w.drew).heap.size = w.heap.size := rfl
  refine ⟨by simp [hsz], fun j hj => ?_⟩
  have hj' : j < s.data.size := hj
  have hr : (bytesRow s cap).size ≥ s.size := by
    unfold bytesRow
    simp only [Array.size_append, Array.size_map, Array.size_replicate]
    have : s.data.size = s.size := rfl
    omega
  refine ⟨?_, ?_⟩
  · have := World.cell?_alloc_mark (w.drew) (bytesRow s cap) e (m, m + 1) j
    rw [hsz] at this
    rw [this, bytesRow_at s cap j hj']
    simp [List.getD_eq_getElem?_getD, Array.getElem?_eq_getElem hj']
  · have := World.frozen?_alloc_mark (w.drew) (bytesRow s cap) e m (m + 1) j
    rw [hsz] at this
    rw [this]
    simp; omega
/-- such a row as a string -/
theorem ByteRow.string {P : Program} {e src dst : TypeId} {w : World} {g n cap : Nat} {f : Nat → UInt8} {l : List UInt8} (h : ByteRow w g n f) (hl : l.length = n) (hf : ∀ j, j < n → f j = l.getD j 0)
    (hs : P.underlying src = some (.slice e)) (he : P.underlying e = some (.int .u8)) (hd : P.underlying dst = some .string) :
    (convert src dst (.slice (some ⟨g, 0, none⟩) n cap)).run P w = .ok (.string ⟨l.toArray⟩) w := by
  subst hl
  exact run_convert_bytes_back w src dst e ⟨g, 0, none⟩ cap l hs he hd fun j hj => by
    have hp : (⟨g, 0, none⟩ : Addr).add j = ⟨g, j, none⟩ := by unfold Addr.add; split <;> simp_all
    rw [hp, (h.2 j hj).1, hf j hj]
    simp [List.getD_eq_getElem?_getD, hj]
end Go.Proofs.Ytkacelpndeoogaa

/- What a plain name is; plain facts. -/
namespace Go.Proofs.Ytkacelpndeoogaa
open Go.RowKit

/-- all of l are letters, digits, underscores -/
def allWd (l : List UInt8) : Bool := l.all fun b => wd (b.toNat : Int)
theorem str_at {s : ByteArray} {k : Nat} (h : k < s.size) : s[k] = s.data.toList.getD k 0 := by
  have h' : k < s.data.size := h
  have e : s[k] = s.data[k] := rfl
  rw [e]
  simp [List.getD_eq_getElem?_getD, Array.getElem?_eq_getElem h']
theorem allWd_false {l : List UInt8} {k : Nat} (h : k < l.length) (hw : wd ((l.getD k 0).toNat : Int) = false) : allWd l = false := by
  unfold allWd
  rw [List.all_eq_false]
  refine ⟨l.getD k 0, ?_, by rw [hw]; simp⟩
  rw [List.getD_eq_getElem?_getD, List.getElem?_eq_getElem h]
  exact List.getElem_mem h
theorem allWd_true {l : List UInt8} (hw : ∀ k, k < l.length → wd ((l.getD k 0).toNat : Int) = true) : allWd l = true := by
  unfold allWd
  rw [List.all_eq_true]
  intro b hb
  obtain ⟨k, hk, rfl⟩ := List.getElem_of_mem hb
  have := hw k hk
  rwa [List.getD_eq_getElem?_getD, List.getElem?_eq_getElem hk] at this

theorem wd_more {l : List UInt8} {k : Nat} (H : Hid (∀ j, j < k → wd ((l.getD j 0).toNat : Int) = true)) (h : wd ((l.getD k 0).toNat : Int) = true) : Hid (∀ j, j < k + 1 → wd ((l.getD j 0).toNat : Int) = true) := fun j hj => by
  by_cases e : j = k
  · subst e; exact h
  · exact H.out j (by omega)
theorem wd_eq (n : Int) : wd n = (ltr n || n == 95 || dg n) := by unfold wd; rw [Bool.or_assoc, Bool.or_assoc, Bool.or_comm (dg n)]

/-- 1 to 20 bytes -/
def okLen (n : Nat) : Bool := decide (1 ≤ (n : Int)) && decide ((n : Int) ≤ 20)
/-- a plain name -/
def plainB (l : List UInt8) : Bool := okLen l.length && !dg ((l.getD 0 0).toNat : Int) && allWd l && decide (numOf (upL l) = 0)
end Go.Proofs.Ytkacelpndeoogaa

/- Plain facts on decimal numerals. -/
namespace Go.Proofs.Ytkacelpndeoogaa
open Go.Lib (decDigits)

def digVal (l : List UInt8) : Nat := l.foldl (fun n b => 10 * n + (b.toNat - 48)) 0
def isDig (b : UInt8) : Prop := 48 ≤ b.toNat ∧ b.toNat ≤ 57
def allDig (l : List UInt8) : Prop := ∀ b ∈ l, isDig b

theorem digVal_snoc (l : List UInt8) (b : UInt8) : digVal (l ++ [b]) = 10 * digVal l + (b.toNat - 48) := by simp [digVal]
theorem digVal_app (a b : List UInt8) : digVal a ≤ digVal (a ++ b) := by
  induction b generalizing a with
  | nil => simp
  | cons x b ih =>
    have h1 := ih (a ++ [x])
    rw [digVal_snoc] at h1
    have e : a ++ [x] ++ b = a ++ x :: b := by simp
    rw [e] at h1
    omega
theorem digVal_take (l : List UInt8) (k : Nat) : digVal (l.take k) ≤ digVal l := by
  have := digVal_app (l.take k) (l.drop k)
  rwa [List.take_append_drop] at this

theorem dec_small {u : Nat} (h : u < 10) : decDigits u = [UInt8.ofNat (48 + u)] := by rw [decDigits, dif_pos h]
theorem dec_big {u : Nat} (h : ¬ u < 10) : decDigits u = decDigits (u / 10) ++ [UInt8.ofNat (48 + u % 10)] := by rw [decDigits, dif_neg h]
theorem nat_dig {u : Nat} (h : u < 10) : (UInt8.ofNat (48 + u)).toNat = 48 + u := by simp; omega

theorem dec_shape (u : Nat) : allDig (decDigits u) ∧ digVal (decDigits u) = u ∧ (∃ b t, decDigits u = b :: t ∧ (b.toNat = 48 → u = 0)) := by
  induction u using Nat.strongRecOn with
  | _ u ih =>
    by_cases h : u < 10
    · rw [dec_small h]
      refine ⟨fun b hb => ?_, ?_, _, _, rfl, ?_⟩
      · have : b = UInt8.ofNat (48 + u) := by simpa using hb
        rw [this]; unfold isDig; rw [nat_dig h]; omega
      · simp only [digVal, List.foldl_cons, List.foldl_nil]; rw [nat_dig h]; omega
      · rw [nat_dig h]; omega
    · obtain ⟨h1, h2, b, t, h3, h4⟩ := ih (u / 10) (by omega)
      have hd : (UInt8.ofNat (48 + u % 10)).toNat = 48 + u % 10 := nat_dig (by omega)
      rw [dec_big h]
      refine ⟨fun c hc => ?_, ?_, b, t ++ [UInt8.ofNat (48 + u % 10)], by rw [h3]; rfl, fun hb => ?_⟩
      · rcases List.mem_append.1 hc with hc | hc
        · exact h1 c hc
        · have : c = UInt8.ofNat (48 + u % 10) := by simpa using hc
          rw [this]; unfold isDig; rw [hd]; omega
      · rw [digVal_snoc, h2, hd]; omega
      · have := h4 hb; omega
theorem digVal_pos_of {b : UInt8} {t : List UInt8} (hb : isDig b) (h : b.toNat ≠ 48) : 0 < digVal (b :: t) := by
  have := digVal_app [b] t
  simp only [digVal, List.foldl_cons, List.foldl_nil] at this
  obtain ⟨h1, h2⟩ := hb
  simp only [digVal]
  simp only [List.cons_append, List.nil_append, List.foldl_cons] at this ⊢
  omega
/-- a numeral without a leading zero is what is written of its number -/
theorem dec_digVal : ∀ (n : Nat) (l : List UInt8), l.length = n + 1 → allDig l → (∀ b t, l = b :: t → b.toNat = 48 → t = []) → decDigits (digVal l) = l
  | 0, l, hl, hd, _ => by
    obtain ⟨b, rfl⟩ : ∃ b, l = [b] := List.length_eq_one_iff.1 hl
    obtain ⟨h1, h2⟩ := hd b (by simp)
    have hv : digVal [b] = b.toNat - 48 := by simp [digVal]
    rw [hv, dec_small (by omega)]
    congr 1
    apply UInt8.toNat_inj.1
    rw [nat_dig (by omega)]; omega
  | n + 1, l, hl, hd, hz => by
    have hne : l ≠ [] := by intro e; simp [e] at hl
    obtain ⟨m, c, rfl⟩ : ∃ m c, l = m ++ [c] := ⟨l.dropLast, l.getLast hne, (List.dropLast_concat_getLast hne).symm⟩
    have hml : m.length = n + 1 := by simp at hl; omega
    have hm : allDig m := fun x hx => hd x (by simp [hx])
    obtain ⟨b, t, hbt⟩ : ∃ b t, m = b :: t := by
      cases m with
      | nil => simp at hml
      | cons b t => exact ⟨b, t, rfl⟩
    have hb48 : b.toNat ≠ 48 := by
      intro e
      have := hz b (t ++ [c]) (by rw [hbt]; rfl) e
      simp at this
    have ih := dec_digVal n m hml hm (fun x s hx he => by
      rw [hbt] at hx
      have hxb : x = b := by simpa using (List.cons.inj hx).1.symm
      rw [hxb] at he; exact absurd he hb48)
    have hpos : 0 < digVal m := by rw [hbt]; exact digVal_pos_of (hm b (by rw [hbt]; simp)) hb48
    obtain ⟨c1, c2⟩ := hd c (by simp)
    rw [digVal_snoc, dec_big (by omega)]
    have e1 : (10 * digVal m + (c.toNat - 48)) / 10 = digVal m := by omega
    have e2 : (10 * digVal m + (c.toNat - 48)) % 10 = c.toNat - 48 := by omega
    rw [e1, e2, ih]
    congr 2
    apply UInt8.toNat_inj.1
    rw [nat_dig (by omega)]; omega
theorem dec_len (k : Nat) : ∀ u, u < 10 ^ (k + 1) → (decDigits u).length ≤ k + 1 := by
  induction k with
  | zero => intro u h; rw [dec_small (by omega)]; simp
  | succ k ih =>
    intro u h
    by_cases hu : u < 10
    · rw [dec_small hu]; simp
    · rw [dec_big hu]
      have := ih (u / 10) (by rw [Nat.div_lt_iff_lt_mul (by omega)]; rw [← Nat.pow_succ]; exact h)
      simp; omega

/-- s is what is written of n -/
def Num (s : List UInt8) (n : Nat) : Prop := n ≤ 9223372036854775807 ∧ decDigits n = s
theorem Num.val {s : List UInt8} {n : Nat} (h : Num s n) : n = digVal s := by rw [← h.2, (dec_shape n).2.1]
theorem Num.uniq {s : List UInt8} {n m : Nat} (h : Num s n) (g : Num s m) : n = m := h.val.trans g.val.symm
theorem Num.dig {s : List UInt8} {n : Nat} (h : Num s n) : allDig s := h.2 ▸ (dec_shape n).1
theorem Num.ne {s : List UInt8} {n : Nat} (h : Num s n) : s ≠ [] := by
  obtain ⟨b, t, e, _⟩ := (dec_shape n).2.2
  rw [← h.2, e]; simp
theorem Num.len {s : List UInt8} {n : Nat} (h : Num s n) : s.length ≤ 19 := by rw [← h.2]; exact dec_len 18 n (by have := h.1; omega)
theorem Num.lead {s t : List UInt8} {n : Nat} {b : UInt8} (h : Num s n) (e : s = b :: t) (hb : b.toNat = 48) : t = [] := by
  obtain ⟨c, t2, e2, h0⟩ := (dec_shape n).2.2
  rw [h.2, e] at e2
  have hc : b = c := (List.cons.inj e2).1
  have hn := h0 (hc ▸ hb)
  have h3 := h.2
  rw [hn, dec_small (by omega), e] at h3
  exact (List.cons.inj h3).2.symm
theorem Num.le {s : List UInt8} {n : Nat} (h : Num s n) (k : Nat) : digVal (s.take k) ≤ 9223372036854775807 := by
  have := digVal_take s k; rw [← h.val] at this; have := h.1; omega
theorem num_of {s : List UInt8} (hne : s ≠ []) (hd : allDig s) (hv : digVal s ≤ 9223372036854775807) (hz : ∀ b t, s = b :: t → b.toNat = 48 → t = []) : Num s (digVal s) :=
  ⟨hv, dec_digVal (s.length - 1) s (by have := List.length_pos_iff.2 hne; omega) hd hz⟩
theorem allDig_snoc {l : List UInt8} {b : UInt8} (h : allDig l) (hb : isDig b) : allDig (l ++ [b]) := by
  intro c hc
  rcases List.mem_append.1 hc with hc | hc
  · exact h c hc
  · have : c = b := by simpa using hc
    rw [this]; exact hb
end Go.Proofs.Ytkacelpndeoogaa

/- The lexer as plain functions of a list of bytes. No program. -/
namespace Go.Proofs.Ytkacelpndeoogaa
open Go.RowKit
open Go.Lib (decDigits)

/-- l from a up to b -/
def sl (l : List UInt8) (a b : Nat) : List UInt8 := (l.drop a).take (b - a)
/-- white space -/
def spB (b : UInt8) : Bool := b == 32 || b == 9 || b == 10 || b == 13
/-- the bytes x and y stand at a -/
def is2 (l : List UInt8) (a : Nat) (x y : UInt8) : Bool := decide (a + 1 < l.length) && (l.getD a 0 == x) && (l.getD (a + 1) 0 == y)
/-- the next newline from a on, or the end -/
def lineEnd (l : List UInt8) (a : Nat) : Nat :=
  if a < l.length then (if l.getD a 0 = 10 then a else lineEnd l (a + 1)) else a
termination_by l.length - a
theorem lineEnd_ge (l : List UInt8) : ∀ (n a : Nat), l.length - a = n → a ≤ lineEnd l a
  | 0, a, h => by rw [lineEnd, if_neg (by omega)]; exact Nat.le_refl _
  | n + 1, a, h => by
    rw [lineEnd, if_pos (by omega)]
    split
    · exact Nat.le_refl _
    · have := lineEnd_ge l n (a + 1) (by omega); omega
/-- the next end of a comment from a on, or the end -/
def closeAt (l : List UInt8) (a : Nat) : Nat :=
  if a < l.length then (if is2 l a 42 47 then a else closeAt l (a + 1)) else a
termination_by l.length - a
theorem closeAt_ge (l : List UInt8) : ∀ (n a : Nat), l.length - a = n → a ≤ closeAt l a
  | 0, a, h => by rw [closeAt, if_neg (by omega)]; exact Nat.le_refl _
  | n + 1, a, h => by
    rw [closeAt, if_pos (by omega)]
    split
    · exact Nat.le_refl _
    · have := closeAt_ge l n (a + 1) (by omega); omega
theorem is2_lt {l : List UInt8} {a : Nat} {x y : UInt8} (h : is2 l a x y = true) : a + 1 < l.length := by
  unfold is2 at h; simp at h; exact h.1.1
theorem closeAt_two {l : List UInt8} : ∀ (n a : Nat), l.length - a = n → closeAt l a < l.length → closeAt l a + 2 ≤ l.length
  | 0, a, h, h2 => by rw [closeAt, if_neg (by omega)] at h2; omega
  | n + 1, a, h, h2 => by
    rw [closeAt, if_pos (by omega)] at h2 ⊢
    split
    · rename_i h3
      have := is2_lt h3; omega
    · rename_i h3
      rw [if_neg h3] at h2
      exact closeAt_two n (a + 1) (by omega) h2
/-- what is between is passed over; below 0 where a comment has no end -/
def pass (l : List UInt8) (a : Nat) : Int :=
  if a < l.length then
    if spB (l.getD a 0) then pass l (a + 1)
    else if is2 l a 45 45 then pass l (lineEnd l (a + 2))
    else if is2 l a 47 42 then (if closeAt l (a + 2) < l.length then pass l (closeAt l (a + 2) + 2) else -(a : Int) - 1)
    else (a : Int)
  else (a : Int)
termination_by l.length - a
decreasing_by
  · omega
  · have := lineEnd_ge l _ (a + 2) rfl; omega
  · have := closeAt_ge l _ (a + 2) rfl; omega
/-- the end of the letters, digits and underscores from a on -/
def runEnd (l : List UInt8) (a : Nat) : Nat :=
  if a < l.length then (if wd ((l.getD a 0).toNat : Int) then runEnd l (a + 1) else a) else a
termination_by l.length - a
theorem runEnd_ge (l : List UInt8) : ∀ (n a : Nat), l.length - a = n → a ≤ runEnd l a
  | 0, a, h => by rw [runEnd, if_neg (by omega)]; exact Nat.le_refl _
  | n + 1, a, h => by
    rw [runEnd, if_pos (by omega)]
    split
    · have := runEnd_ge l n (a + 1) (by omega); omega
    · exact Nat.le_refl _
theorem runEnd_le (l : List UInt8) : ∀ (n a : Nat), l.length - a = n → a ≤ l.length → runEnd l a ≤ l.length
  | 0, a, h, h2 => by rw [runEnd, if_neg (by omega)]; omega
  | n + 1, a, h, h2 => by
    rw [runEnd, if_pos (by omega)]
    split
    · exact runEnd_le l n (a + 1) (by omega) (by omega)
    · omega
/-- what stands between quotes q from i on, and the place behind -/
def quo (q : UInt8) (l : List UInt8) (i : Nat) : Option (List UInt8 × Nat) :=
  if i < l.length then
    if l.getD i 0 = q then
      (if i + 1 < l.length ∧ l.getD (i + 1) 0 = q then (quo q l (i + 2)).map (fun r => (q :: r.1, r.2)) else some ([], i + 1))
    else (quo q l (i + 1)).map (fun r => (l.getD i 0 :: r.1, r.2))
  else none
termination_by l.length - i
theorem quo_end (q : UInt8) (l : List UInt8) : ∀ (n i : Nat), l.length - i ≤ n → ∀ r, quo q l i = some r → i + r.1.length < r.2 ∧ r.2 ≤ l.length
  | 0, i, h, r, hr => by rw [quo, if_neg (by omega)] at hr; cases hr
  | n + 1, i, h, r, hr => by
    rw [quo] at hr
    split at hr
    · split at hr
      · split at hr
        · obtain ⟨r', h1, rfl⟩ := Option.map_eq_some_iff.1 hr
          have := quo_end q l n (i + 2) (by omega) r' h1
          refine ⟨?_, this.2⟩
          show i + (r'.1.length + 1) < r'.2
          omega
        · cases hr
          exact ⟨by show i + 0 < i + 1; omega, by show i + 1 ≤ _; omega⟩
      · obtain ⟨r', h1, rfl⟩ := Option.map_eq_some_iff.1 hr
        have := quo_end q l n (i + 1) (by omega) r' h1
        refine ⟨?_, this.2⟩
        show i + (r'.1.length + 1) < r'.2
        omega
    · cases hr

def signs : List (List UInt8) := [[40], [41], [44], [46], [42], [43], [45], [47], [37], [61], [60, 62], [60], [60, 61], [62], [62, 61], [124, 124]]
def signB (t : List UInt8) : Bool := signs.contains t
def numB (t : List UInt8) : Bool := decide (digVal t ≤ 9223372036854775807) && (decDigits (digVal t) == t)
theorem numB_iff (t : List UInt8) : numB t = true ↔ ∃ n, Num t n := by
  unfold numB Num
  simp
  constructor
  · rintro ⟨h1, h2⟩; exact ⟨_, h1, h2⟩
  · rintro ⟨n, h1, h2⟩
    have e : n = digVal t := (show Num t n from ⟨h1, h2⟩).val
    subst e; exact ⟨h1, h2⟩

/-- the document's condition on a token's kind and text -/
def tokOk (k : Int) (t : List UInt8) : Bool :=
  if k = 1 then decide (0 < numOf (upL t)) && (upL t == t)
  else if k = 2 then okLen t.length
  else if k = 3 then numB t
  else if k = 4 then decide (t.length ≤ 40)
  else if k = 5 then signB t
  else false

/-- a token: its kind, its text, its place -/
structure Tk where
  k : Int
  t : List UInt8
  a : Nat
/-- begins with a letter or an underscore -/
def let1 (l : List UInt8) (a : Nat) : Bool := ltr ((l.getD a 0).toNat : Int) || ((l.getD a 0).toNat : Int) == 95
/-- what a token at a is read as, and the place behind -/
def raw (l : List UInt8) (a : Nat) : Option (Tk × Nat) :=
  let b := l.getD a 0
  if let1 l a then
    (if 0 < numOf (upL (sl l a (runEnd l a))) then some (⟨1, upL (sl l a (runEnd l a)), a⟩, runEnd l a) else some (⟨2, sl l a (runEnd l a), a⟩, runEnd l a))
  else if dg (b.toNat : Int) then some (⟨3, sl l a (runEnd l a), a⟩, runEnd l a)
  else if b = 34 then (quo 34 l (a + 1)).map (fun r => (⟨2, r.1, a⟩, r.2))
  else if b = 39 then (quo 39 l (a + 1)).map (fun r => (⟨4, r.1, a⟩, r.2))
  else if a + 2 ≤ l.length ∧ signB (sl l a (a + 2)) = true then some (⟨5, sl l a (a + 2), a⟩, a + 2)
  else some (⟨5, sl l a (a + 1), a⟩, a + 1)
def one (l : List UInt8) (a : Nat) : Option (Tk × Nat) :=
  match raw l a with
  | some (t, e) => if tokOk t.k t.t then some (t, e) else none
  | none => none
theorem pass_ge (l : List UInt8) : ∀ (n a : Nat), l.length - a ≤ n → pass l a < 0 ∨ (a : Int) ≤ pass l a
  | 0, a, h => by rw [pass, if_neg (by omega)]; omega
  | n + 1, a, h => by
    rw [pass]
    split
    · split
      · have := pass_ge l n (a + 1) (by omega); omega
      · split
        · have h1 := lineEnd_ge l _ (a + 2) rfl
          have := pass_ge l n (lineEnd l (a + 2)) (by omega); omega
        · split
          · split
            · have h1 := closeAt_ge l _ (a + 2) rfl
              have := pass_ge l n (closeAt l (a + 2) + 2) (by omega); omega
            · omega
          · omega
    · omega
theorem raw_end {l : List UInt8} {a : Nat} {t : Tk} {e : Nat} (ha : a < l.length) (h : raw l a = some (t, e)) : a < e ∧ e ≤ l.length ∧ t.a = a := by
  have hw : wd ((l.getD a 0).toNat : Int) = true → a < runEnd l a := fun hw => by
    rw [runEnd, if_pos ha, if_pos hw]
    have := runEnd_ge l _ (a + 1) rfl; omega
  have hle := runEnd_le l _ a rfl (by omega)
  unfold raw at h
  simp only [] at h
  split at h
  · rename_i h1
    have h2 := hw (by unfold let1 at h1; unfold wd; simp at h1 ⊢; rcases h1 with h1 | h1 <;> simp [h1])
    split at h <;> (cases h; exact ⟨h2, hle, rfl⟩)
  · split at h
    · rename_i h1
      have h2 := hw (by unfold wd; rw [h1]; simp)
      cases h; exact ⟨h2, hle, rfl⟩
    · split at h
      · obtain ⟨r, h1, h2⟩ := Option.map_eq_some_iff.1 h
        cases h2
        have := quo_end _ l _ (a + 1) (Nat.le_refl _) r h1
        exact ⟨by omega, this.2, rfl⟩
      · split at h
        · obtain ⟨r, h1, h2⟩ := Option.map_eq_some_iff.1 h
          cases h2
          have := quo_end _ l _ (a + 1) (Nat.le_refl _) r h1
          exact ⟨by omega, this.2, rfl⟩
        · split at h
          · rename_i h1
            cases h; exact ⟨by omega, h1.1, rfl⟩
          · cases h; exact ⟨by omega, by omega, rfl⟩
theorem one_end {l : List UInt8} {a : Nat} {t : Tk} {e : Nat} (ha : a < l.length) (h : one l a = some (t, e)) : a < e ∧ e ≤ l.length ∧ t.a = a ∧ tokOk t.k t.t = true := by
  unfold one at h
  split at h
  · rename_i t' e' hr
    split at h
    · rename_i h1
      cases h
      have := raw_end ha hr
      exact ⟨this.1, this.2.1, this.2.2, h1⟩
    · cases h
  · cases h

/-- the tokens from a on, or the place of the first fault -/
def lexF (l : List UInt8) (a : Nat) : Except Nat (List Tk) :=
  if pass l a < 0 then .error (-(pass l a) - 1).toNat
  else if (pass l a).toNat < l.length then
    match one l (pass l a).toNat with
    | none => .error (pass l a).toNat
    | some r => if a < r.2 ∧ a < l.length then (lexF l r.2).map (fun L => r.1 :: L) else .error 0
  else .ok []
termination_by l.length - a
def lexR (l : List UInt8) : Except Nat (List Tk) := if 2000 < l.length then .error 2000 else lexF l 0
theorem lexF_bad {l : List UInt8} {a : Nat} (h : pass l a < 0) : lexF l a = .error (-(pass l a) - 1).toNat := by rw [lexF, if_pos h]
theorem lexF_end {l : List UInt8} {a p : Nat} (h : pass l a = (p : Int)) (hp : ¬ p < l.length) : lexF l a = .ok [] := by
  rw [lexF, if_neg (by omega), if_neg (by rw [h]; exact hp)]
theorem lexF_none {l : List UInt8} {a p : Nat} (h : pass l a = (p : Int)) (hp : p < l.length) (ho : one l p = none) : lexF l a = .error p := by
  rw [lexF, if_neg (by omega), if_pos (by rw [h]; exact hp), h]
  show (match one l p with | none => _ | some r => _) = _
  rw [ho]; rfl
theorem lexF_some {l : List UInt8} {a p e : Nat} {t : Tk} (h : pass l a = (p : Int)) (hp : p < l.length) (ho : one l p = some (t, e)) : lexF l a = (lexF l e).map (fun L => t :: L) := by
  have hg := pass_ge l _ a (Nat.le_refl _)
  have he := one_end hp ho
  rw [lexF, if_neg (by omega), if_pos (by rw [h]; exact hp), h]
  show (match one l p with | none => _ | some r => _) = _
  rw [ho]
  exact if_pos ⟨by omega, by omega⟩
end Go.Proofs.Ytkacelpndeoogaa

/- Plain facts on the lexer's functions. No program. -/
namespace Go.Proofs.Ytkacelpndeoogaa
open Go.RowKit


theorem beq_lit (s : ByteArray) (l : List UInt8) : (s.toList == l) = decide (s.data.toList = l) := by
  rw [ByteArray.toList_eq]
  by_cases h : s.data.toList = l
  · rw [decide_eq_true h]; simpa using h
  · rw [decide_eq_false h]; simpa using h
theorem signB_cases {l : List UInt8} (h : signB l = true) : l = [40] ∨ l = [41] ∨ l = [44] ∨ l = [46] ∨ l = [42] ∨ l = [43] ∨ l = [45] ∨ l = [47] ∨ l = [37] ∨ l = [61] ∨ l = [60, 62] ∨ l = [60] ∨ l = [60, 61] ∨ l = [62] ∨ l = [62, 61] ∨ l = [124, 124] := by
  unfold signB signs at h
  simpa using h
theorem signB_not {l : List UInt8} (h : signB l = false) : ¬ l = [40] ∧ ¬ l = [41] ∧ ¬ l = [44] ∧ ¬ l = [46] ∧ ¬ l = [42] ∧ ¬ l = [43] ∧ ¬ l = [45] ∧ ¬ l = [47] ∧ ¬ l = [37] ∧ ¬ l = [61] ∧ ¬ l = [60, 62] ∧ ¬ l = [60] ∧ ¬ l = [60, 61] ∧ ¬ l = [62] ∧ ¬ l = [62, 61] ∧ ¬ l = [124, 124] := by
  unfold signB signs at h
  simpa using h
theorem ba_of {s : ByteArray} {l : List UInt8} (h : s.data.toList = l) : s = ⟨l.toArray⟩ := by
  subst h; rfl

theorem runEnd_yes {l : List UInt8} {k : Nat} (h : k < l.length) (hw : wd ((l.getD k 0).toNat : Int) = true) : runEnd l k = runEnd l (k + 1) := by
  rw [runEnd, if_pos h, if_pos hw]
theorem runEnd_no {l : List UInt8} {k : Nat} (h : k < l.length) (hw : wd ((l.getD k 0).toNat : Int) = false) : runEnd l k = k := by
  rw [runEnd, if_pos h, if_neg (by rw [hw]; simp)]
theorem runEnd_out {l : List UInt8} {k : Nat} (h : ¬ k < l.length) : runEnd l k = k := by
  rw [runEnd, if_neg h]
theorem lwd_eq (n : Int) : wd n = (ltr n || n == 95 || dg n) := by unfold wd; rw [Bool.or_assoc, Bool.or_assoc, Bool.or_comm (dg n)]
theorem lstr_at {s : ByteArray} {k : Nat} (h : k < s.size) : s[k] = s.data.toList.getD k 0 := by
  have h' : k < s.data.size := h
  have e : s[k] = s.data[k] := rfl
  rw [e]
  simp [List.getD_eq_getElem?_getD, Array.getElem?_eq_getElem h']

theorem quo_out {q : UInt8} {l : List UInt8} {k : Nat} (h : ¬ k < l.length) : quo q l k = none := by rw [quo, if_neg h]
theorem quo_other {q : UInt8} {l : List UInt8} {k : Nat} (h : k < l.length) (hq : ¬ l.getD k 0 = q) : quo q l k = (quo q l (k + 1)).map (fun r => (l.getD k 0 :: r.1, r.2)) := by
  rw [quo, if_pos h, if_neg hq]
theorem quo_two {q : UInt8} {l : List UInt8} {k : Nat} (h : k < l.length) (hq : l.getD k 0 = q) (h2 : k + 1 < l.length) (hq2 : l.getD (k + 1) 0 = q) : quo q l k = (quo q l (k + 2)).map (fun r => (q :: r.1, r.2)) := by
  rw [quo, if_pos h, if_pos hq, if_pos ⟨h2, hq2⟩]
theorem quo_stop {q : UInt8} {l : List UInt8} {k : Nat} (h : k < l.length) (hq : l.getD k 0 = q) (h2 : ¬ (k + 1 < l.length ∧ l.getD (k + 1) 0 = q)) : quo q l k = some ([], k + 1) := by
  rw [quo, if_pos h, if_pos hq, if_neg h2]
/-- what has been read, ahead of what is still to be read -/
def ahead (out : List UInt8) (r : Option (List UInt8 × Nat)) : Option (List UInt8 × Nat) := r.map fun r => (out ++ r.1, r.2)
theorem ahead_nil (r : Option (List UInt8 × Nat)) : ahead [] r = r := by cases r <;> rfl
theorem ahead_cons (out : List UInt8) (b : UInt8) (r : Option (List UInt8 × Nat)) : ahead out (r.map fun r => (b :: r.1, r.2)) = ahead (out ++ [b]) r := by
  cases r <;> simp [ahead]
theorem u8_eq {a b : UInt8} (h : a = b) : ((a.toNat : Int) == (b.toNat : Int)) = true := by rw [h]; simp
theorem u8_ne {a b : UInt8} (h : ¬ a = b) : ((a.toNat : Int) == (b.toNat : Int)) = false := by
  simp only [beq_eq_false_iff_ne, ne_eq]
  intro e
  exact h (UInt8.toNat_inj.1 (by omega))


theorem list_two {l : List UInt8} {x y : UInt8} (h : l.length = 2) : l = [x, y] ↔ l.getD 0 0 = x ∧ l.getD 1 0 = y := by
  match l, h with
  | [a, b], _ => simp
/-- the two bytes at a, or the one where there is but one, as the model compares them -/
theorem two_is {s : ByteArray} {a : Nat} {x y : UInt8} (ha : a < s.size) : ((s.extract a (min s.size (a + 2))).toList == [x, y]) = is2 s.data.toList a x y := by
  have hl : s.data.toList.length = s.size := rfl
  have hm : (s.extract a (min s.size (a + 2))).data.toList = (s.data.toList.drop a).take (min s.size (a + 2) - a) := by rw [Lib.extract_data]
  rw [beq_lit, hm]
  unfold is2
  by_cases h : a + 1 < s.size
  · have e : min s.size (a + 2) - a = 2 := by omega
    have hlen : ((s.data.toList.drop a).take 2).length = 2 := by simp; omega
    have g0 : ((s.data.toList.drop a).take 2).getD 0 0 = s.data.toList.getD a 0 := by
      simp [List.getD_eq_getElem?_getD]
    have g1 : ((s.data.toList.drop a).take 2).getD 1 0 = s.data.toList.getD (a + 1) 0 := by
      simp [List.getD_eq_getElem?_getD]
    rw [e, decide_eq_true (show a + 1 < s.data.toList.length from h), Bool.true_and, ← g0, ← g1]
    generalize (s.data.toList.drop a).take 2 = L at hlen
    rw [decide_eq_decide.2 (list_two (x := x) (y := y) hlen), Bool.decide_and]
    rfl
  · rw [decide_eq_false (show ¬ a + 1 < s.data.toList.length from h)]
    simp only [Bool.false_and, decide_eq_false_iff_not]
    intro e
    have := congrArg List.length e
    simp at this; omega

theorem pass_out {l : List UInt8} {k : Nat} (h : ¬ k < l.length) : pass l k = (k : Int) := by rw [pass, if_neg h]
theorem pass_sp {l : List UInt8} {k : Nat} (h : k < l.length) (hs : spB (l.getD k 0) = true) : pass l k = pass l (k + 1) := by rw [pass, if_pos h, if_pos hs]
theorem pass_line {l : List UInt8} {k : Nat} (h : k < l.length) (hs : spB (l.getD k 0) = false) (h2 : is2 l k 45 45 = true) : pass l k = pass l (lineEnd l k) := by
  have h3 := is2_lt h2
  have h4 : l.getD k 0 = 45 ∧ l.getD (k + 1) 0 = 45 := by unfold is2 at h2; simp only [Bool.and_eq_true, beq_iff_eq] at h2; exact ⟨h2.1.2, h2.2⟩
  have e : lineEnd l k = lineEnd l (k + 2) := by
    rw [lineEnd, if_pos h, if_neg (by rw [h4.1]; decide), lineEnd, if_pos h3, if_neg (by rw [h4.2]; decide)]
  rw [pass, if_pos h, if_neg (by rw [hs]; simp), if_pos h2, e]
theorem line_two {l : List UInt8} {k : Nat} (h2 : is2 l k 45 45 = true) : k + 2 ≤ lineEnd l k := by
  have h3 := is2_lt h2
  have h4 : l.getD k 0 = 45 ∧ l.getD (k + 1) 0 = 45 := by unfold is2 at h2; simp only [Bool.and_eq_true, beq_iff_eq] at h2; exact ⟨h2.1.2, h2.2⟩
  rw [lineEnd, if_pos (by omega), if_neg (by rw [h4.1]; decide), lineEnd, if_pos h3, if_neg (by rw [h4.2]; decide)]
  exact lineEnd_ge l _ (k + 2) rfl
theorem pass_long {l : List UInt8} {k : Nat} (h : k < l.length) (hs : spB (l.getD k 0) = false) (h2 : is2 l k 45 45 = false) (h3 : is2 l k 47 42 = true) :
    pass l k = if closeAt l (k + 2) < l.length then pass l (closeAt l (k + 2) + 2) else -(k : Int) - 1 := by
  rw [pass, if_pos h, if_neg (by rw [hs]; simp), if_neg (by rw [h2]; simp), if_pos h3]
theorem pass_stop {l : List UInt8} {k : Nat} (h : k < l.length) (hs : spB (l.getD k 0) = false) (h2 : is2 l k 45 45 = false) (h3 : is2 l k 47 42 = false) : pass l k = (k : Int) := by
  rw [pass, if_pos h, if_neg (by rw [hs]; simp), if_neg (by rw [h2]; simp), if_neg (by rw [h3]; simp)]
theorem line_out {l : List UInt8} {k : Nat} (h : ¬ k < l.length) : lineEnd l k = k := by rw [lineEnd, if_neg h]
theorem line_stop {l : List UInt8} {k : Nat} (h : k < l.length) (hb : l.getD k 0 = 10) : lineEnd l k = k := by rw [lineEnd, if_pos h, if_pos hb]
theorem line_on {l : List UInt8} {k : Nat} (h : k < l.length) (hb : ¬ l.getD k 0 = 10) : lineEnd l k = lineEnd l (k + 1) := by rw [lineEnd, if_pos h, if_neg hb]
theorem close_out {l : List UInt8} {k : Nat} (h : ¬ k < l.length) : closeAt l k = k := by rw [closeAt, if_neg h]
theorem close_stop {l : List UInt8} {k : Nat} (h : k < l.length) (hb : is2 l k 42 47 = true) : closeAt l k = k := by rw [closeAt, if_pos h, if_pos hb]
theorem close_on {l : List UInt8} {k : Nat} (h : k < l.length) (hb : is2 l k 42 47 = false) : closeAt l k = closeAt l (k + 1) := by rw [closeAt, if_pos h, if_neg (by rw [hb]; simp)]
theorem sp_cases (b : UInt8) : (spB b = false ∧ (((b.toNat : Int) == 32) = false ∧ ((b.toNat : Int) == 9) = false ∧ ((b.toNat : Int) == 10) = false ∧ ((b.toNat : Int) == 13) = false)) ∨
    (spB b = true ∧ (b = 32 ∨ b = 9 ∨ b = 10 ∨ b = 13)) := by
  unfold spB
  by_cases h : b = 32 ∨ b = 9 ∨ b = 10 ∨ b = 13
  · exact .inr ⟨by rcases h with rfl | rfl | rfl | rfl <;> rfl, h⟩
  · simp only [not_or] at h
    have f : ∀ c : UInt8, ¬ b = c → ((b.toNat : Int) == (c.toNat : Int)) = false := fun c hc => u8_ne hc
    exact .inl ⟨by simp [h], f 32 h.1, f 9 h.2.1, f 10 h.2.2.1, f 13 h.2.2.2⟩

theorem ext_sl (s : ByteArray) (a b : Nat) : (s.extract a b).data.toList = sl s.data.toList a b := by rw [Lib.extract_data]; rfl
theorem sl_len (l : List UInt8) (a b : Nat) : (sl l a b).length ≤ l.length := by unfold sl; simp; omega
theorem one_raw {l : List UInt8} {a : Nat} {t : Tk} {e : Nat} (h : raw l a = some (t, e)) : one l a = if tokOk t.k t.t then some (t, e) else none := by unfold one; rw [h]
theorem one_no {l : List UInt8} {a : Nat} (h : raw l a = none) : one l a = none := by unfold one; rw [h]
theorem raw_key {l : List UInt8} {a : Nat} (h1 : let1 l a = true) (h2 : 0 < numOf (upL (sl l a (runEnd l a)))) : raw l a = some (⟨1, upL (sl l a (runEnd l a)), a⟩, runEnd l a) := by
  unfold raw; simp only []; rw [if_pos h1, if_pos h2]
theorem raw_name {l : List UInt8} {a : Nat} (h1 : let1 l a = true) (h2 : ¬ 0 < numOf (upL (sl l a (runEnd l a)))) : raw l a = some (⟨2, sl l a (runEnd l a), a⟩, runEnd l a) := by
  unfold raw; simp only []; rw [if_pos h1, if_neg h2]
theorem if_no {b : Bool} {α : Type} {x y : α} (h : b = false) : (if b then x else y) = y := by subst h; rfl
theorem raw_num {l : List UInt8} {a : Nat} (h1 : let1 l a = false) (h2 : dg ((l.getD a 0).toNat : Int) = true) : raw l a = some (⟨3, sl l a (runEnd l a), a⟩, runEnd l a) := by
  unfold raw; simp only []; rw [if_no h1, if_pos h2]
theorem raw_q34 {l : List UInt8} {a : Nat} (h1 : let1 l a = false) (h2 : dg ((l.getD a 0).toNat : Int) = false) (h3 : l.getD a 0 = 34) : raw l a = (quo 34 l (a + 1)).map (fun r => (⟨2, r.1, a⟩, r.2)) := by
  unfold raw; simp only []; rw [if_no h1, if_no h2, if_pos h3]
theorem raw_q39 {l : List UInt8} {a : Nat} (h1 : let1 l a = false) (h2 : dg ((l.getD a 0).toNat : Int) = false) (h3 : ¬ l.getD a 0 = 34) (h4 : l.getD a 0 = 39) : raw l a = (quo 39 l (a + 1)).map (fun r => (⟨4, r.1, a⟩, r.2)) := by
  unfold raw; simp only []; rw [if_no h1, if_no h2, if_neg h3, if_pos h4]
theorem raw_two {l : List UInt8} {a : Nat} (h1 : let1 l a = false) (h2 : dg ((l.getD a 0).toNat : Int) = false) (h3 : ¬ l.getD a 0 = 34) (h4 : ¬ l.getD a 0 = 39) (h5 : a + 2 ≤ l.length ∧ signB (sl l a (a + 2)) = true) : raw l a = some (⟨5, sl l a (a + 2), a⟩, a + 2) := by
  unfold raw; simp only []; rw [if_no h1, if_no h2, if_neg h3, if_neg h4, if_pos h5]
theorem raw_one {l : List UInt8} {a : Nat} (h1 : let1 l a = false) (h2 : dg ((l.getD a 0).toNat : Int) = false) (h3 : ¬ l.getD a 0 = 34) (h4 : ¬ l.getD a 0 = 39) (h5 : ¬ (a + 2 ≤ l.length ∧ signB (sl l a (a + 2)) = true)) : raw l a = some (⟨5, sl l a (a + 1), a⟩, a + 1) := by
  unfold raw; simp only []; rw [if_no h1, if_no h2, if_neg h3, if_neg h4, if_neg h5]


theorem lineEnd_le (l : List UInt8) : ∀ (n a : Nat), l.length - a = n → a ≤ l.length → lineEnd l a ≤ l.length
  | 0, a, h, h2 => by rw [lineEnd, if_neg (by omega)]; exact h2
  | n + 1, a, h, h2 => by
    rw [lineEnd, if_pos (by omega)]
    split
    · exact h2
    · exact lineEnd_le l n (a + 1) (by omega) (by omega)
theorem pass_bounds (l : List UInt8) : ∀ (n a : Nat), l.length - a ≤ n → a ≤ l.length → -(l.length : Int) - 1 ≤ pass l a ∧ pass l a ≤ (l.length : Int)
  | 0, a, h, h2 => by rw [pass, if_neg (by omega)]; omega
  | n + 1, a, h, h2 => by
    rw [pass]
    split
    · split
      · exact pass_bounds l n (a + 1) (by omega) (by omega)
      · split
        · rename_i h4
          have h3 := is2_lt h4
          have h5 := lineEnd_ge l _ (a + 2) rfl
          exact pass_bounds l n (lineEnd l (a + 2)) (by omega) (lineEnd_le l _ (a + 2) rfl (by omega))
        · split
          · split
            · rename_i h3 h4
              have h5 := closeAt_ge l _ (a + 2) rfl
              have h6 := closeAt_two _ (a + 2) rfl h4
              exact pass_bounds l n (closeAt l (a + 2) + 2) (by omega) h6
            · omega
          · omega
    · omega

/-- what has been read ahead of what is still to be read -/
def aheadT (L : List Tk) (r : Except Nat (List Tk)) : Except Nat (List Tk) := r.map fun M => L ++ M
theorem aheadT_nil (r : Except Nat (List Tk)) : aheadT [] r = r := by cases r <;> rfl
theorem aheadT_cons (L : List Tk) (t : Tk) (r : Except Nat (List Tk)) : aheadT L (r.map fun M => t :: M) = aheadT (L ++ [t]) r := by
  cases r <;> simp [aheadT, Except.map]
end Go.Proofs.Ytkacelpndeoogaa

/- A block that holds a value. -/
namespace Go.Proofs.Ytkacelpndeoogaa
open Go.RowKit

/-- block B holds a value -/
def ValAt (W : World) (B : Nat) (k a : Int) (t : ByteArray) : Prop := W.heap[B]? = some (.cells #[.int .i64 k, .int .i64 a, .string t] 25 (0, 0))
theorem ValAt.set0 {W : World} {B : Nat} {k a : Int} {t : ByteArray} (H : ValAt W B k a t) (k' : Int) : ValAt (W.setCell ⟨B, 0, none⟩ (.int .i64 k')) B k' a t :=
  heap_setCell_same W B 0 _ 25 (.int .i64 k') H
theorem ValAt.set1 {W : World} {B : Nat} {k a : Int} {t : ByteArray} (H : ValAt W B k a t) (a' : Int) : ValAt (W.setCell ⟨B, 1, none⟩ (.int .i64 a')) B k a' t :=
  heap_setCell_same W B 1 _ 25 (.int .i64 a') H
theorem ValAt.set2 {W : World} {B : Nat} {k a : Int} {t : ByteArray} (H : ValAt W B k a t) (t' : ByteArray) : ValAt (W.setCell ⟨B, 2, none⟩ (.string t')) B k a t' :=
  heap_setCell_same W B 2 _ 25 (.string t') H
theorem ValAt.set_other {W : World} {B : Nat} {k a : Int} {t : ByteArray} (H : ValAt W B k a t) {C o : Nat} {v : Value} (h : B ≠ C) : ValAt (W.setCell ⟨C, o, none⟩ v) B k a t :=
  (heap_setCell_other W ⟨C, o, none⟩ B v h).trans H
theorem val_new (w : World) (o : Obj) (k a : Int) (t : ByteArray) : ValAt ((w.alloc o).alloc (.cells #[.int .i64 k, .int .i64 a, .string t] 25)) (w.heap.size + 1) k a t := by
  have h := heap_alloc_new (w.alloc o) (.cells #[.int .i64 k, .int .i64 a, .string t] 25)
  have e : (w.alloc o).heap.size = w.heap.size + 1 := by simp
  rw [e] at h
  exact h
theorem val_first (w : World) (o : Obj) : ValAt ((w.alloc (.cells #[.int .i64 0, .int .i64 0, .string ⟨#[]⟩] 25)).alloc o) w.heap.size 0 0 ⟨#[]⟩ :=
  (Below.heap_alloc _ o w.heap.size (by simp)).trans (heap_alloc_new w _)
theorem ValAt.below {W W' : World} {B C : Nat} {k a : Int} {t : ByteArray} (H : ValAt W B k a t) (g : Below C W W') (h : B < C) : ValAt W' B k a t := (g.block B h).trans H
end Go.Proofs.Ytkacelpndeoogaa
