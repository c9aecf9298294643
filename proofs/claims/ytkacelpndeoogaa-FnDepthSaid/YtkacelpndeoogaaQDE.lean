/- Joined texts: LexMath2 ValAt TokAt TokArg. -/
import Derived.Test.YtkacelpndeoogaaQDD
import Derived.Test.YtkacelpndeoogaaQDC
import Derived.Lib.SlicesS
import Derived.Deep.QuietTactic
import Derived.BigQuiet
/- Plain facts on the lexer's functions. No program. -/
namespace Go.Proofs.Ytkacelpndeoogaa
open Go.RowKit


theorem beq_lit (s : ByteArray) (l : List UInt8) : (s.toList == l) = decide (s.data.toList = l) := by
  rw [ByteArray.toList_eq]
  by_cases h : s.data.toList = l
  · rw [decide_eq_true h]; simpa using h
  · rw [decide_eq_false h]; simpa using h
theorem signB_cases {l : List UInt8} (h : signB l = true) : l = [40] ∨ l = [41] ∨ l = [44] ∨ l = [46] ∨ l = [42] ∨ l = [43] ∨ l = [45] ∨ l = [47] ∨ l = [37] ∨ l = [61] ∨ l = [60, 62] ∨ l = [60] ∨ l = [60, 61] ∨ l = [62] ∨ l = [62, 61] ∨ l = [124, 124] := by
  unfold signB signs at h
  simpa using h
theorem signB_not {l : List UInt8} (h : signB l = false) : ¬ l = [40] ∧ ¬ l = [41] ∧ ¬ l = [44] ∧ ¬ l = [46] ∧ ¬ l = [42] ∧ ¬ l = [43] ∧ ¬ l = [45] ∧ ¬ l = [47] ∧ ¬ l = [37] ∧ ¬ l = [61] ∧ ¬ l = [60, 62] ∧ ¬ l = [60] ∧ ¬ l = [60, 61] ∧ ¬ l = [62] ∧ ¬ l = [62, 61] ∧ ¬ l = [124, 124] := by
  unfold signB signs at h
  simpa using h
theorem ba_of {s : ByteArray} {l : List UInt8} (h : s.data.toList = l) : s = ⟨l.toArray⟩ := by
  subst h; rfl

theorem runEnd_yes {l : List UInt8} {k : Nat} (h : k < l.length) (hw : wd ((l.getD k 0).toNat : Int) = true) : runEnd l k = runEnd l (k + 1) := by
  rw [runEnd, if_pos h, if_pos hw]
theorem runEnd_no {l : List UInt8} {k : Nat} (h : k < l.length) (hw : wd ((l.getD k 0).toNat : Int) = false) : runEnd l k = k := by
  rw [runEnd, if_pos h, if_neg (by rw [hw]; simp)]
theorem runEnd_out {l : List UInt8} {k : Nat} (h : ¬ k < l.length) : runEnd l k = k := by
  rw [runEnd, if_neg h]
theorem lwd_eq (n : Int) : wd n = (ltr n || n == 95 || dg n) := by unfold wd; rw [Bool.or_assoc, Bool.or_assoc, Bool.or_comm (dg n)]
theorem lstr_at {s : ByteArray} {k : Nat} (h : k < s.size) : s[k] = s.data.toList.getD k 0 := by
  have h' : k < s.data.size := h
  have e : s[k] = s.data[k] := rfl
  rw [e]
  simp [List.getD_eq_getElem?_getD, Array.getElem?_eq_getElem h']

theorem quo_out {q : UInt8} {l : List UInt8} {k : Nat} (h : ¬ k < l.length) : quo q l k = none := by rw [quo, if_neg h]
theorem quo_other {q : UInt8} {l : List UInt8} {k : Nat} (h : k < l.length) (hq : ¬ l.getD k 0 = q) : quo q l k = (quo q l (k + 1)).map (fun r => (l.getD k 0 :: r.1, r.2)) := by
  rw [quo, if_pos h, if_neg hq]
theorem quo_two {q : UInt8} {l : List UInt8} {k : Nat} (h : k < l.length) (hq : l.getD k 0 = q) (h2 : k + 1 < l.length) (hq2 : l.getD (k + 1) 0 = q) : quo q l k = (quo q l (k + 2)).map (fun r => (q :: r.1, r.2)) := by
  rw [quo, if_pos h, if_pos hq, if_pos ⟨h2, hq2⟩]
theorem quo_stop {q : UInt8} {l : List UInt8} {k : Nat} (h : k < l.length) (hq : l.getD k 0 = q) (h2 : ¬ (k + 1 < l.length ∧ l.getD (k + 1) 0 = q)) : quo q l k = some ([], k + 1) := by
  rw [quo, if_pos h, if_pos hq, if_neg h2]
/-- what has been read, ahead of what is still to be read -/
def ahead (out : List UInt8) (r : Option (List UInt8 × Nat)) : Option (List UInt8 × Nat) := r.map fun r => (out ++ r.1, r.2)
theorem ahead_nil (r : Option (List UInt8 × Nat)) : ahead [] r = r := by cases r <;> rfl
theorem ahead_cons (out : List UInt8) (b : UInt8) (r : Option (List UInt8 × Nat)) : ahead out (r.map fun r => (b :: r.1, r.2)) = ahead (out ++ [b]) r := by
  cases r <;> simp [ahead]
theorem u8_eq {a b : UInt8} (h : a = b) : ((a.toNat : Int) == (b.toNat : Int)) = true := by rw [h]; simp
theorem u8_ne {a b : UInt8} (h : ¬ a = b) : ((a.toNat : Int) == (b.toNat : Int)) = false := by
  simp only [beq_eq_false_iff_ne, ne_eq]
  intro e
  exact h (UInt8.toNat_inj.1 (by omega))


theorem list_two {l : List UInt8} {x y : UInt8} (h : l.length = 2) : l = [x, y] ↔ l.getD 0 0 = x ∧ l.getD 1 0 = y := by
  match l, h with
  | [a, b], _ => simp
/-- the two bytes at a, or the one where there is but one, as the model compares them -/
theorem two_is {s : ByteArray} {a : Nat} {x y : UInt8} (ha : a < s.size) : ((s.extract a (min s.size (a + 2))).toList == [x, y]) = is2 s.data.toList a x y := by
  have hl : s.data.toList.length = s.size := rfl
  have hm : (s.extract a (min s.size (a + 2))).data.toList = (s.data.toList.drop a).take (min s.size (a + 2) - a) := by rw [Lib.extract_data]
  rw [beq_lit, hm]
  unfold is2
  by_cases h : a + 1 < s.size
  · have e : min s.size (a + 2) - a = 2 := by omega
    have hlen : ((s.data.toList.drop a).take 2).length = 2 := by simp; omega
    have g0 : ((s.data.toList.drop a).take 2).getD 0 0 = s.data.toList.getD a 0 := by
      simp [List.getD_eq_getElem?_getD]
    have g1 : ((s.data.toList.drop a).take 2).getD 1 0 = s.data.toList.getD (a + 1) 0 := by
      simp [List.getD_eq_getElem?_getD]
    rw [e, decide_eq_true (show a + 1 < s.data.toList.length from h), Bool.true_and, ← g0, ← g1]
    generalize (s.data.toList.drop a).take 2 = L at hlen
    rw [decide_eq_decide.2 (list_two (x := x) (y := y) hlen), Bool.decide_and]
    rfl
  · rw [decide_eq_false (show ¬ a + 1 < s.data.toList.length from h)]
    simp only [Bool.false_and, decide_eq_false_iff_not]
    intro e
    have := congrArg List.length e
    simp at this; omega

theorem pass_out {l : List UInt8} {k : Nat} (h : ¬ k < l.length) : pass l k = (k : Int) := by rw [pass, if_neg h]
theorem pass_sp {l : List UInt8} {k : Nat} (h : k < l.length) (hs : spB (l.getD k 0) = true) : pass l k = pass l (k + 1) := by rw [pass, if_pos h, if_pos hs]
theorem pass_line {l : List UInt8} {k : Nat} (h : k < l.length) (hs : spB (l.getD k 0) = false) (h2 : is2 l k 45 45 = true) : pass l k = pass l (lineEnd l k) := by
  have h3 := is2_lt h2
  have h4 : l.getD k 0 = 45 ∧ l.getD (k + 1) 0 = 45 := by unfold is2 at h2; simp only [Bool.and_eq_true, beq_iff_eq] at h2; exact ⟨h2.1.2, h2.2⟩
  have e : lineEnd l k = lineEnd l (k + 2) := by
    rw [lineEnd, if_pos h, if_neg (by rw [h4.1]; decide), lineEnd, if_pos h3, if_neg (by rw [h4.2]; decide)]
  rw [pass, if_pos h, if_neg (by rw [hs]; simp), if_pos h2, e]
theorem line_two {l : List UInt8} {k : Nat} (h2 : is2 l k 45 45 = true) : k + 2 ≤ lineEnd l k := by
  have h3 := is2_lt h2
  have h4 : l.getD k 0 = 45 ∧ l.getD (k + 1) 0 = 45 := by unfold is2 at h2; simp only [Bool.and_eq_true, beq_iff_eq] at h2; exact ⟨h2.1.2, h2.2⟩
  rw [lineEnd, if_pos (by omega), if_neg (by rw [h4.1]; decide), lineEnd, if_pos h3, if_neg (by rw [h4.2]; decide)]
  exact lineEnd_ge l _ (k + 2) rfl
theorem pass_long {l : List UInt8} {k : Nat} (h : k < l.length) (hs : spB (l.getD k 0) = false) (h2 : is2 l k 45 45 = false) (h3 : is2 l k 47 42 = true) :
    pass l k = if closeAt l (k + 2) < l.length then pass l (closeAt l (k + 2) + 2) else -(k : Int) - 1 := by
  rw [pass, if_pos h, if_neg (by rw [hs]; simp), if_neg (by rw [h2]; simp), if_pos h3]
theorem pass_stop {l : List UInt8} {k : Nat} (h : k < l.length) (hs : spB (l.getD k 0) = false) (h2 : is2 l k 45 45 = false) (h3 : is2 l k 47 42 = false) : pass l k = (k : Int) := by
  rw [pass, if_pos h, if_neg (by rw [hs]; simp), if_neg (by rw [h2]; simp), if_neg (by rw [h3]; simp)]
theorem line_out {l : List UInt8} {k : Nat} (h : ¬ k < l.length) : lineEnd l k = k := by rw [lineEnd, if_neg h]
theorem line_stop {l : List UInt8} {k : Nat} (h : k < l.length) (hb : l.getD k 0 = 10) : lineEnd l k = k := by rw [lineEnd, if_pos h, if_pos hb]
theorem line_on {l : List UInt8} {k : Nat} (h : k < l.length) (hb : ¬ l.getD k 0 = 10) : lineEnd l k = lineEnd l (k + 1) := by rw [lineEnd, if_pos h, if_neg hb]
theorem close_out {l : List UInt8} {k : Nat} (h : ¬ k < l.length) : closeAt l k = k := by rw [closeAt, if_neg h]
theorem close_stop {l : List UInt8} {k : Nat} (h : k < l.length) (hb : is2 l k 42 47 = true) : closeAt l k = k := by rw [closeAt, if_pos h, if_pos hb]
theorem close_on {l : List UInt8} {k : Nat} (h : k < l.length) (hb : is2 l k 42 47 = false) : closeAt l k = closeAt l (k + 1) := by rw [closeAt, if_pos h, if_neg (by rw [hb]; simp)]
theorem sp_cases (b : UInt8) : (spB b = false ∧ (((b.toNat : Int) == 32) = false ∧ ((b.toNat : Int) == 9) = false ∧ ((b.toNat : Int) == 10) = false ∧ ((b.toNat : Int) == 13) = false)) ∨
    (spB b = true ∧ (b = 32 ∨ b = 9 ∨ b = 10 ∨ b = 13)) := by
  unfold spB
  by_cases h : b = 32 ∨ b = 9 ∨ b = 10 ∨ b = 13
  · exact .inr ⟨by rcases h with rfl | rfl | rfl | rfl <;> rfl, h⟩
  · simp only [not_or] at h
    have f : ∀ c : UInt8, ¬ b = c → ((b.toNat : Int) == (c.toNat : Int)) = false := fun c hc => u8_ne hc
    exact .inl ⟨by simp [h], f 32 h.1, f 9 h.2.1, f 10 h.2.2.1, f 13 h.2.2.2⟩

theorem ext_sl (s : ByteArray) (a b : Nat) : (s.extract a b).data.toList = sl s.data.toList a b := by rw [Lib.extract_data]; rfl
theorem sl_len (l : List UInt8) (a b : Nat) : (sl l a b).length ≤ l.length := by unfold sl; simp; omega
theorem one_raw {l : List UInt8} {a : Nat} {t : Tk} {e : Nat} (h : raw l a = some (t, e)) : one l a = if tokOk t.k t.t then some (t, e) else none := by unfold one; rw [h]
theorem one_no {l : List UInt8} {a : Nat} (h : raw l a = none) : one l a = none := by unfold one; rw [h]
theorem raw_key {l : List UInt8} {a : Nat} (h1 : let1 l a = true) (h2 : 0 < numOf (upL (sl l a (runEnd l a)))) : raw l a = some (⟨1, upL (sl l a (runEnd l a)), a⟩, runEnd l a) := by
  unfold raw; simp only []; rw [if_pos h1, if_pos h2]
theorem raw_name {l : List UInt8} {a : Nat} (h1 : let1 l a = true) (h2 : ¬ 0 < numOf (upL (sl l a (runEnd l a)))) : raw l a = some (⟨2, sl l a (runEnd l a), a⟩, runEnd l a) := by
  unfold raw; simp only []; rw [if_pos h1, if_neg h2]
theorem if_no {b : Bool} {α : Type} {x y : α} (h : b = false) : (if b then x else y) = y := by subst h; rfl
theorem raw_num {l : List UInt8} {a : Nat} (h1 : let1 l a = false) (h2 : dg ((l.getD a 0).toNat : Int) = true) : raw l a = some (⟨3, sl l a (runEnd l a), a⟩, runEnd l a) := by
  unfold raw; simp only []; rw [if_no h1, if_pos h2]
theorem raw_q34 {l : List UInt8} {a : Nat} (h1 : let1 l a = false) (h2 : dg ((l.getD a 0).toNat : Int) = false) (h3 : l.getD a 0 = 34) : raw l a = (quo 34 l (a + 1)).map (fun r => (⟨2, r.1, a⟩, r.2)) := by
  unfold raw; simp only []; rw [if_no h1, if_no h2, if_pos h3]
theorem raw_q39 {l : List UInt8} {a : Nat} (h1 : let1 l a = false) (h2 : dg ((l.getD a 0).toNat : Int) = false) (h3 : ¬ l.getD a 0 = 34) (h4 : l.getD a 0 = 39) : raw l a = (quo 39 l (a + 1)).map (fun r => (⟨4, r.1, a⟩, r.2)) := by
  unfold raw; simp only []; rw [if_no h1, if_no h2, if_neg h3, if_pos h4]
theorem raw_two {l : List UInt8} {a : Nat} (h1 : let1 l a = false) (h2 : dg ((l.getD a 0).toNat : Int) = false) (h3 : ¬ l.getD a 0 = 34) (h4 : ¬ l.getD a 0 = 39) (h5 : a + 2 ≤ l.length ∧ signB (sl l a (a + 2)) = true) : raw l a = some (⟨5, sl l a (a + 2), a⟩, a + 2) := by
  unfold raw; simp only []; rw [if_no h1, if_no h2, if_neg h3, if_neg h4, if_pos h5]
theorem raw_one {l : List UInt8} {a : Nat} (h1 : let1 l a = false) (h2 : dg ((l.getD a 0).toNat : Int) = false) (h3 : ¬ l.getD a 0 = 34) (h4 : ¬ l.getD a 0 = 39) (h5 : ¬ (a + 2 ≤ l.length ∧ signB (sl l a (a + 2)) = true)) : raw l a = some (⟨5, sl l a (a + 1), a⟩, a + 1) := by
  unfold raw; simp only []; rw [if_no h1, if_no h2, if_neg h3, if_neg h4, if_neg h5]


theorem lineEnd_le (l : List UInt8) : ∀ (n a : Nat), l.length - a = n → a ≤ l.length → lineEnd l a ≤ l.length
  | 0, a, h, h2 => by rw [lineEnd, if_neg (by omega)]; exact h2
  | n + 1, a, h, h2 => by
    rw [lineEnd, if_pos (by omega)]
    split
    · exact h2
    · exact lineEnd_le l n (a + 1) (by omega) (by omega)
theorem pass_bounds (l : List UInt8) : ∀ (n a : Nat), l.length - a ≤ n → a ≤ l.length → -(l.length : Int) - 1 ≤ pass l a ∧ pass l a ≤ (l.length : Int)
  | 0, a, h, h2 => by rw [pass, if_neg (by omega)]; omega
  | n + 1, a, h, h2 => by
    rw [pass]
    split
    · split
      · exact pass_bounds l n (a + 1) (by omega) (by omega)
      · split
        · rename_i h4
          have h3 := is2_lt h4
          have h5 := lineEnd_ge l _ (a + 2) rfl
          exact pass_bounds l n (lineEnd l (a + 2)) (by omega) (lineEnd_le l _ (a + 2) rfl (by omega))
        · split
          · split
            · rename_i h3 h4
              have h5 := closeAt_ge l _ (a + 2) rfl
              have h6 := closeAt_two _ (a + 2) rfl h4
              exact pass_bounds l n (closeAt l (a + 2) + 2) (by omega) h6
            · omega
          · omega
    · omega

/-- what has been read ahead of what is still to be read -/
def aheadT (L : List Tk) (r : Except Nat (List Tk)) : Except Nat (List Tk) := r.map fun M => L ++ M
theorem aheadT_nil (r : Except Nat (List Tk)) : aheadT [] r = r := by cases r <;> rfl
theorem aheadT_cons (L : List Tk) (t : Tk) (r : Except Nat (List Tk)) : aheadT L (r.map fun M => t :: M) = aheadT (L ++ [t]) r := by
  cases r <;> simp [aheadT, Except.map]
end Go.Proofs.Ytkacelpndeoogaa

/- A block that holds a value. -/
namespace Go.Proofs.Ytkacelpndeoogaa
open Go.RowKit

/-- block B holds a value -/
def ValAt (W : World) (B : Nat) (k a : Int) (t : ByteArray) : Prop := W.heap[B]? = some (.cells #[.int .i64 k, .int .i64 a, .string t] 25 (0, 0))
theorem ValAt.set0 {W : World} {B : Nat} {k a : Int} {t : ByteArray} (H : ValAt W B k a t) (k' : Int) : ValAt (W.setCell ⟨B, 0, none⟩ (.int .i64 k')) B k' a t :=
  heap_setCell_same W B 0 _ 25 (.int .i64 k') H
theorem ValAt.set1 {W : World} {B : Nat} {k a : Int} {t : ByteArray} (H : ValAt W B k a t) (a' : Int) : ValAt (W.setCell ⟨B, 1, none⟩ (.int .i64 a')) B k a' t :=
  heap_setCell_same W B 1 _ 25 (.int .i64 a') H
theorem ValAt.set2 {W : World} {B : Nat} {k a : Int} {t : ByteArray} (H : ValAt W B k a t) (t' : ByteArray) : ValAt (W.setCell ⟨B, 2, none⟩ (.string t')) B k a t' :=
  heap_setCell_same W B 2 _ 25 (.string t') H
theorem ValAt.set_other {W : World} {B : Nat} {k a : Int} {t : ByteArray} (H : ValAt W B k a t) {C o : Nat} {v : Value} (h : B ≠ C) : ValAt (W.setCell ⟨C, o, none⟩ v) B k a t :=
  (heap_setCell_other W ⟨C, o, none⟩ B v h).trans H
theorem val_new (w : World) (o : Obj) (k a : Int) (t : ByteArray) : ValAt ((w.alloc o).alloc (.cells #[.int .i64 k, .int .i64 a, .string t] 25)) (w.heap.size + 1) k a t := by
  have h := heap_alloc_new (w.alloc o) (.cells #[.int .i64 k, .int .i64 a, .string t] 25)
  have e : (w.alloc o).heap.size = w.heap.size + 1 := by simp
  rw [e] at h
  exact h
theorem val_first (w : World) (o : Obj) : ValAt ((w.alloc (.cells #[.int .i64 0, .int .i64 0, .string ⟨#[]⟩] 25)).alloc o) w.heap.size 0 0 ⟨#[]⟩ :=
  (Below.heap_alloc _ o w.heap.size (by simp)).trans (heap_alloc_new w _)
theorem ValAt.below {W W' : World} {B C : Nat} {k a : Int} {t : ByteArray} (H : ValAt W B k a t) (g : Below C W W') (h : B < C) : ValAt W' B k a t := (g.block B h).trans H
end Go.Proofs.Ytkacelpndeoogaa

/- A block that holds a token. -/
namespace Go.Proofs.Ytkacelpndeoogaa
open Go.RowKit

/-- block B holds a token -/
def TokAt (W : World) (B : Nat) (k : Int) (t : ByteArray) (a : Int) : Prop := W.heap[B]? = some (.cells #[.int .i64 k, .string t, .int .i64 a] 53 (0, 0))
theorem TokAt.set0 {W : World} {B : Nat} {k : Int} {t : ByteArray} {a : Int} (H : TokAt W B k t a) (k' : Int) : TokAt (W.setCell ⟨B, 0, none⟩ (.int .i64 k')) B k' t a :=
  heap_setCell_same W B 0 _ 53 (.int .i64 k') H
theorem TokAt.set1 {W : World} {B : Nat} {k : Int} {t : ByteArray} {a : Int} (H : TokAt W B k t a) (t' : ByteArray) : TokAt (W.setCell ⟨B, 1, none⟩ (.string t')) B k t' a :=
  heap_setCell_same W B 1 _ 53 (.string t') H
theorem TokAt.set2 {W : World} {B : Nat} {k : Int} {t : ByteArray} {a : Int} (H : TokAt W B k t a) (a' : Int) : TokAt (W.setCell ⟨B, 2, none⟩ (.int .i64 a')) B k t a' :=
  heap_setCell_same W B 2 _ 53 (.int .i64 a') H
theorem TokAt.set_other {W : World} {B : Nat} {k : Int} {t : ByteArray} {a : Int} (H : TokAt W B k t a) {C o : Nat} {v : Value} (h : B ≠ C) : TokAt (W.setCell ⟨C, o, none⟩ v) B k t a :=
  (heap_setCell_other W ⟨C, o, none⟩ B v h).trans H
theorem tok_new (w : World) (o : Obj) (k : Int) (t : ByteArray) (a : Int) : TokAt ((w.alloc o).alloc (.cells #[.int .i64 k, .string t, .int .i64 a] 53)) (w.heap.size + 1) k t a := by
  have h := heap_alloc_new (w.alloc o) (.cells #[.int .i64 k, .string t, .int .i64 a] 53)
  have e : (w.alloc o).heap.size = w.heap.size + 1 := by simp
  rw [e] at h
  exact h
theorem tok_first (w : World) (o : Obj) : TokAt ((w.alloc (.cells #[.int .i64 0, .string ⟨#[]⟩, .int .i64 0] 53)).alloc o) w.heap.size 0 ⟨#[]⟩ 0 :=
  (Below.heap_alloc _ o w.heap.size (by simp)).trans (heap_alloc_new w _)
theorem TokAt.below {W W' : World} {B C : Nat} {k : Int} {t : ByteArray} {a : Int} (H : TokAt W B k t a) (g : Below C W W') (h : B < C) : TokAt W' B k t a := (g.block B h).trans H
end Go.Proofs.Ytkacelpndeoogaa

/- Contracts of what the laws do with a token that came in: its size, and a copy of it. -/
namespace Go.Proofs.Ytkacelpndeoogaa
open Go.RowKit

/-- what is left of n behind a text of z bytes, or -1 -/
def leftOf (n z : Int) : Int := if n - z < 0 then -1 else n - z
theorem leftOf_neg {n z : Int} (h : n - z < 0) : decide (leftOf n z < 0) = true := by unfold leftOf; rw [if_pos h]; rfl
theorem leftOf_nat {n z : Int} (h : ¬ n - z < 0) : decide (leftOf n z < 0) = false := by unfold leftOf; rw [if_neg h]; simpa using h

/-- a token comes back -/
def CopyE (k : Int) (t : ByteArray) (a : Int) (w : World) (e : Ending) (w' : World) : Prop := e = .returned (.agg #[.int .i64 k, .string t, .int .i64 a]) ∧ Below w.heap.size w w'

end Go.Proofs.Ytkacelpndeoogaa
