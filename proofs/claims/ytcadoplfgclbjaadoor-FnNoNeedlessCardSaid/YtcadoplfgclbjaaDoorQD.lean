/- Joined texts: LexMath LexMath2 QuoteMath LexCut LexCut2 Lat. -/
import Derived.Test.YtcadoplfgclbjaaDoorQB
import Derived.Test.YtcadoplfgclbjaaDoorQA
import Derived.Lib.SlicesS
import Derived.Shelf.Strings.Replace
import Derived.WalkKit
import Derived.Below
import Derived.BigQuiet
/- The lexer as plain functions of a list of bytes. No program. -/
namespace Go.Proofs.YtcadoplfgclbjaaDoor
open Go.RowKit
open Go.Lib (decDigits)

/-- l from a up to b -/
def sl (l : List UInt8) (a b : Nat) : List UInt8 := (l.drop a).take (b - a)
/-- white space -/
def spB (b : UInt8) : Bool := b == 32 || b == 9 || b == 10 || b == 13
/-- the bytes x and y stand at a -/
def is2 (l : List UInt8) (a : Nat) (x y : UInt8) : Bool := decide (a + 1 < l.length) && (l.getD a 0 == x) && (l.getD (a + 1) 0 == y)
/-- the next newline from a on, or the end -/
def lineEnd (l : List UInt8) (a : Nat) : Nat :=
  if a < l.length then (if l.getD a 0 = 10 then a else lineEnd l (a + 1)) else a
termination_by l.length - a
theorem lineEnd_ge (l : List UInt8) : ∀ (n a : Nat), l.length - a = n → a ≤ lineEnd l a
  | 0, a, h => by rw [lineEnd, if_neg (by omega)]; exact Nat.le_refl _
  | n + 1, a, h => by
    rw [lineEnd, if_pos (by omega)]
    split
    · exact Nat.le_refl _
    · have := lineEnd_ge l n (a + 1) (by omega); omega
/-- the next end of a comment from a on, or the end -/
def closeAt (l : List UInt8) (a : Nat) : Nat :=
  if a < l.length then (if is2 l a 42 47 then a else closeAt l (a + 1)) else a
termination_by l.length - a
theorem closeAt_ge (l : List UInt8) : ∀ (n a : Nat), l.length - a = n → a ≤ closeAt l a
  | 0, a, h => by rw [closeAt, if_neg (by omega)]; exact Nat.le_refl _
  | n + 1, a, h => by
    rw [closeAt, if_pos (by omega)]
    split
    · exact Nat.le_refl _
    · have := closeAt_ge l n (a + 1) (by omega); omega
theorem is2_lt {l : List UInt8} {a : Nat} {x y : UInt8} (h : is2 l a x y = true) : a + 1 < l.length := by
  unfold is2 at h; simp at h; exact h.1.1
theorem closeAt_two {l : List UInt8} : ∀ (n a : Nat), l.length - a = n → closeAt l a < l.length → closeAt l a + 2 ≤ l.length
  | 0, a, h, h2 => by rw [closeAt, if_neg (by omega)] at h2; omega
  | n + 1, a, h, h2 => by
    rw [closeAt, if_pos (by omega)] at h2 ⊢
    split
    · rename_i h3
      have := is2_lt h3; omega
    · rename_i h3
      rw [if_neg h3] at h2
      exact closeAt_two n (a + 1) (by omega) h2
/-- what is between is passed over; below 0 where a comment has no end -/
def pass (l : List UInt8) (a : Nat) : Int :=
  if a < l.length then
    if spB (l.getD a 0) then pass l (a + 1)
    else if is2 l a 45 45 then pass l (lineEnd l (a + 2))
    else if is2 l a 47 42 then (if closeAt l (a + 2) < l.length then pass l (closeAt l (a + 2) + 2) else -(a : Int) - 1)
    else (a : Int)
  else (a : Int)
termination_by l.length - a
decreasing_by
  · omega
  · have := lineEnd_ge l _ (a + 2) rfl; omega
  · have := closeAt_ge l _ (a + 2) rfl; omega
/-- the end of the letters, digits and underscores from a on -/
def runEnd (l : List UInt8) (a : Nat) : Nat :=
  if a < l.length then (if wd ((l.getD a 0).toNat : Int) then runEnd l (a + 1) else a) else a
termination_by l.length - a
theorem runEnd_ge (l : List UInt8) : ∀ (n a : Nat), l.length - a = n → a ≤ runEnd l a
  | 0, a, h => by rw [runEnd, if_neg (by omega)]; exact Nat.le_refl _
  | n + 1, a, h => by
    rw [runEnd, if_pos (by omega)]
    split
    · have := runEnd_ge l n (a + 1) (by omega); omega
    · exact Nat.le_refl _
theorem runEnd_le (l : List UInt8) : ∀ (n a : Nat), l.length - a = n → a ≤ l.length → runEnd l a ≤ l.length
  | 0, a, h, h2 => by rw [runEnd, if_neg (by omega)]; omega
  | n + 1, a, h, h2 => by
    rw [runEnd, if_pos (by omega)]
    split
    · exact runEnd_le l n (a + 1) (by omega) (by omega)
    · omega
/-- what stands between quotes q from i on, and the place behind -/
def quo (q : UInt8) (l : List UInt8) (i : Nat) : Option (List UInt8 × Nat) :=
  if i < l.length then
    if l.getD i 0 = q then
      (if i + 1 < l.length ∧ l.getD (i + 1) 0 = q then (quo q l (i + 2)).map (fun r => (q :: r.1, r.2)) else some ([], i + 1))
    else (quo q l (i + 1)).map (fun r => (l.getD i 0 :: r.1, r.2))
  else none
termination_by l.length - i
theorem quo_end (q : UInt8) (l : List UInt8) : ∀ (n i : Nat), l.length - i ≤ n → ∀ r, quo q l i = some r → i + r.1.length < r.2 ∧ r.2 ≤ l.length
  | 0, i, h, r, hr => by rw [quo, if_neg (by omega)] at hr; cases hr
  | n + 1, i, h, r, hr => by
    rw [quo] at hr
    split at hr
    · split at hr
      · split at hr
        · obtain ⟨r', h1, rfl⟩ := Option.map_eq_some_iff.1 hr
          have := quo_end q l n (i + 2) (by omega) r' h1
          refine ⟨?_, this.2⟩
          show i + (r'.1.length + 1) < r'.2
          omega
        · cases hr
          exact ⟨by show i + 0 < i + 1; omega, by show i + 1 ≤ _; omega⟩
      · obtain ⟨r', h1, rfl⟩ := Option.map_eq_some_iff.1 hr
        have := quo_end q l n (i + 1) (by omega) r' h1
        refine ⟨?_, this.2⟩
        show i + (r'.1.length + 1) < r'.2
        omega
    · cases hr

def signs : List (List UInt8) := [[40], [41], [44], [46], [42], [43], [45], [47], [37], [61], [60, 62], [60], [60, 61], [62], [62, 61], [124, 124]]
def signB (t : List UInt8) : Bool := signs.contains t
def numB (t : List UInt8) : Bool := decide (digVal t ≤ 9223372036854775807) && (decDigits (digVal t) == t)
theorem numB_iff (t : List UInt8) : numB t = true ↔ ∃ n, Num t n := by
  unfold numB Num
  simp
  constructor
  · rintro ⟨h1, h2⟩; exact ⟨_, h1, h2⟩
  · rintro ⟨n, h1, h2⟩
    have e : n = digVal t := (show Num t n from ⟨h1, h2⟩).val
    subst e; exact ⟨h1, h2⟩

/-- the document's condition on a token's kind and text -/
def tokOk (k : Int) (t : List UInt8) : Bool :=
  if k = 1 then decide (0 < numOf (upL t)) && (upL t == t)
  else if k = 2 then okLen t.length
  else if k = 3 then numB t
  else if k = 4 then decide (t.length ≤ 40)
  else if k = 5 then signB t
  else false

/-- a token: its kind, its text, its place -/
structure Tk where
  k : Int
  t : List UInt8
  a : Nat
/-- begins with a letter or an underscore -/
def let1 (l : List UInt8) (a : Nat) : Bool := ltr ((l.getD a 0).toNat : Int) || ((l.getD a 0).toNat : Int) == 95
/-- what a token at a is read as, and the place behind -/
def raw (l : List UInt8) (a : Nat) : Option (Tk × Nat) :=
  let b := l.getD a 0
  if let1 l a then
    (if 0 < numOf (upL (sl l a (runEnd l a))) then some (⟨1, upL (sl l a (runEnd l a)), a⟩, runEnd l a) else some (⟨2, sl l a (runEnd l a), a⟩, runEnd l a))
  else if dg (b.toNat : Int) then some (⟨3, sl l a (runEnd l a), a⟩, runEnd l a)
  else if b = 34 then (quo 34 l (a + 1)).map (fun r => (⟨2, r.1, a⟩, r.2))
  else if b = 39 then (quo 39 l (a + 1)).map (fun r => (⟨4, r.1, a⟩, r.2))
  else if a + 2 ≤ l.length ∧ signB (sl l a (a + 2)) = true then some (⟨5, sl l a (a + 2), a⟩, a + 2)
  else some (⟨5, sl l a (a + 1), a⟩, a + 1)
def one (l : List UInt8) (a : Nat) : Option (Tk × Nat) :=
  match raw l a with
  | some (t, e) => if tokOk t.k t.t then some (t, e) else none
  | none => none
theorem pass_ge (l : List UInt8) : ∀ (n a : Nat), l.length - a ≤ n → pass l a < 0 ∨ (a : Int) ≤ pass l a
  | 0, a, h => by rw [pass, if_neg (by omega)]; omega
  | n + 1, a, h => by
    rw [pass]
    split
    · split
      · have := pass_ge l n (a + 1) (by omega); omega
      · split
        · have h1 := lineEnd_ge l _ (a + 2) rfl
          have := pass_ge l n (lineEnd l (a + 2)) (by omega); omega
        · split
          · split
            · have h1 := closeAt_ge l _ (a + 2) rfl
              have := pass_ge l n (closeAt l (a + 2) + 2) (by omega); omega
            · omega
          · omega
    · omega
theorem raw_end {l : List UInt8} {a : Nat} {t : Tk} {e : Nat} (ha : a < l.length) (h : raw l a = some (t, e)) : a < e ∧ e ≤ l.length ∧ t.a = a := by
  have hw : wd ((l.getD a 0).toNat : Int) = true → a < runEnd l a := fun hw => by
    rw [runEnd, if_pos ha, if_pos hw]
    have := runEnd_ge l _ (a + 1) rfl; omega
  have hle := runEnd_le l _ a rfl (by omega)
  unfold raw at h
  simp only [] at h
  split at h
  · rename_i h1
    have h2 := hw (by unfold let1 at h1; unfold wd; simp at h1 ⊢; rcases h1 with h1 | h1 <;> simp [h1])
    split at h <;> (cases h; exact ⟨h2, hle, rfl⟩)
  · split at h
    · rename_i h1
      have h2 := hw (by unfold wd; rw [h1]; simp)
      cases h; exact ⟨h2, hle, rfl⟩
    · split at h
      · obtain ⟨r, h1, h2⟩ := Option.map_eq_some_iff.1 h
        cases h2
        have := quo_end _ l _ (a + 1) (Nat.le_refl _) r h1
        exact ⟨by omega, this.2, rfl⟩
      · split at h
        · obtain ⟨r, h1, h2⟩ := Option.map_eq_some_iff.1 h
          cases h2
          have := quo_end _ l _ (a + 1) (Nat.le_refl _) r h1
          exact ⟨by omega, this.2, rfl⟩
        · split at h
          · rename_i h1
            cases h; exact ⟨by omega, h1.1, rfl⟩
          · cases h; exact ⟨by omega, by omega, rfl⟩
theorem one_end {l : List UInt8} {a : Nat} {t : Tk} {e : Nat} (ha : a < l.length) (h : one l a = some (t, e)) : a < e ∧ e ≤ l.length ∧ t.a = a ∧ tokOk t.k t.t = true := by
  unfold one at h
  split at h
  · rename_i t' e' hr
    split at h
    · rename_i h1
      cases h
      have := raw_end ha hr
      exact ⟨this.1, this.2.1, this.2.2, h1⟩
    · cases h
  · cases h

/-- the tokens from a on, or the place of the first fault -/
def lexF (l : List UInt8) (a : Nat) : Except Nat (List Tk) :=
  if pass l a < 0 then .error (-(pass l a) - 1).toNat
  else if (pass l a).toNat < l.length then
    match one l (pass l a).toNat with
    | none => .error (pass l a).toNat
    | some r => if a < r.2 ∧ a < l.length then (lexF l r.2).map (fun L => r.1 :: L) else .error 0
  else .ok []
termination_by l.length - a
def lexR (l : List UInt8) : Except Nat (List Tk) := if 2000 < l.length then .error 2000 else lexF l 0
theorem lexF_bad {l : List UInt8} {a : Nat} (h : pass l a < 0) : lexF l a = .error (-(pass l a) - 1).toNat := by rw [lexF, if_pos h]
theorem lexF_end {l : List UInt8} {a p : Nat} (h : pass l a = (p : Int)) (hp : ¬ p < l.length) : lexF l a = .ok [] := by
  rw [lexF, if_neg (by omega), if_neg (by rw [h]; exact hp)]
theorem lexF_none {l : List UInt8} {a p : Nat} (h : pass l a = (p : Int)) (hp : p < l.length) (ho : one l p = none) : lexF l a = .error p := by
  rw [lexF, if_neg (by omega), if_pos (by rw [h]; exact hp), h]
  show (match one l p with | none => _ | some r => _) = _
  rw [ho]; rfl
theorem lexF_some {l : List UInt8} {a p e : Nat} {t : Tk} (h : pass l a = (p : Int)) (hp : p < l.length) (ho : one l p = some (t, e)) : lexF l a = (lexF l e).map (fun L => t :: L) := by
  have hg := pass_ge l _ a (Nat.le_refl _)
  have he := one_end hp ho
  rw [lexF, if_neg (by omega), if_pos (by rw [h]; exact hp), h]
  show (match one l p with | none => _ | some r => _) = _
  rw [ho]
  exact if_pos ⟨by omega, by omega⟩
end Go.Proofs.YtcadoplfgclbjaaDoor

/- Plain facts on the lexer's functions. No program. -/
namespace Go.Proofs.YtcadoplfgclbjaaDoor
open Go.RowKit


theorem beq_lit (s : ByteArray) (l : List UInt8) : (s.toList == l) = decide (s.data.toList = l) := by
  rw [ByteArray.toList_eq]
  by_cases h : s.data.toList = l
  · rw [decide_eq_true h]; simpa using h
  · rw [decide_eq_false h]; simpa using h
theorem signB_cases {l : List UInt8} (h : signB l = true) : l = [40] ∨ l = [41] ∨ l = [44] ∨ l = [46] ∨ l = [42] ∨ l = [43] ∨ l = [45] ∨ l = [47] ∨ l = [37] ∨ l = [61] ∨ l = [60, 62] ∨ l = [60] ∨ l = [60, 61] ∨ l = [62] ∨ l = [62, 61] ∨ l = [124, 124] := by
  unfold signB signs at h
  simpa using h
theorem signB_not {l : List UInt8} (h : signB l = false) : ¬ l = [40] ∧ ¬ l = [41] ∧ ¬ l = [44] ∧ ¬ l = [46] ∧ ¬ l = [42] ∧ ¬ l = [43] ∧ ¬ l = [45] ∧ ¬ l = [47] ∧ ¬ l = [37] ∧ ¬ l = [61] ∧ ¬ l = [60, 62] ∧ ¬ l = [60] ∧ ¬ l = [60, 61] ∧ ¬ l = [62] ∧ ¬ l = [62, 61] ∧ ¬ l = [124, 124] := by
  unfold signB signs at h
  simpa using h
theorem ba_of {s : ByteArray} {l : List UInt8} (h : s.data.toList = l) : s = ⟨l.toArray⟩ := by
  subst h; rfl

theorem runEnd_yes {l : List UInt8} {k : Nat} (h : k < l.length) (hw : wd ((l.getD k 0).toNat : Int) = true) : runEnd l k = runEnd l (k + 1) := by
  rw [runEnd, if_pos h, if_pos hw]
theorem runEnd_no {l : List UInt8} {k : Nat} (h : k < l.length) (hw : wd ((l.getD k 0).toNat : Int) = false) : runEnd l k = k := by
  rw [runEnd, if_pos h, if_neg (by rw [hw]; simp)]
theorem runEnd_out {l : List UInt8} {k : Nat} (h : ¬ k < l.length) : runEnd l k = k := by
  rw [runEnd, if_neg h]
theorem lwd_eq (n : Int) : wd n = (ltr n || n == 95 || dg n) := by unfold wd; rw [Bool.or_assoc, Bool.or_assoc, Bool.or_comm (dg n)]
theorem lstr_at {s : ByteArray} {k : Nat} (h : k < s.size) : s[k] = s.data.toList.getD k 0 := by
  have h' : k < s.data.size := h
  have e : s[k] = s.data[k] := rfl
  rw [e]
  simp [List.getD_eq_getElem?_getD, Array.getElem?_eq_getElem h']

theorem quo_out {q : UInt8} {l : List UInt8} {k : Nat} (h : ¬ k < l.length) : quo q l k = none := by rw [quo, if_neg h]
theorem quo_other {q : UInt8} {l : List UInt8} {k : Nat} (h : k < l.length) (hq : ¬ l.getD k 0 = q) : quo q l k = (quo q l (k + 1)).map (fun r => (l.getD k 0 :: r.1, r.2)) := by
  rw [quo, if_pos h, if_neg hq]
theorem quo_two {q : UInt8} {l : List UInt8} {k : Nat} (h : k < l.length) (hq : l.getD k 0 = q) (h2 : k + 1 < l.length) (hq2 : l.getD (k + 1) 0 = q) : quo q l k = (quo q l (k + 2)).map (fun r => (q :: r.1, r.2)) := by
  rw [quo, if_pos h, if_pos hq, if_pos ⟨h2, hq2⟩]
theorem quo_stop {q : UInt8} {l : List UInt8} {k : Nat} (h : k < l.length) (hq : l.getD k 0 = q) (h2 : ¬ (k + 1 < l.length ∧ l.getD (k + 1) 0 = q)) : quo q l k = some ([], k + 1) := by
  rw [quo, if_pos h, if_pos hq, if_neg h2]
/-- what has been read, ahead of what is still to be read -/
def ahead (out : List UInt8) (r : Option (List UInt8 × Nat)) : Option (List UInt8 × Nat) := r.map fun r => (out ++ r.1, r.2)
theorem ahead_nil (r : Option (List UInt8 × Nat)) : ahead [] r = r := by cases r <;> rfl
theorem ahead_cons (out : List UInt8) (b : UInt8) (r : Option (List UInt8 × Nat)) : ahead out (r.map fun r => (b :: r.1, r.2)) = ahead (out ++ [b]) r := by
  cases r <;> simp [ahead]
theorem u8_eq {a b : UInt8} (h : a = b) : ((a.toNat : Int) == (b.toNat : Int)) = true := by rw [h]; simp
theorem u8_ne {a b : UInt8} (h : ¬ a = b) : ((a.toNat : Int) == (b.toNat : Int)) = false := by
  simp only [beq_eq_false_iff_ne, ne_eq]
  intro e
  exact h (UInt8.toNat_inj.1 (by omega))


theorem list_two {l : List UInt8} {x y : UInt8} (h : l.length = 2) : l = [x, y] ↔ l.getD 0 0 = x ∧ l.getD 1 0 = y := by
  match l, h with
  | [a, b], _ => simp
/-- the two bytes at a, or the one where there is but one, as the model compares them -/
theorem two_is {s : ByteArray} {a : Nat} {x y : UInt8} (ha : a < s.size) : ((s.extract a (min s.size (a + 2))).toList == [x, y]) = is2 s.data.toList a x y := by
  have hl : s.data.toList.length = s.size := rfl
  have hm : (s.extract a (min s.size (a + 2))).data.toList = (s.data.toList.drop a).take (min s.size (a + 2) - a) := by rw [Lib.extract_data]
  rw [beq_lit, hm]
  unfold is2
  by_cases h : a + 1 < s.size
  · have e : min s.size (a + 2) - a = 2 := by omega
    have hlen : ((s.data.toList.drop a).take 2).length = 2 := by simp; omega
    have g0 : ((s.data.toList.drop a).take 2).getD 0 0 = s.data.toList.getD a 0 := by
      simp [List.getD_eq_getElem?_getD]
    have g1 : ((s.data.toList.drop a).take 2).getD 1 0 = s.data.toList.getD (a + 1) 0 := by
      simp [List.getD_eq_getElem?_getD]
    rw [e, decide_eq_true (show a + 1 < s.data.toList.length from h), Bool.true_and, ← g0, ← g1]
    generalize (s.data.toList.drop a).take 2 = L at hlen
    rw [decide_eq_decide.2 (list_two (x := x) (y := y) hlen), Bool.decide_and]
    rfl
  · rw [decide_eq_false (show ¬ a + 1 < s.data.toList.length from h)]
    simp only [Bool.false_and, decide_eq_false_iff_not]
    intro e
    have := congrArg List.length e
    simp at this; omega

theorem pass_out {l : List UInt8} {k : Nat} (h : ¬ k < l.length) : pass l k = (k : Int) := by rw [pass, if_neg h]
theorem pass_sp {l : List UInt8} {k : Nat} (h : k < l.length) (hs : spB (l.getD k 0) = true) : pass l k = pass l (k + 1) := by rw [pass, if_pos h, if_pos hs]
theorem pass_line {l : List UInt8} {k : Nat} (h : k < l.length) (hs : spB (l.getD k 0) = false) (h2 : is2 l k 45 45 = true) : pass l k = pass l (lineEnd l k) := by
  have h3 := is2_lt h2
  have h4 : l.getD k 0 = 45 ∧ l.getD (k + 1) 0 = 45 := by unfold is2 at h2; simp only [Bool.and_eq_true, beq_iff_eq] at h2; exact ⟨h2.1.2, h2.2⟩
  have e : lineEnd l k = lineEnd l (k + 2) := by
    rw [lineEnd, if_pos h, if_neg (by rw [h4.1]; decide), lineEnd, if_pos h3, if_neg (by rw [h4.2]; decide)]
  rw [pass, if_pos h, if_neg (by rw [hs]; simp), if_pos h2, e]
theorem line_two {l : List UInt8} {k : Nat} (h2 : is2 l k 45 45 = true) : k + 2 ≤ lineEnd l k := by
  have h3 := is2_lt h2
  have h4 : l.getD k 0 = 45 ∧ l.getD (k + 1) 0 = 45 := by unfold is2 at h2; simp only [Bool.and_eq_true, beq_iff_eq] at h2; exact ⟨h2.1.2, h2.2⟩
  rw [lineEnd, if_pos (by omega), if_neg (by rw [h4.1]; decide), lineEnd, if_pos h3, if_neg (by rw [h4.2]; decide)]
  exact lineEnd_ge l _ (k + 2) rfl
theorem pass_long {l : List UInt8} {k : Nat} (h : k < l.length) (hs : spB (l.getD k 0) = false) (h2 : is2 l k 45 45 = false) (h3 : is2 l k 47 42 = true) :
    pass l k = if closeAt l (k + 2) < l.length then pass l (closeAt l (k + 2) + 2) else -(k : Int) - 1 := by
  rw [pass, if_pos h, if_neg (by rw [hs]; simp), if_neg (by rw [h2]; simp), if_pos h3]
theorem pass_stop {l : List UInt8} {k : Nat} (h : k < l.length) (hs : spB (l.getD k 0) = false) (h2 : is2 l k 45 45 = false) (h3 : is2 l k 47 42 = false) : pass l k = (k : Int) := by
  rw [pass, if_pos h, if_neg (by rw [hs]; simp), if_neg (by rw [h2]; simp), if_neg (by rw [h3]; simp)]
theorem line_out {l : List UInt8} {k : Nat} (h : ¬ k < l.length) : lineEnd l k = k := by rw [lineEnd, if_neg h]
theorem line_stop {l : List UInt8} {k : Nat} (h : k < l.length) (hb : l.getD k 0 = 10) : lineEnd l k = k := by rw [lineEnd, if_pos h, if_pos hb]
theorem line_on {l : List UInt8} {k : Nat} (h : k < l.length) (hb : ¬ l.getD k 0 = 10) : lineEnd l k = lineEnd l (k + 1) := by rw [lineEnd, if_pos h, if_neg hb]
theorem close_out {l : List UInt8} {k : Nat} (h : ¬ k < l.length) : closeAt l k = k := by rw [closeAt, if_neg h]
theorem close_stop {l : List UInt8} {k : Nat} (h : k < l.length) (hb : is2 l k 42 47 = true) : closeAt l k = k := by rw [closeAt, if_pos h, if_pos hb]
theorem close_on {l : List UInt8} {k : Nat} (h : k < l.length) (hb : is2 l k 42 47 = false) : closeAt l k = closeAt l (k + 1) := by rw [closeAt, if_pos h, if_neg (by rw [hb]; simp)]
theorem sp_cases (b : UInt8) : (spB b = false ∧ (((b.toNat : Int) == 32) = false ∧ ((b.toNat : Int) == 9) = false ∧ ((b.toNat : Int) == 10) = false ∧ ((b.toNat : Int) == 13) = false)) ∨
    (spB b = true ∧ (b = 32 ∨ b = 9 ∨ b = 10 ∨ b = 13)) := by
  unfold spB
  by_cases h : b = 32 ∨ b = 9 ∨ b = 10 ∨ b = 13
  · exact .inr ⟨by rcases h with rfl | rfl | rfl | rfl <;> rfl, h⟩
  · simp only [not_or] at h
    have f : ∀ c : UInt8, ¬ b = c → ((b.toNat : Int) == (c.toNat : Int)) = false := fun c hc => u8_ne hc
    exact .inl ⟨by simp [h], f 32 h.1, f 9 h.2.1, f 10 h.2.2.1, f 13 h.2.2.2⟩

theorem ext_sl (s : ByteArray) (a b : Nat) : (s.extract a b).data.toList = sl s.data.toList a b := by rw [Lib.extract_data]; rfl
theorem sl_len (l : List UInt8) (a b : Nat) : (sl l a b).length ≤ l.length := by unfold sl; simp; omega
theorem one_raw {l : List UInt8} {a : Nat} {t : Tk} {e : Nat} (h : raw l a = some (t, e)) : one l a = if tokOk t.k t.t then some (t, e) else none := by unfold one; rw [h]
theorem one_no {l : List UInt8} {a : Nat} (h : raw l a = none) : one l a = none := by unfold one; rw [h]
theorem raw_key {l : List UInt8} {a : Nat} (h1 : let1 l a = true) (h2 : 0 < numOf (upL (sl l a (runEnd l a)))) : raw l a = some (⟨1, upL (sl l a (runEnd l a)), a⟩, runEnd l a) := by
  unfold raw; simp only []; rw [if_pos h1, if_pos h2]
theorem raw_name {l : List UInt8} {a : Nat} (h1 : let1 l a = true) (h2 : ¬ 0 < numOf (upL (sl l a (runEnd l a)))) : raw l a = some (⟨2, sl l a (runEnd l a), a⟩, runEnd l a) := by
  unfold raw; simp only []; rw [if_pos h1, if_neg h2]
theorem if_no {b : Bool} {α : Type} {x y : α} (h : b = false) : (if b then x else y) = y := by subst h; rfl
theorem raw_num {l : List UInt8} {a : Nat} (h1 : let1 l a = false) (h2 : dg ((l.getD a 0).toNat : Int) = true) : raw l a = some (⟨3, sl l a (runEnd l a), a⟩, runEnd l a) := by
  unfold raw; simp only []; rw [if_no h1, if_pos h2]
theorem raw_q34 {l : List UInt8} {a : Nat} (h1 : let1 l a = false) (h2 : dg ((l.getD a 0).toNat : Int) = false) (h3 : l.getD a 0 = 34) : raw l a = (quo 34 l (a + 1)).map (fun r => (⟨2, r.1, a⟩, r.2)) := by
  unfold raw; simp only []; rw [if_no h1, if_no h2, if_pos h3]
theorem raw_q39 {l : List UInt8} {a : Nat} (h1 : let1 l a = false) (h2 : dg ((l.getD a 0).toNat : Int) = false) (h3 : ¬ l.getD a 0 = 34) (h4 : l.getD a 0 = 39) : raw l a = (quo 39 l (a + 1)).map (fun r => (⟨4, r.1, a⟩, r.2)) := by
  unfold raw; simp only []; rw [if_no h1, if_no h2, if_neg h3, if_pos h4]
theorem raw_two {l : List UInt8} {a : Nat} (h1 : let1 l a = false) (h2 : dg ((l.getD a 0).toNat : Int) = false) (h3 : ¬ l.getD a 0 = 34) (h4 : ¬ l.getD a 0 = 39) (h5 : a + 2 ≤ l.length ∧ signB (sl l a (a + 2)) = true) : raw l a = some (⟨5, sl l a (a + 2), a⟩, a + 2) := by
  unfold raw; simp only []; rw [if_no h1, if_no h2, if_neg h3, if_neg h4, if_pos h5]
theorem raw_one {l : List UInt8} {a : Nat} (h1 : let1 l a = false) (h2 : dg ((l.getD a 0).toNat : Int) = false) (h3 : ¬ l.getD a 0 = 34) (h4 : ¬ l.getD a 0 = 39) (h5 : ¬ (a + 2 ≤ l.length ∧ signB (sl l a (a + 2)) = true)) : raw l a = some (⟨5, sl l a (a + 1), a⟩, a + 1) := by
  unfold raw; simp only []; rw [if_no h1, if_no h2, if_neg h3, if_neg h4, if_neg h5]


theorem lineEnd_le (l : List UInt8) : ∀ (n a : Nat), l.length - a = n → a ≤ l.length → lineEnd l a ≤ l.length
  | 0, a, h, h2 => by rw [lineEnd, if_neg (by omega)]; exact h2
  | n + 1, a, h, h2 => by
    rw [lineEnd, if_pos (by omega)]
    split
    · exact h2
    · exact lineEnd_le l n (a + 1) (by omega) (by omega)
theorem pass_bounds (l : List UInt8) : ∀ (n a : Nat), l.length - a ≤ n → a ≤ l.length → -(l.length : Int) - 1 ≤ pass l a ∧ pass l a ≤ (l.length : Int)
  | 0, a, h, h2 => by rw [pass, if_neg (by omega)]; omega
  | n + 1, a, h, h2 => by
    rw [pass]
    split
    · split
      · exact pass_bounds l n (a + 1) (by omega) (by omega)
      · split
        · rename_i h4
          have h3 := is2_lt h4
          have h5 := lineEnd_ge l _ (a + 2) rfl
          exact pass_bounds l n (lineEnd l (a + 2)) (by omega) (lineEnd_le l _ (a + 2) rfl (by omega))
        · split
          · split
            · rename_i h3 h4
              have h5 := closeAt_ge l _ (a + 2) rfl
              have h6 := closeAt_two _ (a + 2) rfl h4
              exact pass_bounds l n (closeAt l (a + 2) + 2) (by omega) h6
            · omega
          · omega
    · omega

/-- what has been read ahead of what is still to be read -/
def aheadT (L : List Tk) (r : Except Nat (List Tk)) : Except Nat (List Tk) := r.map fun M => L ++ M
theorem aheadT_nil (r : Except Nat (List Tk)) : aheadT [] r = r := by cases r <;> rfl
theorem aheadT_cons (L : List Tk) (t : Tk) (r : Except Nat (List Tk)) : aheadT L (r.map fun M => t :: M) = aheadT (L ++ [t]) r := by
  cases r <;> simp [aheadT, Except.map]
end Go.Proofs.YtcadoplfgclbjaaDoor

/- Plain facts: a text between quotes, the quote doubled inside. No program. -/
namespace Go.Proofs.YtcadoplfgclbjaaDoor
open Go.Lib (count index replaceK replaceAll)

/-- every c doubled -/
def dbl (c : UInt8) : List UInt8 → List UInt8
  | [] => []
  | b :: l => if b = c then c :: c :: dbl c l else b :: dbl c l
/-- between quotes -/
def quoted (c : UInt8) (l : List UInt8) : List UInt8 := c :: (dbl c l ++ [c])

theorem dbl_eq (c : UInt8) (l : List UInt8) : dbl c (c :: l) = c :: c :: dbl c l := by rw [dbl, if_pos rfl]
theorem dbl_ne {b c : UInt8} (h : b ≠ c) (l : List UInt8) : dbl c (b :: l) = b :: dbl c l := by rw [dbl, if_neg h]
theorem dbl_snoc_eq (c : UInt8) : ∀ l : List UInt8, dbl c (l ++ [c]) = dbl c l ++ [c, c]
  | [] => by simp [dbl]
  | b :: l => by
    have ih := dbl_snoc_eq c l
    by_cases h : b = c
    · subst h; rw [List.cons_append, dbl_eq, dbl_eq, ih]; rfl
    · rw [List.cons_append, dbl_ne h, dbl_ne h, ih]; rfl
theorem dbl_snoc_ne {x c : UInt8} (hx : x ≠ c) : ∀ l : List UInt8, dbl c (l ++ [x]) = dbl c l ++ [x]
  | [] => by simp [dbl, hx]
  | b :: l => by
    have ih := dbl_snoc_ne hx l
    by_cases h : b = c
    · subst h; rw [List.cons_append, dbl_eq, dbl_eq, ih]; rfl
    · rw [List.cons_append, dbl_ne h, dbl_ne h, ih]; rfl
theorem dbl_len (c : UInt8) : ∀ l : List UInt8, (dbl c l).length ≤ 2 * l.length
  | [] => by simp [dbl]
  | b :: l => by
    have ih := dbl_len c l
    by_cases h : b = c
    · subst h; rw [dbl_eq]; simp; omega
    · rw [dbl_ne h]; simp; omega

theorem qindex_nil (c : UInt8) : index [] [c] = -1 := by rfl
theorem qindex_eq (c : UInt8) (l : List UInt8) : index (c :: l) [c] = 0 := by simp [index]
theorem qindex_ne {b c : UInt8} (h : b ≠ c) (l : List UInt8) : index (b :: l) [c] = if index l [c] == -1 then -1 else index l [c] + 1 := by
  have : ¬ c = b := fun e => h e.symm
  simp [index, this]

theorem replaceK_dbl (c : UInt8) : ∀ l : List UInt8, replaceK [c] [c, c] (count l [c]) l = dbl c l
  | [] => by rw [Lib.count_miss (qindex_nil c)]; rfl
  | b :: l => by
    have ih := replaceK_dbl c l
    by_cases h : b = c
    · subst h
      rw [Lib.count_cons_eq, Nat.add_comm, Lib.replaceK_hit [b] [b, b] _ (b :: l) 0 (by rw [qindex_eq]; rfl), dbl_eq, ← ih]; simp
    · rw [Lib.count_cons_ne b c l h, dbl_ne h, ← ih]
      have hi := qindex_ne h l
      cases hk : count l [c] with
      | zero => rfl
      | succ k =>
        by_cases hm : index l [c] = -1
        · rw [Lib.count_miss hm] at hk; cases hk
        · have hge := Lib.index_ge l [c]
          have e1 : ¬ (index l [c] == -1) = true := by simpa using hm
          rw [if_neg e1] at hi
          rw [Lib.replaceK_hit [c] [c, c] k (b :: l) ((index l [c]).toNat + 1) (by omega), Lib.replaceK_hit [c] [c, c] k l (index l [c]).toNat (by omega)]
          simp
theorem replaceAll_dbl (c : UInt8) (l : List UInt8) : replaceAll l [c] [c, c] = dbl c l := by
  unfold replaceAll Lib.replace Lib.replaceNum
  rw [if_neg (by simp), if_pos (Or.inl (by omega))]
  exact replaceK_dbl c l
end Go.Proofs.YtcadoplfgclbjaaDoor

/- What is cut off ahead of a token, or ahead of the first fault, is read as before. No program. -/
namespace Go.Proofs.YtcadoplfgclbjaaDoor
open Go.RowKit

/-- the comment without an end stands at or behind the place where passing over begins -/
theorem pass_bad_ge (l : List UInt8) : ∀ (n a : Nat), l.length - a ≤ n → 0 ≤ pass l a ∨ (a : Int) ≤ -(pass l a) - 1
  | 0, a, h => by rw [pass, if_neg (by omega)]; omega
  | n + 1, a, h => by
    rw [pass]
    split
    · split
      · have := pass_bad_ge l n (a + 1) (by omega); omega
      · split
        · have h1 := lineEnd_ge l _ (a + 2) rfl
          have := pass_bad_ge l n (lineEnd l (a + 2)) (by omega); omega
        · split
          · split
            · have h1 := closeAt_ge l _ (a + 2) rfl
              have := pass_bad_ge l n (closeAt l (a + 2) + 2) (by omega); omega
            · omega
          · omega
    · omega

section
variable {l : List UInt8} {m : Nat}
theorem cut_len (hm : m ≤ l.length) : (l.take m).length = m := by simp; omega
theorem cut_get {j : Nat} (h : j < m) : (l.take m).getD j 0 = l.getD j 0 := by
  simp [List.getD_eq_getElem?_getD, List.getElem?_take, h]
theorem cut_is2 {a : Nat} {x y : UInt8} (hm : m ≤ l.length) (h : a + 1 < m) : is2 (l.take m) a x y = is2 l a x y := by
  unfold is2
  rw [cut_len hm, cut_get (by omega), cut_get h, decide_eq_true h, decide_eq_true (show a + 1 < l.length by omega)]
theorem cut_is2_no {a : Nat} {x y : UInt8} (hm : m ≤ l.length) (h : ¬ a + 1 < m) : is2 (l.take m) a x y = false := by
  unfold is2
  rw [cut_len hm, decide_eq_false h]; rfl
theorem is2_false_cut {a : Nat} {x y : UInt8} (hm : m ≤ l.length) (h : is2 l a x y = false) : is2 (l.take m) a x y = false := by
  by_cases h1 : a + 1 < m
  · rw [cut_is2 hm h1]; exact h
  · exact cut_is2_no hm h1
theorem cut_line (hm : m ≤ l.length) : ∀ (n a : Nat), m - a ≤ n → lineEnd l a ≤ m → lineEnd (l.take m) a = lineEnd l a
  | n, a, hn, h => by
    by_cases ha : a < m
    · by_cases hb : l.getD a 0 = 10
      · rw [line_stop (by omega) hb, line_stop (by rw [cut_len hm]; exact ha) (by rw [cut_get ha]; exact hb)]
      · rw [line_on (by omega) hb] at h ⊢
        rw [line_on (by rw [cut_len hm]; exact ha) (by rw [cut_get ha]; exact hb)]
        match n with
        | 0 => omega
        | n + 1 => exact cut_line hm n (a + 1) (by omega) h
    · have hge := lineEnd_ge l _ a rfl
      rw [line_out (l := l.take m) (by rw [cut_len hm]; exact ha)]
      omega
theorem cut_close (hm : m ≤ l.length) : ∀ (n a : Nat), m - a ≤ n → closeAt l a + 2 ≤ m → closeAt (l.take m) a = closeAt l a
  | n, a, hn, h => by
    have hge := closeAt_ge l _ a rfl
    have ha : a < m := by omega
    cases hb : is2 l a 42 47
    · rw [close_on (by omega) hb] at h ⊢
      rw [close_on (by rw [cut_len hm]; exact ha) (is2_false_cut hm hb)]
      match n with
      | 0 => omega
      | n + 1 => exact cut_close hm n (a + 1) (by omega) h
    · rw [close_stop (by omega) hb] at h ⊢
      rw [close_stop (by rw [cut_len hm]; exact ha) (by rw [cut_is2 hm (by omega)]; exact hb)]
theorem cut_run (hm : m ≤ l.length) : ∀ (n a : Nat), m - a ≤ n → runEnd l a ≤ m → runEnd (l.take m) a = runEnd l a
  | n, a, hn, h => by
    by_cases ha : a < m
    · cases hb : wd ((l.getD a 0).toNat : Int)
      · rw [runEnd_no (by omega) hb, runEnd_no (by rw [cut_len hm]; exact ha) (by rw [cut_get ha]; exact hb)]
      · rw [runEnd_yes (by omega) hb] at h ⊢
        rw [runEnd_yes (by rw [cut_len hm]; exact ha) (by rw [cut_get ha]; exact hb)]
        match n with
        | 0 => omega
        | n + 1 => exact cut_run hm n (a + 1) (by omega) h
    · have hge := runEnd_ge l _ a rfl
      rw [runEnd_out (l := l.take m) (by rw [cut_len hm]; exact ha)]
      omega
theorem cut_quo {q : UInt8} (hm : m ≤ l.length) : ∀ (n i : Nat), m - i ≤ n → ∀ r, quo q l i = some r → r.2 ≤ m → quo q (l.take m) i = some r
  | n, i, hn, r, hr, h => by
    have he := quo_end q l _ i (Nat.le_refl _) r hr
    have hi : i < m := by omega
    by_cases hq : l.getD i 0 = q
    · by_cases h2 : i + 1 < l.length ∧ l.getD (i + 1) 0 = q
      · rw [quo_two (by omega) hq h2.1 h2.2] at hr
        obtain ⟨r', h1, rfl⟩ := Option.map_eq_some_iff.1 hr
        have he' := quo_end q l _ (i + 2) (Nat.le_refl _) r' h1
        have hr2 : r'.2 ≤ m := h
        match n with
        | 0 => omega
        | n + 1 =>
          rw [quo_two (by rw [cut_len hm]; exact hi) (by rw [cut_get hi]; exact hq) (by rw [cut_len hm]; omega) (by rw [cut_get (by omega)]; exact h2.2), cut_quo hm n (i + 2) (by omega) r' h1 hr2]
          rfl
      · rw [quo_stop (by omega) hq h2] at hr
        cases hr
        refine quo_stop (by rw [cut_len hm]; exact hi) (by rw [cut_get hi]; exact hq) (fun h3 => h2 ?_)
        rw [cut_len hm] at h3
        exact ⟨by omega, by rw [← cut_get h3.1]; exact h3.2⟩
    · rw [quo_other (by omega) hq] at hr
      obtain ⟨r', h1, rfl⟩ := Option.map_eq_some_iff.1 hr
      have hr2 : r'.2 ≤ m := h
      match n with
      | 0 => omega
      | n + 1 =>
        rw [quo_other (by rw [cut_len hm]; exact hi) (by rw [cut_get hi]; exact hq), cut_quo hm n (i + 1) (by omega) r' h1 hr2, cut_get hi]
        rfl
/-- passing over ends at p, or finds the comment without an end at p -/
theorem cut_pass (hm : m ≤ l.length) : ∀ (n a p : Nat), m - a ≤ n → a ≤ p → p ≤ m → (pass l a = (p : Int) ∨ (pass l a = -(p : Int) - 1 ∧ p = m)) → pass (l.take m) a = (p : Int)
  | n, a, p, hn, hap, hpm, h => by
    by_cases ha : a < m
    · have hal : a < l.length := by omega
      have hal' : a < (l.take m).length := by rw [cut_len hm]; exact ha
      have hge : ∀ b : Nat, pass l a = pass l b → (b : Int) ≤ p := fun b e => by
        have hb := pass_ge l _ b (Nat.le_refl _)
        rcases h with h | ⟨h, hp⟩
        · rw [e] at h; omega
        · rcases hb with hb | hb
          · rcases pass_bad_ge l _ b (Nat.le_refl _) with h3 | h3
            · rw [e] at h; omega
            · rw [e] at h; omega
          · rw [e] at h; omega
      cases hs : spB (l.getD a 0)
      · cases h45 : is2 l a 45 45
        · cases h47 : is2 l a 47 42
          · have e := pass_stop hal hs h45 h47
            have hpa : p = a := by rcases h with h | ⟨h, hp⟩ <;> omega
            subst hpa
            exact pass_stop hal' (by rw [cut_get ha]; exact hs) (is2_false_cut hm h45) (is2_false_cut hm h47)
          · have e := pass_long hal hs h45 h47
            split at e
            · rename_i hc
              have hb := hge (closeAt l (a + 2) + 2) e
              have hcg := closeAt_ge l _ (a + 2) rfl
              have e' := pass_long hal' (by rw [cut_get ha]; exact hs) (is2_false_cut hm h45) (by rw [cut_is2 hm (by omega)]; exact h47)
              rw [cut_close hm _ (a + 2) (Nat.le_refl _) (by omega), if_pos (by rw [cut_len hm]; omega)] at e'
              rw [e']
              match n with
              | 0 => omega
              | n + 1 => exact cut_pass hm n _ p (by omega) (by omega) hpm (by rw [← e]; exact h)
            · rcases h with h | ⟨h, hp⟩ <;> omega
        · have e := pass_line hal hs h45
          have hb := hge (lineEnd l a) e
          have h2 := line_two h45
          have e' := pass_line hal' (by rw [cut_get ha]; exact hs) (by rw [cut_is2 hm (by omega)]; exact h45)
          rw [cut_line hm _ a (Nat.le_refl _) (by omega)] at e'
          rw [e']
          match n with
          | 0 => omega
          | n + 1 => exact cut_pass hm n _ p (by omega) (by omega) hpm (by rw [← e]; exact h)
      · have e := pass_sp hal hs
        have hb := hge (a + 1) (by rw [e])
        have e' := pass_sp hal' (by rw [cut_get ha]; exact hs)
        rw [e']
        match n with
        | 0 => omega
        | n + 1 => exact cut_pass hm n (a + 1) p (by omega) (by omega) hpm (by rw [← e]; exact h)
    · have : p = a := by omega
      subst this
      exact pass_out (by rw [cut_len hm]; exact ha)
end
end Go.Proofs.YtcadoplfgclbjaaDoor

/- What is cut off ahead of a token, or ahead of the first fault, is read as before: tokens, and texts. No program. -/
namespace Go.Proofs.YtcadoplfgclbjaaDoor
open Go.RowKit

section
variable {l : List UInt8} {m : Nat}
theorem cut_sl {a b : Nat} (h : b ≤ m) : sl (l.take m) a b = sl l a b := by
  unfold sl
  rw [List.drop_take, List.take_take]
  congr 1
  omega
theorem cut_let {a : Nat} (h : a < m) : let1 (l.take m) a = let1 l a := by unfold let1; rw [cut_get h]
theorem cut_raw {a e : Nat} {t : Tk} (hm : m ≤ l.length) (ha : a < l.length) (h : raw l a = some (t, e)) (he : e ≤ m) : raw (l.take m) a = some (t, e) := by
  have hre := raw_end ha h
  have ham : a < m := by omega
  have hL := cut_let (l := l) ham
  have hG := cut_get (l := l) (m := m) ham
  cases h1 : let1 l a
  · cases h2 : dg ((l.getD a 0).toNat : Int)
    · by_cases h3 : l.getD a 0 = 34
      · rw [raw_q34 h1 h2 h3] at h
        obtain ⟨r, hr, h4⟩ := Option.map_eq_some_iff.1 h
        rw [raw_q34 (hL.trans h1) (by rw [hG]; exact h2) (by rw [hG]; exact h3), cut_quo hm _ (a + 1) (Nat.le_refl _) r hr (by cases h4; exact he)]
        exact congrArg some h4
      · by_cases h4 : l.getD a 0 = 39
        · rw [raw_q39 h1 h2 h3 h4] at h
          obtain ⟨r, hr, h5⟩ := Option.map_eq_some_iff.1 h
          rw [raw_q39 (hL.trans h1) (by rw [hG]; exact h2) (by rw [hG]; exact h3) (by rw [hG]; exact h4), cut_quo hm _ (a + 1) (Nat.le_refl _) r hr (by cases h5; exact he)]
          exact congrArg some h5
        · by_cases h5 : a + 2 ≤ l.length ∧ signB (sl l a (a + 2)) = true
          · rw [raw_two h1 h2 h3 h4 h5] at h
            cases h
            have e2 := cut_sl (l := l) (a := a) he
            rw [raw_two (hL.trans h1) (by rw [hG]; exact h2) (by rw [hG]; exact h3) (by rw [hG]; exact h4) ⟨by rw [cut_len hm]; exact he, by rw [e2]; exact h5.2⟩, e2]
          · rw [raw_one h1 h2 h3 h4 h5] at h
            cases h
            have e1 := cut_sl (l := l) (a := a) he
            rw [raw_one (hL.trans h1) (by rw [hG]; exact h2) (by rw [hG]; exact h3) (by rw [hG]; exact h4) (fun h6 => h5 ?_), e1]
            rw [cut_len hm] at h6
            exact ⟨by omega, by rw [← cut_sl (l := l) (a := a) h6.1]; exact h6.2⟩
    · rw [raw_num h1 h2] at h
      cases h
      rw [raw_num (hL.trans h1) (by rw [hG]; exact h2), cut_run hm _ a (Nat.le_refl _) he, cut_sl he]
  · by_cases h2 : 0 < numOf (upL (sl l a (runEnd l a)))
    · rw [raw_key h1 h2] at h
      cases h
      have hr := cut_run hm _ a (Nat.le_refl _) he
      have es := cut_sl (l := l) (a := a) he
      rw [raw_key (hL.trans h1) (by rw [hr, es]; exact h2), hr, es]
    · rw [raw_name h1 h2] at h
      cases h
      have hr := cut_run hm _ a (Nat.le_refl _) he
      have es := cut_sl (l := l) (a := a) he
      rw [raw_name (hL.trans h1) (by rw [hr, es]; exact h2), hr, es]
theorem cut_one {a e : Nat} {t : Tk} (hm : m ≤ l.length) (ha : a < l.length) (h : one l a = some (t, e)) (he : e ≤ m) : one (l.take m) a = some (t, e) := by
  unfold one at h ⊢
  rcases hr : raw l a with _ | ⟨t', e'⟩
  · rw [hr] at h; cases h
  · rw [hr] at h
    have h' : (if tokOk t'.k t'.t then some (t', e') else none) = some (t, e) := h
    split at h'
    · rename_i ho
      cases h'
      rw [cut_raw hm ha hr he]
      exact if_pos ho
    · cases h'
end

/-- one step of the lexer -/
theorem lexF_step {l : List UInt8} {a : Nat} (h0 : 0 ≤ pass l a) : (∃ p : Nat, pass l a = (p : Int) ∧ a ≤ p ∧ ¬ p < l.length ∧ lexF l a = .ok []) ∨ (∃ p : Nat, pass l a = (p : Int) ∧ a ≤ p ∧ p < l.length ∧ one l p = none ∧ lexF l a = .error p) ∨
    (∃ (p e : Nat) (t : Tk), pass l a = (p : Int) ∧ a ≤ p ∧ p < l.length ∧ one l p = some (t, e) ∧ p < e ∧ e ≤ l.length ∧ t.a = p ∧ tokOk t.k t.t = true ∧ lexF l a = (lexF l e).map (fun L => t :: L)) := by
  obtain ⟨p, hp⟩ := Int.eq_ofNat_of_zero_le h0
  have hg := pass_ge l _ a (Nat.le_refl _)
  have hap : a ≤ p := by omega
  by_cases hpl : p < l.length
  · rcases ho : one l p with _ | ⟨t, e⟩
    · exact .inr (.inl ⟨p, hp, hap, hpl, ho, lexF_none hp hpl ho⟩)
    · have he := one_end hpl ho
      exact .inr (.inr ⟨p, e, t, hp, hap, hpl, ho, he.1, he.2.1, he.2.2.1, he.2.2.2, lexF_some hp hpl ho⟩)
  · exact .inl ⟨p, hp, hap, hpl, lexF_end hp hpl⟩
theorem map_ok {r : Except Nat (List Tk)} {t : Tk} {L : List Tk} (h : r.map (fun L => t :: L) = .ok L) : ∃ M, r = .ok M ∧ L = t :: M := by
  cases r with
  | ok M => cases h; exact ⟨M, rfl, rfl⟩
  | error n => cases h
theorem map_error {r : Except Nat (List Tk)} {t : Tk} {n : Nat} (h : r.map (fun L => t :: L) = .error n) : r = .error n := by
  cases r with
  | ok M => cases h
  | error k => cases h; rfl

/-- the tokens are right, and stand in ascending order -/
theorem lexF_places (l : List UInt8) : ∀ (n a : Nat) (L : List Tk), l.length - a ≤ n → lexF l a = .ok L →
    (∀ j (h : j < L.length), tokOk L[j].k L[j].t = true ∧ a ≤ L[j].a ∧ L[j].a < l.length) ∧ ∀ j (h : j + 1 < L.length), L[j].a < L[j + 1].a
  | n, a, L, hn, h => by
    by_cases h0 : pass l a < 0
    · rw [lexF_bad h0] at h; cases h
    · rcases lexF_step (l := l) (a := a) (by omega) with ⟨p, _, _, _, h1⟩ | ⟨p, _, _, _, _, h1⟩ | ⟨p, e, t, hp, hap, hpl, ho, hpe, hel, hta, htk, h1⟩
      · rw [h1] at h; cases h
        exact ⟨fun j hj => absurd hj (Nat.not_lt_zero _), fun j hj => absurd hj (Nat.not_lt_zero _)⟩
      · rw [h1] at h; cases h
      · rw [h1] at h
        obtain ⟨M, hM, rfl⟩ := map_ok h
        match n with
        | 0 => omega
        | n + 1 =>
          obtain ⟨i1, i2⟩ := lexF_places l n e M (by omega) hM
          refine ⟨fun j hj => ?_, fun j hj => ?_⟩
          · match j with
            | 0 => exact ⟨htk, by show a ≤ t.a; omega, by show t.a < l.length; omega⟩
            | j + 1 =>
              have hj' : j < M.length := by simpa using hj
              have := i1 j hj'
              exact ⟨this.1, by show a ≤ (M[j]'hj').a; omega, this.2.2⟩
          · match j with
            | 0 =>
              have hj' : 0 < M.length := by simpa using hj
              have := i1 0 hj'
              show t.a < (M[0]'hj').a
              omega
            | j + 1 => exact i2 j (by simpa using hj)
/-- what is cut off at token k is read as the tokens ahead of it -/
theorem lexF_cut (l : List UInt8) : ∀ (n a : Nat) (L : List Tk), l.length - a ≤ n → lexF l a = .ok L → ∀ k (h : k < L.length), lexF (l.take L[k].a) a = .ok (L.take k)
  | n, a, L, hn, h, k, hk => by
    have hpl0 := lexF_places l _ a L (Nat.le_refl _) h
    by_cases h0 : pass l a < 0
    · rw [lexF_bad h0] at h; cases h
    · rcases lexF_step (l := l) (a := a) (by omega) with ⟨p, _, _, _, h1⟩ | ⟨p, _, _, _, _, h1⟩ | ⟨p, e, t, hp, hap, hpl, ho, hpe, hel, hta, htk, h1⟩
      · rw [h1] at h; cases h
        exact absurd hk (Nat.not_lt_zero _)
      · rw [h1] at h; cases h
      · rw [h1] at h
        obtain ⟨M, hM, rfl⟩ := map_ok h
        match k with
        | 0 =>
          have e0 : (t :: M)[0].a = p := hta
          rw [e0]
          have hc := cut_pass (l := l) (m := p) (by omega) _ a p (Nat.le_refl _) hap (Nat.le_refl _) (.inl hp)
          rw [lexF_end hc (by rw [cut_len (by omega)]; omega)]
          rfl
        | k + 1 =>
          have e0 : (t :: M)[k + 1].a = (M[k]'(by simpa using hk)).a := rfl
          have hk' : k < M.length := by simpa using hk
          have hMp := (lexF_places l _ e M (Nat.le_refl _) hM).1 k hk'
          rw [e0]
          generalize hmm : (M[k]'hk').a = mm at hMp
          have hc := cut_pass (l := l) (m := mm) (by omega) _ a p (Nat.le_refl _) hap (by omega) (.inl hp)
          have ho' := cut_one (l := l) (m := mm) (by omega) hpl ho (by omega)
          rw [lexF_some hc (by rw [cut_len (by omega)]; omega) ho']
          match n with
          | 0 => omega
          | n + 1 =>
            have ih := lexF_cut l n e M (by omega) hM k hk'
            rw [hmm] at ih
            rw [ih]
            rfl
/-- the place of the first fault lies in the text; what is cut off there is a text without a fault -/
theorem lexF_error (l : List UInt8) : ∀ (n a p : Nat), l.length - a ≤ n → a ≤ l.length → lexF l a = .error p → a ≤ p ∧ p ≤ l.length ∧ ∃ L, lexF (l.take p) a = .ok L
  | n, a, p, hn, hal, h => by
    by_cases h0 : pass l a < 0
    · rw [lexF_bad h0] at h
      have hb := pass_bounds l _ a (Nat.le_refl _) hal
      have hg := pass_bad_ge l _ a (Nat.le_refl _)
      have hp : (-(pass l a) - 1).toNat = p := by cases h; rfl
      have hap : a ≤ p := by omega
      have hpl : p ≤ l.length := by omega
      have hc := cut_pass (l := l) (m := p) hpl _ a p (Nat.le_refl _) hap (Nat.le_refl _) (.inr ⟨by omega, rfl⟩)
      exact ⟨hap, hpl, [], lexF_end hc (by rw [cut_len hpl]; omega)⟩
    · rcases lexF_step (l := l) (a := a) (by omega) with ⟨q, _, _, _, h1⟩ | ⟨q, hq, haq, hql, _, h1⟩ | ⟨q, e, t, hq, haq, hql, ho, hqe, hel, hta, htk, h1⟩
      · rw [h1] at h; cases h
      · rw [h1] at h
        have hqp : q = p := by cases h; rfl
        subst hqp
        have hc := cut_pass (l := l) (m := q) (by omega) _ a q (Nat.le_refl _) haq (Nat.le_refl _) (.inl hq)
        exact ⟨haq, by omega, [], lexF_end hc (by rw [cut_len (by omega)]; omega)⟩
      · rw [h1] at h
        have hM := map_error h
        match n with
        | 0 => omega
        | n + 1 =>
          obtain ⟨i1, i2, M, i3⟩ := lexF_error l n e p (by omega) hel hM
          have hc := cut_pass (l := l) (m := p) i2 _ a q (Nat.le_refl _) haq (by omega) (.inl hq)
          have ho' := cut_one (l := l) (m := p) i2 hql ho i1
          refine ⟨by omega, i2, t :: M, ?_⟩
          rw [lexF_some hc (by rw [cut_len i2]; omega) ho', i3]
          rfl
end Go.Proofs.YtcadoplfgclbjaaDoor

/- A region that draws its order and in which a callee makes memory: one walk, in the order of the text, over all worlds in which what was there stands as it was. -/
namespace Go.Proofs.YtcadoplfgclbjaaDoor
open Go.RowKit

open Classical in
/-- w where all that lay in wr stands as it was; wr else -/
noncomputable def lat (wr w : World) : World := if Below wr.heap.size wr w then w else wr
theorem lat_below (wr v : World) : Below wr.heap.size wr (lat wr v) := by
  unfold lat
  split
  · assumption
  · exact Below.refl _ _
theorem lat_of {wr w : World} (h : Below wr.heap.size wr w) : lat wr w = w := if_pos h
theorem lat_to {wr v w : World} (h : Below (lat wr v).heap.size (lat wr v) w) : ∃ m, w = lat wr m :=
  ⟨w, (lat_of ((lat_below wr v).trans (h.mono (lat_below wr v).size))).symm⟩
theorem cell_block {w : World} {p : Addr} {x : Value} (h : w.cell? p = some x) : p.block < w.heap.size := by
  rcases Nat.lt_or_ge p.block w.heap.size with h1 | h1
  · exact h1
  · have h2 : w.heap[p.block]? = none := Array.getElem?_eq_none h1
    simp [World.cell?, h2] at h
theorem lat_cell {wr : World} {p : Addr} {x : Value} (h : wr.cell? p = some x) (v : World) : (lat wr v).cell? p = some x :=
  ((lat_below wr v).cell (cell_block h)).trans h
theorem region_lat {P : Program} {id : Nat} {Q : Exit → Act → World → Prop} {a : Act} {w : World} {l : List Oper} (hm : P.follows .mixedOrders = true) (hB : Region.lexB .any l.toArray = true)
    (h : wpQuiet P l.toArray (fun w' => ∃ n, w' = lat w n) (fun a' => ∀ w', (∃ n, w' = lat w n) → Q .normal a' w') l a) : (Code.region id l.toArray true).wp P Q a w :=
  wp_region_quiet (C := fun w' => ∃ n, w' = lat w n) hm hB ⟨{ w with drawn := w.drawn + 1 }, (lat_of (wr := w) (w := { w with drawn := w.drawn + 1 }) ⟨rfl, rfl, rfl, Nat.le_refl _, fun _ _ => rfl⟩).symm⟩ (by simpa using h)
end Go.Proofs.YtcadoplfgclbjaaDoor
