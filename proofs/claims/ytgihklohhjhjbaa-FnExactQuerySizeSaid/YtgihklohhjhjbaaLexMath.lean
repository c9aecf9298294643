
/- The lexer as plain functions of a list of bytes. No program. -/
import Derived.Test.YtgihklohhjhjbaaNameDef
import Derived.Test.YtgihklohhjhjbaaDecMath
namespace Go.Proofs.Ytgihklohhjhjbaa
open Go.RowKit
open Go.Lib (decDigits)

/-- l from a up to b -/
def sl (l : List UInt8) (a b : Nat) : List UInt8 := (l.drop a).take (b - a)
/-- white space -/
def spB (b : UInt8) : Bool := b == 32 || b == 9 || b == 10 || b == 13
/-- the bytes x and y stand at a -/
def is2 (l : List UInt8) (a : Nat) (x y : UInt8) : Bool := decide (a + 1 < l.length) && (l.getD a 0 == x) && (l.getD (a + 1) 0 == y)
/-- the next newline from a on, or the end -/
def lineEnd (l : List UInt8) (a : Nat) : Nat :=
  if a < l.length then (if l.getD a 0 = 10 then a else lineEnd l (a + 1)) else a
termination_by l.length - a
theorem lineEnd_ge (l : List UInt8) : ∀ (n a : Nat), l.length - a = n → a ≤ lineEnd l a
  | 0, a, h => by rw [lineEnd, if_neg (by omega)]; exact Nat.le_refl _
  | n + 1, a, h => by
    rw [lineEnd, if_pos (by omega)]
    split
    · exact Nat.le_refl _
    · have := lineEnd_ge l n (a + 1) (by omega); omega
/-- the next end of a comment from a on, or the end -/
def closeAt (l : List UInt8) (a : Nat) : Nat :=
  if a < l.length then (if is2 l a 42 47 then a else closeAt l (a + 1)) else a
termination_by l.length - a
theorem closeAt_ge (l : List UInt8) : ∀ (n a : Nat), l.length - a = n → a ≤ closeAt l a
  | 0, a, h => by rw [closeAt, if_neg (by omega)]; exact Nat.le_refl _
  | n + 1, a, h => by
    rw [closeAt, if_pos (by omega)]
    split
    · exact Nat.le_refl _
    · have := closeAt_ge l n (a + 1) (by omega); omega
theorem is2_lt {l : List UInt8} {a : Nat} {x y : UInt8} (h : is2 l a x y = true) : a + 1 < l.length := by
  unfold is2 at h; simp at h; exact h.1.1
theorem closeAt_two {l : List UInt8} : ∀ (n a : Nat), l.length - a = n → closeAt l a < l.length → closeAt l a + 2 ≤ l.length
  | 0, a, h, h2 => by rw [closeAt, if_neg (by omega)] at h2; omega
  | n + 1, a, h, h2 => by
    rw [closeAt, if_pos (by omega)] at h2 ⊢
    split
    · rename_i h3
      have := is2_lt h3; omega
    · rename_i h3
      rw [if_neg h3] at h2
      exact closeAt_two n (a + 1) (by omega) h2
/-- what is between is passed over; below 0 where a comment has no end -/
def pass (l : List UInt8) (a : Nat) : Int :=
  if a < l.length then
    if spB (l.getD a 0) then pass l (a + 1)
    else if is2 l a 45 45 then pass l (lineEnd l (a + 2))
    else if is2 l a 47 42 then (if closeAt l (a + 2) < l.length then pass l (closeAt l (a + 2) + 2) else -(a : Int) - 1)
    else (a : Int)
  else (a : Int)
termination_by l.length - a
decreasing_by
  · omega
  · have := lineEnd_ge l _ (a + 2) rfl; omega
  · have := closeAt_ge l _ (a + 2) rfl; omega
/-- the end of the letters, digits and underscores from a on -/
def runEnd (l : List UInt8) (a : Nat) : Nat :=
  if a < l.length then (if wd ((l.getD a 0).toNat : Int) then runEnd l (a + 1) else a) else a
termination_by l.length - a
theorem runEnd_ge (l : List UInt8) : ∀ (n a : Nat), l.length - a = n → a ≤ runEnd l a
  | 0, a, h => by rw [runEnd, if_neg (by omega)]; exact Nat.le_refl _
  | n + 1, a, h => by
    rw [runEnd, if_pos (by omega)]
    split
    · have := runEnd_ge l n (a + 1) (by omega); omega
    · exact Nat.le_refl _
theorem runEnd_le (l : List UInt8) : ∀ (n a : Nat), l.length - a = n → a ≤ l.length → runEnd l a ≤ l.length
  | 0, a, h, h2 => by rw [runEnd, if_neg (by omega)]; omega
  | n + 1, a, h, h2 => by
    rw [runEnd, if_pos (by omega)]
    split
    · exact runEnd_le l n (a + 1) (by omega) (by omega)
    · omega
/-- what stands between quotes q from i on, and the place behind -/
def quo (q : UInt8) (l : List UInt8) (i : Nat) : Option (List UInt8 × Nat) :=
  if i < l.length then
    if l.getD i 0 = q then
      (if i + 1 < l.length ∧ l.getD (i + 1) 0 = q then (quo q l (i + 2)).map (fun r => (q :: r.1, r.2)) else some ([], i + 1))
    else (quo q l (i + 1)).map (fun r => (l.getD i 0 :: r.1, r.2))
  else none
termination_by l.length - i
theorem quo_end (q : UInt8) (l : List UInt8) : ∀ (n i : Nat), l.length - i ≤ n → ∀ r, quo q l i = some r → i + r.1.length < r.2 ∧ r.2 ≤ l.length
  | 0, i, h, r, hr => by rw [quo, if_neg (by omega)] at hr; cases hr
  | n + 1, i, h, r, hr => by
    rw [quo] at hr
    split at hr
    · split at hr
      · split at hr
        · obtain ⟨r', h1, rfl⟩ := Option.map_eq_some_iff.1 hr
          have := quo_end q l n (i + 2) (by omega) r' h1
          refine ⟨?_, this.2⟩
          show i + (r'.1.length + 1) < r'.2
          omega
        · cases hr
          exact ⟨by show i + 0 < i + 1; omega, by show i + 1 ≤ _; omega⟩
      · obtain ⟨r', h1, rfl⟩ := Option.map_eq_some_iff.1 hr
        have := quo_end q l n (i + 1) (by omega) r' h1
        refine ⟨?_, this.2⟩
        show i + (r'.1.length + 1) < r'.2
        omega
    · cases hr

def signs : List (List UInt8) := [[40], [41], [44], [46], [42], [43], [45], [47], [37], [61], [60, 62], [60], [60, 61], [62], [62, 61], [124, 124]]
def signB (t : List UInt8) : Bool := signs.contains t
def numB (t : List UInt8) : Bool := decide (digVal t ≤ 9223372036854775807) && (decDigits (digVal t) == t)
theorem numB_iff (t : List UInt8) : numB t = true ↔ ∃ n, Num t n := by
  unfold numB Num
  simp
  constructor
  · rintro ⟨h1, h2⟩; exact ⟨_, h1, h2⟩
  · rintro ⟨n, h1, h2⟩
    have e : n = digVal t := (show Num t n from ⟨h1, h2⟩).val
    subst e; exact ⟨h1, h2⟩

/-- the document's condition on a token's kind and text -/
def tokOk (k : Int) (t : List UInt8) : Bool :=
  if k = 1 then decide (0 < numOf (upL t)) && (upL t == t)
  else if k = 2 then okLen t.length
  else if k = 3 then numB t
  else if k = 4 then decide (t.length ≤ 40)
  else if k = 5 then signB t
  else false

/-- a token: its kind, its text, its place -/
structure Tk where
  k : Int
  t : List UInt8
  a : Nat
/-- begins with a letter or an underscore -/
def let1 (l : List UInt8) (a : Nat) : Bool := ltr ((l.getD a 0).toNat : Int) || ((l.getD a 0).toNat : Int) == 95
/-- what a token at a is read as, and the place behind -/
def raw (l : List UInt8) (a : Nat) : Option (Tk × Nat) :=
  let b := l.getD a 0
  if let1 l a then
    (if 0 < numOf (upL (sl l a (runEnd l a))) then some (⟨1, upL (sl l a (runEnd l a)), a⟩, runEnd l a) else some (⟨2, sl l a (runEnd l a), a⟩, runEnd l a))
  else if dg (b.toNat : Int) then some (⟨3, sl l a (runEnd l a), a⟩, runEnd l a)
  else if b = 34 then (quo 34 l (a + 1)).map (fun r => (⟨2, r.1, a⟩, r.2))
  else if b = 39 then (quo 39 l (a + 1)).map (fun r => (⟨4, r.1, a⟩, r.2))
  else if a + 2 ≤ l.length ∧ signB (sl l a (a + 2)) = true then some (⟨5, sl l a (a + 2), a⟩, a + 2)
  else some (⟨5, sl l a (a + 1), a⟩, a + 1)
def one (l : List UInt8) (a : Nat) : Option (Tk × Nat) :=
  match raw l a with
  | some (t, e) => if tokOk t.k t.t then some (t, e) else none
  | none => none
theorem pass_ge (l : List UInt8) : ∀ (n a : Nat), l.length - a ≤ n → pass l a < 0 ∨ (a : Int) ≤ pass l a
  | 0, a, h => by rw [pass, if_neg (by omega)]; omega
  | n + 1, a, h => by
    rw [pass]
    split
    · split
      · have := pass_ge l n (a + 1) (by omega); omega
      · split
        · have h1 := lineEnd_ge l _ (a + 2) rfl
          have := pass_ge l n (lineEnd l (a + 2)) (by omega); omega
        · split
          · split
            · have h1 := closeAt_ge l _ (a + 2) rfl
              have := pass_ge l n (closeAt l (a + 2) + 2) (by omega); omega
            · omega
          · omega
    · omega
theorem raw_end {l : List UInt8} {a : Nat} {t : Tk} {e : Nat} (ha : a < l.length) (h : raw l a = some (t, e)) : a < e ∧ e ≤ l.length ∧ t.a = a := by
  have hw : wd ((l.getD a 0).toNat : Int) = true → a < runEnd l a := fun hw => by
    rw [runEnd, if_pos ha, if_pos hw]
    have := runEnd_ge l _ (a + 1) rfl; omega
  have hle := runEnd_le l _ a rfl (by omega)
  unfold raw at h
  simp only [] at h
  split at h
  · rename_i h1
    have h2 := hw (by unfold let1 at h1; unfold wd; simp at h1 ⊢; rcases h1 with h1 | h1 <;> simp [h1])
    split at h <;> (cases h; exact ⟨h2, hle, rfl⟩)
  · split at h
    · rename_i h1
      have h2 := hw (by unfold wd; rw [h1]; simp)
      cases h; exact ⟨h2, hle, rfl⟩
    · split at h
      · obtain ⟨r, h1, h2⟩ := Option.map_eq_some_iff.1 h
        cases h2
        have := quo_end _ l _ (a + 1) (Nat.le_refl _) r h1
        exact ⟨by omega, this.2, rfl⟩
      · split at h
        · obtain ⟨r, h1, h2⟩ := Option.map_eq_some_iff.1 h
          cases h2
          have := quo_end _ l _ (a + 1) (Nat.le_refl _) r h1
          exact ⟨by omega, this.2, rfl⟩
        · split at h
          · rename_i h1
            cases h; exact ⟨by omega, h1.1, rfl⟩
          · cases h; exact ⟨by omega, by omega, rfl⟩
theorem one_end {l : List UInt8} {a : Nat} {t : Tk} {e : Nat} (ha : a < l.length) (h : one l a = some (t, e)) : a < e ∧ e ≤ l.length ∧ t.a = a ∧ tokOk t.k t.t = true := by
  unfold one at h
  split at h
  · rename_i t' e' hr
    split at h
    · rename_i h1
      cases h
      have := raw_end ha hr
      exact ⟨this.1, this.2.1, this.2.2, h1⟩
    · cases h
  · cases h

/-- the tokens from a on, or the place of the first fault -/
def lexF (l : List UInt8) (a : Nat) : Except Nat (List Tk) :=
  if pass l a < 0 then .error (-(pass l a) - 1).toNat
  else if (pass l a).toNat < l.length then
    match one l (pass l a).toNat with
    | none => .error (pass l a).toNat
    | some r => if a < r.2 ∧ a < l.length then (lexF l r.2).map (fun L => r.1 :: L) else .error 0
  else .ok []
termination_by l.length - a
def lexR (l : List UInt8) : Except Nat (List Tk) := if 2000 < l.length then .error 2000 else lexF l 0
theorem lexF_bad {l : List UInt8} {a : Nat} (h : pass l a < 0) : lexF l a = .error (-(pass l a) - 1).toNat := by rw [lexF, if_pos h]
theorem lexF_end {l : List UInt8} {a p : Nat} (h : pass l a = (p : Int)) (hp : ¬ p < l.length) : lexF l a = .ok [] := by
  rw [lexF, if_neg (by omega), if_neg (by rw [h]; exact hp)]
theorem lexF_none {l : List UInt8} {a p : Nat} (h : pass l a = (p : Int)) (hp : p < l.length) (ho : one l p = none) : lexF l a = .error p := by
  rw [lexF, if_neg (by omega), if_pos (by rw [h]; exact hp), h]
  show (match one l p with | none => _ | some r => _) = _
  rw [ho]; rfl
theorem lexF_some {l : List UInt8} {a p e : Nat} {t : Tk} (h : pass l a = (p : Int)) (hp : p < l.length) (ho : one l p = some (t, e)) : lexF l a = (lexF l e).map (fun L => t :: L) := by
  have hg := pass_ge l _ a (Nat.le_refl _)
  have he := one_end hp ho
  rw [lexF, if_neg (by omega), if_pos (by rw [h]; exact hp), h]
  show (match one l p with | none => _ | some r => _) = _
  rw [ho]
  exact if_pos ⟨by omega, by omega⟩
end Go.Proofs.Ytgihklohhjhjbaa
