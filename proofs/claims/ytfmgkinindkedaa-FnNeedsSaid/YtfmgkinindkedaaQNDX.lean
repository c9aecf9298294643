/- Joined texts: LevMath. -/
import Derived.Test.YtfmgkinindkedaaQNDW
import Derived.Test.YtfmgkinindkedaaQNDG
import Derived.Test.YtfmgkinindkedaaQHFoldS
/- Levels of expressions, what they need of their Kids, which Kids are wrapped, and how many in a tree. No program. -/
namespace Go.Proofs.Ytfmgkinindkedaa
open Go.RowKit

theorem num_is {d : Dat} {k : IntKind} {n : Int} (h : d = .v (.int k n)) : d.num = n := by rw [h]; rfl
/-- the level of a binary operator -/
def binLev (op : Int) : Int :=
  match op with
  | 1 => 1
  | 2 => 2
  | 3 => 4
  | 4 => 4
  | 5 => 4
  | 6 => 4
  | 7 => 4
  | 8 => 4
  | 9 => 5
  | 10 => 6
  | 11 => 6
  | 12 => 7
  | 13 => 7
  | 14 => 7
  | _ => 0
def unLev (op : Int) : Int :=
  match op with
  | 15 => 3
  | 16 => 8
  | _ => 0
/-- the level of an expression of that kind with that operator -/
def levV (k op : Int) : Int :=
  match k with
  | 1 => 9
  | 2 => 9
  | 3 => unLev op
  | 4 => binLev op
  | 5 => 4
  | 6 => 4
  | 7 => 4
  | 8 => 4
  | 9 => 9
  | _ => 0
theorem binLev_no {op : Int} (h : ¬ (1 ≤ op ∧ op ≤ 14)) : binLev op = 0 := by
  unfold binLev
  split <;> first | rfl | (exfalso; apply h; decide)
theorem unLev_no {op : Int} (h1 : op ≠ 15) (h2 : op ≠ 16) : unLev op = 0 := by
  unfold unLev
  split <;> first | rfl | contradiction
theorem levV_no {k op : Int} (h : ¬ (1 ≤ k ∧ k ≤ 9)) : levV k op = 0 := by
  unfold levV
  split <;> first | rfl | (exfalso; apply h; decide)
theorem bin_cases {op : Int} (h0 : 1 ≤ op) (h1 : op ≤ 14) : op = 1 ∨ op = 2 ∨ op = 3 ∨ op = 4 ∨ op = 5 ∨ op = 6 ∨ op = 7 ∨ op = 8 ∨ op = 9 ∨ op = 10 ∨ op = 11 ∨ op = 12 ∨ op = 13 ∨ op = 14 := by omega
theorem kind_cases {k : Int} (h0 : 1 ≤ k) (h1 : k ≤ 9) : k = 1 ∨ k = 2 ∨ k = 3 ∨ k = 4 ∨ k = 5 ∨ k = 6 ∨ k = 7 ∨ k = 8 ∨ k = 9 := by omega
theorem binLev_cases (op : Int) : binLev op = 0 ∨ binLev op = 1 ∨ binLev op = 2 ∨ binLev op = 4 ∨ binLev op = 5 ∨ binLev op = 6 ∨ binLev op = 7 := by
  by_cases h : 1 ≤ op ∧ op ≤ 14
  · rcases bin_cases h.1 h.2 with rfl | rfl | rfl | rfl | rfl | rfl | rfl | rfl | rfl | rfl | rfl | rfl | rfl | rfl <;> decide
  · exact .inl (binLev_no h)
theorem unLev_cases (op : Int) : unLev op = 0 ∨ unLev op = 3 ∨ unLev op = 8 := by
  by_cases h1 : op = 15
  · subst h1; decide
  · by_cases h2 : op = 16
    · subst h2; decide
    · exact .inl (unLev_no h1 h2)
theorem lev_cases (k op : Int) : levV k op = 0 ∨ levV k op = 9 ∨ (k = 3 ∧ (levV k op = 3 ∨ levV k op = 8)) ∨ (k = 4 ∧ (levV k op = 1 ∨ levV k op = 2 ∨ levV k op = 4 ∨ levV k op = 5 ∨ levV k op = 6 ∨ levV k op = 7)) ∨ ((k = 5 ∨ k = 6 ∨ k = 7 ∨ k = 8) ∧ levV k op = 4) := by
  by_cases h : 1 ≤ k ∧ k ≤ 9
  · rcases kind_cases h.1 h.2 with rfl | rfl | rfl | rfl | rfl | rfl | rfl | rfl | rfl
    · exact .inr (.inl rfl)
    · exact .inr (.inl rfl)
    · have := unLev_cases op
      show unLev op = 0 ∨ unLev op = 9 ∨ ((3 : Int) = 3 ∧ (unLev op = 3 ∨ unLev op = 8)) ∨ _
      rcases this with h | h | h
      · exact .inl h
      · exact .inr (.inr (.inl ⟨rfl, .inl h⟩))
      · exact .inr (.inr (.inl ⟨rfl, .inr h⟩))
    · have := binLev_cases op
      show binLev op = 0 ∨ binLev op = 9 ∨ ((4 : Int) = 3 ∧ _) ∨ ((4 : Int) = 4 ∧ (binLev op = 1 ∨ binLev op = 2 ∨ binLev op = 4 ∨ binLev op = 5 ∨ binLev op = 6 ∨ binLev op = 7)) ∨ _
      rcases this with h | h
      · exact .inl h
      · exact .inr (.inr (.inr (.inl ⟨rfl, h⟩)))
    · exact .inr (.inr (.inr (.inr ⟨.inl rfl, rfl⟩)))
    · exact .inr (.inr (.inr (.inr ⟨.inr (.inl rfl), rfl⟩)))
    · exact .inr (.inr (.inr (.inr ⟨.inr (.inr (.inl rfl)), rfl⟩)))
    · exact .inr (.inr (.inr (.inr ⟨.inr (.inr (.inr rfl)), rfl⟩)))
    · exact .inr (.inl rfl)
  · exact .inl (levV_no h)
theorem lev_le (k op : Int) : 0 ≤ levV k op ∧ levV k op ≤ 9 := by
  rcases lev_cases k op with h | h | ⟨_, h | h⟩ | ⟨_, h | h | h | h | h | h⟩ | ⟨_, h⟩ <;> rw [h] <;> decide
/-- what an expression of that kind and level needs of one of its Kids, k -/
def needK (kind lv k : Int) : Int :=
  if lv = 0 ∨ lv = 9 then 0
  else if kind = 3 then lv
  else if kind = 4 then (if lv = 4 then 5 else if k = 0 then lv else lv + 1)
  else if kind = 7 ∧ 0 < k then 1
  else 5
def isKid (n : Nat) (k : Int) : Bool := decide (0 ≤ k ∧ k ≤ (n : Int) - 1)
def needV (kind lv : Int) (n : Nat) (k : Int) : Int := if isKid n k then needK kind lv k else 0
def lev (c : Nd) : Int := levV (c 0).num (c 1).num
def needs (c : Nd) (k : Int) : Int := needV (c 0).num (lev c) (c 8).len k
def wrapB (c : Nd) (k : Int) : Bool := isKid (c 8).len k && decide (lev ((c 8).el k.toNat) < needs c k)
/-- the wrapped ones among the first j Kids -/
def wupto (c : Nd) : Nat → Nat
  | 0 => 0
  | j + 1 => wupto c j + (if wrapB c (j : Int) then 1 else 0)
def wcnt (c : Nd) : Nat := wupto c (c 8).len
theorem wupto_le (c : Nd) : ∀ j, wupto c j ≤ j
  | 0 => Nat.le_refl _
  | j + 1 => by
    have := wupto_le c j
    show wupto c j + (if wrapB c (j : Int) then 1 else 0) ≤ _
    split <;> omega
def wrapA : Alg Nat := ⟨(· + ·), 0, fun c n => wcnt c + n, fun _ n => n⟩
theorem wrapA_good : wrapA.Good := ⟨fun a b c => Nat.add_assoc a b c, fun a => Nat.zero_add a, fun _ => rfl⟩
theorem wr_of_le {g h : Nat → Nat} : ∀ (j : Nat), (∀ i, i < j → g i ≤ h i) → wrapA.of ((List.range j).map g) ≤ sizA.of ((List.range j).map h)
  | 0, _ => Nat.le_refl _
  | j + 1, H => by
    rw [of_range, of_range]
    have h1 := wr_of_le j fun i hi => H i (by omega)
    have h2 := H j (by omega)
    show _ + _ ≤ _ + _
    omega
theorem wr_of_le1 {g h : Nat → Nat} : ∀ (j : Nat), (∀ i, i < j → g i + 1 ≤ h i) → wrapA.of ((List.range j).map g) + j ≤ sizA.of ((List.range j).map h)
  | 0, _ => Nat.le_refl _
  | j + 1, H => by
    rw [of_range, of_range]
    have h1 := wr_of_le1 j fun i hi => H i (by omega)
    have h2 := H j (by omega)
    show (_ + _) + (j + 1) ≤ _ + _
    omega
/-- the Kids of the row that a node counts, where the row is a node's own -/
def kidsE (d : Dat) : Ty → Nat
  | .exprs => d.len
  | _ => 0
theorem wr_le : ∀ (d : Dat) (ty : Ty), fold wrapA d ty + kidsE d ty ≤ fold sizA d ty
  | .v _, ty => by cases ty <;> exact Nat.le_refl _
  | .sl n k f, ty => by
    have IH : ∀ i j ty, fold wrapA (f i j) ty + kidsE (f i j) ty ≤ fold sizA (f i j) ty := fun i j ty => wr_le (f i j) ty
    have HE : ∀ (c : Nd) (a b : Dat), a = c 8 → fold wrapA a .exprs + a.len ≤ fold sizA a .exprs → fold wrapA b .queries ≤ fold sizA b .queries → wrapA.node c (wrapA.up (fold wrapA a .exprs) (fold wrapA b .queries)) + 1 ≤ sizA.node c (sizA.up (fold sizA a .exprs) (fold sizA b .queries)) := fun c a b e h1 h2 => by
      have h3 : wcnt c ≤ a.len := e ▸ wupto_le c _
      show (wcnt c + (_ + _)) + 1 ≤ (_ + _) + 1
      omega
    cases ty
    case int => exact Nat.le_refl _
    case bool => exact Nat.le_refl _
    case str => exact Nat.le_refl _
    case names => exact Nat.le_refl _
    case rows => rw [fold, fold]; exact wr_of_le n fun i _ => Nat.le_trans (Nat.le_add_right _ _) (IH i 0 .exprs)
    case exprs => rw [fold, fold]; exact wr_of_le1 n fun i _ => HE (f i) _ _ rfl (IH i 8 .exprs) (IH i 9 .queries)
    case keys => rw [fold, fold]; exact wr_of_le n fun i _ => Nat.le_trans (Nat.le_add_right _ _) (HE (f i) _ _ rfl (IH i 8 .exprs) (IH i 9 .queries))
    case items =>
      rw [fold, fold]
      refine wr_of_le n fun i _ => ?_
      cases (f i 0).tru
      · exact Nat.le_trans (Nat.le_add_right _ _) (HE (cut 2 (f i)) _ _ rfl (IH i 10 .exprs) (IH i 11 .queries))
      · exact Nat.le_refl _
    case sources => rw [fold, fold]; exact wr_of_le n fun i _ => Nat.le_trans (Nat.le_add_right _ _) (IH i 2 .exprs)
    case queries =>
      rw [fold, fold]
      refine wr_of_le n fun i _ => ?_
      have h1 : fold wrapA (f i 1) .items ≤ _ := IH i 1 .items
      have h2 : fold wrapA (f i 2) .sources ≤ _ := IH i 2 .sources
      have h3 := Nat.le_trans (Nat.le_add_right _ _) (IH i 3 .exprs)
      have h4 : fold wrapA (f i 4) .keys ≤ _ := IH i 4 .keys
      show _ + _ + _ + _ ≤ _ + _ + _ + _
      omega
theorem wrE_le (c : Nat → Dat) : foldE wrapA c + 1 ≤ foldE sizA c := by
  have h1 : fold wrapA (c 8) .exprs + (c 8).len ≤ _ := wr_le (c 8) .exprs
  have h2 : fold wrapA (c 9) .queries ≤ _ := wr_le (c 9) .queries
  have h3 : wcnt c ≤ (c 8).len := wupto_le c _
  show (wcnt c + (_ + _)) + 1 ≤ (_ + _) + 1
  omega
theorem wrQ_le (q : Nat → Dat) : foldQ wrapA q ≤ foldQ sizA q := by
  have h1 : fold wrapA (q 1) .items ≤ _ := wr_le (q 1) .items
  have h2 : fold wrapA (q 2) .sources ≤ _ := wr_le (q 2) .sources
  have h3 := Nat.le_trans (Nat.le_add_right _ _) (wr_le (q 3) .exprs)
  have h4 : fold wrapA (q 4) .keys ≤ _ := wr_le (q 4) .keys
  show _ + _ + _ + _ ≤ _ + _ + _ + _
  omega
/-- the nodes of a tree, each with its own count -/
def wsums (l : List (Nat × Nd)) : Nat := l.foldr (fun p m => wcnt p.2 + m) 0
theorem wsums_append (l r : List (Nat × Nd)) : wsums (l ++ r) = wsums l + wsums r := by
  induction l with
  | nil => exact (Nat.zero_add _).symm
  | cons a l ih => show wcnt a.2 + wsums (l ++ r) = (wcnt a.2 + wsums l) + wsums r; rw [ih]; omega
theorem wsums_shift (d : Nat) (l : List (Nat × Nd)) : wsums (l.map (shift d)) = wsums l := by
  induction l with
  | nil => rfl
  | cons a l ih => show wcnt a.2 + wsums (l.map (shift d)) = wcnt a.2 + wsums l; rw [ih]
theorem wsums_pre (d : Nat) (c : Nd) : wsums (pre d c) = foldE wrapA c := by
  unfold pre
  rw [wsums_shift]
  exact fold_homE (G := preA) (H := wrapA) wsums (fun a b => wsums_append a b) rfl (fun c l => by show wcnt c + wsums (l.map _) = wcnt c + wsums l; rw [wsums_shift]) (fun _ _ => rfl) c
theorem wsums_flat (d : Nat) (l : List Nd) : wsums (l.flatMap (pre d)) = wrapA.of (l.map (foldE wrapA)) := by
  induction l with
  | nil => rfl
  | cons c l ih => rw [List.flatMap_cons, wsums_append, ih, wsums_pre, List.map_cons, wrapA_good.of_cons]; rfl
end Go.Proofs.Ytfmgkinindkedaa
