
/- Plain facts: a text between quotes, the quote doubled inside. No program. -/
import Derived.Shelf.Strings.Replace
namespace Go.Proofs.YtelbcfipkanfkaaDoor
open Go.Lib (count index replaceK replaceAll)

/-- every c doubled -/
def dbl (c : UInt8) : List UInt8 → List UInt8
  | [] => []
  | b :: l => if b = c then c :: c :: dbl c l else b :: dbl c l
/-- between quotes -/
def quoted (c : UInt8) (l : List UInt8) : List UInt8 := c :: (dbl c l ++ [c])

theorem dbl_eq (c : UInt8) (l : List UInt8) : dbl c (c :: l) = c :: c :: dbl c l := by rw [dbl, if_pos rfl]
theorem dbl_ne {b c : UInt8} (h : b ≠ c) (l : List UInt8) : dbl c (b :: l) = b :: dbl c l := by rw [dbl, if_neg h]
theorem dbl_snoc_eq (c : UInt8) : ∀ l : List UInt8, dbl c (l ++ [c]) = dbl c l ++ [c, c]
  | [] => by simp [dbl]
  | b :: l => by
    have ih := dbl_snoc_eq c l
    by_cases h : b = c
    · subst h; rw [List.cons_append, dbl_eq, dbl_eq, ih]; rfl
    · rw [List.cons_append, dbl_ne h, dbl_ne h, ih]; rfl
theorem dbl_snoc_ne {x c : UInt8} (hx : x ≠ c) : ∀ l : List UInt8, dbl c (l ++ [x]) = dbl c l ++ [x]
  | [] => by simp [dbl, hx]
  | b :: l => by
    have ih := dbl_snoc_ne hx l
    by_cases h : b = c
    · subst h; rw [List.cons_append, dbl_eq, dbl_eq, ih]; rfl
    · rw [List.cons_append, dbl_ne h, dbl_ne h, ih]; rfl
theorem dbl_len (c : UInt8) : ∀ l : List UInt8, (dbl c l).length ≤ 2 * l.length
  | [] => by simp [dbl]
  | b :: l => by
    have ih := dbl_len c l
    by_cases h : b = c
    · subst h; rw [dbl_eq]; simp; omega
    · rw [dbl_ne h]; simp; omega

theorem qindex_nil (c : UInt8) : index [] [c] = -1 := by rfl
theorem qindex_eq (c : UInt8) (l : List UInt8) : index (c :: l) [c] = 0 := by simp [index]
theorem qindex_ne {b c : UInt8} (h : b ≠ c) (l : List UInt8) : index (b :: l) [c] = if index l [c] == -1 then -1 else index l [c] + 1 := by
  have : ¬ c = b := fun e => h e.symm
  simp [index, this]

theorem replaceK_dbl (c : UInt8) : ∀ l : List UInt8, replaceK [c] [c, c] (count l [c]) l = dbl c l
  | [] => by rw [Lib.count_miss (qindex_nil c)]; rfl
  | b :: l => by
    have ih := replaceK_dbl c l
    by_cases h : b = c
    · subst h
      rw [Lib.count_cons_eq, Nat.add_comm, Lib.replaceK_hit [b] [b, b] _ (b :: l) 0 (by rw [qindex_eq]; rfl), dbl_eq, ← ih]; simp
    · rw [Lib.count_cons_ne b c l h, dbl_ne h, ← ih]
      have hi := qindex_ne h l
      cases hk : count l [c] with
      | zero => rfl
      | succ k =>
        by_cases hm : index l [c] = -1
        · rw [Lib.count_miss hm] at hk; cases hk
        · have hge := Lib.index_ge l [c]
          have e1 : ¬ (index l [c] == -1) = true := by simpa using hm
          rw [if_neg e1] at hi
          rw [Lib.replaceK_hit [c] [c, c] k (b :: l) ((index l [c]).toNat + 1) (by omega), Lib.replaceK_hit [c] [c, c] k l (index l [c]).toNat (by omega)]
          simp
theorem replaceAll_dbl (c : UInt8) (l : List UInt8) : replaceAll l [c] [c, c] = dbl c l := by
  unfold replaceAll Lib.replace Lib.replaceNum
  rw [if_neg (by simp), if_pos (Or.inl (by omega))]
  exact replaceK_dbl c l
end Go.Proofs.YtelbcfipkanfkaaDoor
