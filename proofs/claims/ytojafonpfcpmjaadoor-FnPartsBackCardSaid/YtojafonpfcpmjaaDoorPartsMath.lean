/- Plain facts on the parts of a list of bytes between the separators. -/
import Derived.Lib.Split
import Derived.Lib.SplitLaws
import Derived.WideShapes
namespace Go.Proofs.YtojafonpfcpmjaaDoor
open Go.Lib (splitK splitB countB count index)

/-- the parts of a list between the separators c -/
def pieces (c : UInt8) : List UInt8 → List (List UInt8)
  | [] => [[]]
  | b :: l => if b = c then [] :: pieces c l else match pieces c l with
    | [] => [[b]]
    | p :: r => (b :: p) :: r
/-- a head is glued to the first part -/
def glue (cur : List UInt8) : List (List UInt8) → List (List UInt8)
  | [] => [cur]
  | p :: r => (cur ++ p) :: r

theorem pieces_sep (c : UInt8) (l : List UInt8) : pieces c (c :: l) = [] :: pieces c l := by rw [pieces, if_pos rfl]
theorem pieces_other {b c : UInt8} (h : b ≠ c) (l : List UInt8) : pieces c (b :: l) = glue [b] (pieces c l) := by
  rw [pieces, if_neg h]; cases pieces c l <;> rfl
theorem pieces_ne (c : UInt8) (l : List UInt8) : pieces c l ≠ [] := by
  cases l with
  | nil => simp [pieces]
  | cons b l => by_cases h : b = c
                · subst h; rw [pieces_sep]; simp
                · rw [pieces_other h]; cases pieces c l <;> simp [glue]
theorem glue_nil {P : List (List UInt8)} (h : P ≠ []) : glue [] P = P := by cases P <;> simp_all [glue]
theorem glue_glue (a b : List UInt8) (P : List (List UInt8)) (h : P ≠ []) : glue a (glue b P) = glue (a ++ b) P := by cases P <;> simp_all [glue]

theorem index_nil (c : UInt8) : index [] [c] = -1 := by rfl
theorem index_eq (c : UInt8) (l : List UInt8) : index (c :: l) [c] = 0 := by simp [index]
theorem index_ne {b c : UInt8} (h : b ≠ c) (l : List UInt8) : index (b :: l) [c] = if index l [c] == -1 then -1 else index l [c] + 1 := by
  have : ¬ c = b := fun e => h e.symm
  simp [index, this]

theorem splitK_pieces (c : UInt8) : ∀ l : List UInt8, splitK [c] 0 (count l [c]) l = pieces c l
  | [] => by rw [Lib.count_miss (index_nil c)]; rfl
  | b :: l => by
    have ih := splitK_pieces c l
    by_cases h : b = c
    · subst h
      rw [Lib.count_cons_eq, Nat.add_comm, splitK, index_eq, pieces_sep, ← ih]; simp
    · rw [Lib.count_cons_ne b c l h, pieces_other h, ← ih]
      have hi := index_ne h l
      cases hk : count l [c] with
      | zero => rfl
      | succ k =>
        rw [splitK, splitK, hi]
        by_cases hm : index l [c] = -1
        · rw [Lib.count_miss hm] at hk; cases hk
        · have hge := Lib.index_ge l [c]
          have e1 : ¬ (index l [c] == -1) = true := by simpa using hm
          rw [if_neg e1, if_neg e1]
          have e2 : ¬ (index l [c] + 1 == -1) = true := by simp; omega
          rw [if_neg e2]
          have e3 : (index l [c] + 1).toNat = (index l [c]).toNat + 1 := by omega
          rw [e3]
          simp [glue]

/-- the parts as strings -/
def strs (P : List (List UInt8)) : List ByteArray := P.map fun l => ⟨l.toArray⟩
theorem map_data {L : List ByteArray} {P : List (List UInt8)} (h : L.map (·.data.toList) = P) : L = strs P := by
  subst h
  rw [strs, List.map_map]
  conv => lhs; rw [← List.map_id L]
  apply List.map_congr_left
  intro b _
  rfl
theorem splitB_pieces (c : UInt8) (s : ByteArray) : splitB ⟨#[c]⟩ 0 (countB s ⟨#[c]⟩) s = strs (pieces c s.data.toList) := by
  apply map_data
  rw [Lib.splitB_data]
  exact splitK_pieces c s.data.toList
theorem pieces_len (c : UInt8) (s : ByteArray) : (pieces c s.data.toList).length = countB s ⟨#[c]⟩ + 1 := by
  have h := Lib.splitB_all ⟨#[c]⟩ (by show 1 ≤ 1; omega) 0 (countB s ⟨#[c]⟩) s rfl
  rw [splitB_pieces] at h
  simpa [strs] using h
theorem pieces_le (c : UInt8) : ∀ l : List UInt8, (pieces c l).length ≤ l.length + 1
  | [] => by simp [pieces]
  | b :: l => by
    have := pieces_le c l
    by_cases h : b = c
    · subst h; rw [pieces_sep]; simp; omega
    · rw [pieces_other h]
      cases hp : pieces c l with
      | nil => simp [glue]
      | cons p r => rw [hp] at this; simp [glue] at *; omega

/-- the parts put together again -/
def joinP (c : UInt8) : List (List UInt8) → List UInt8
  | [] => []
  | [p] => p
  | p :: q :: r => p ++ c :: joinP c (q :: r)
theorem joinP_cons (c : UInt8) (p : List UInt8) {r : List (List UInt8)} (h : r ≠ []) : joinP c (p :: r) = p ++ c :: joinP c r := by
  cases r with
  | nil => exact absurd rfl h
  | cons q r => rfl
theorem joinP_snoc (c : UInt8) (x : List UInt8) : ∀ {L : List (List UInt8)}, L ≠ [] → joinP c (L ++ [x]) = joinP c L ++ c :: x
  | [], h => absurd rfl h
  | [p], _ => rfl
  | p :: q :: r, _ => by
    rw [List.cons_append, joinP_cons c p (by simp), joinP_snoc c x (by simp), joinP_cons c p (by simp)]; simp
theorem joinP_glue (c : UInt8) (a : List UInt8) {P : List (List UInt8)} (h : P ≠ []) : joinP c (glue a P) = a ++ joinP c P := by
  cases P with
  | nil => exact absurd rfl h
  | cons p r =>
    cases r with
    | nil => rfl
    | cons q r => simp [glue, joinP]
theorem joinP_pieces (c : UInt8) : ∀ l : List UInt8, joinP c (pieces c l) = l
  | [] => rfl
  | b :: l => by
    by_cases h : b = c
    · subst h; rw [pieces_sep, joinP_cons _ _ (pieces_ne b l), joinP_pieces b l]; rfl
    · rw [pieces_other h, joinP_glue c [b] (pieces_ne c l), joinP_pieces c l]; rfl
theorem pieces_none (c : UInt8) : ∀ (l : List UInt8), ∀ p ∈ pieces c l, c ∉ p
  | [], p, hp => by simp [pieces] at hp; simp [hp]
  | b :: l, p, hp => by
    have ih := pieces_none c l
    by_cases h : b = c
    · subst h
      rw [pieces_sep] at hp
      rcases List.mem_cons.1 hp with rfl | hp
      · simp
      · exact ih p hp
    · rw [pieces_other h] at hp
      have hne := pieces_ne c l
      cases hpl : pieces c l with
      | nil => exact absurd hpl hne
      | cons q r =>
        rw [hpl] at hp ih
        rcases List.mem_cons.1 hp with rfl | hp
        · have := ih q (by simp)
          simp; exact ⟨fun e => h e.symm, this⟩
        · exact ih p (by simp [hp])

/-- one step of the loop that cuts: at a separator, at another byte, at the end -/
theorem cut_sep {c : UInt8} {l : List UInt8} {done : List (List UInt8)} {fr k : Nat} (hk : k < l.length) (hb : l[k] = c) (h : pieces c l = done ++ glue ((l.drop fr).take (k - fr)) (pieces c (l.drop k))) :
    pieces c l = (done ++ [(l.drop fr).take (k - fr)]) ++ glue ((l.drop (k + 1)).take (k + 1 - (k + 1))) (pieces c (l.drop (k + 1))) := by
  rw [List.drop_eq_getElem_cons hk, hb, pieces_sep] at h
  rw [h, Nat.sub_self, List.take_zero, glue_nil (pieces_ne _ _)]
  simp [glue]
theorem cut_on {c : UInt8} {l : List UInt8} {done : List (List UInt8)} {fr k : Nat} (hk : k < l.length) (hf : fr ≤ k) (hb : l[k] ≠ c) (h : pieces c l = done ++ glue ((l.drop fr).take (k - fr)) (pieces c (l.drop k))) :
    pieces c l = done ++ glue ((l.drop fr).take (k + 1 - fr)) (pieces c (l.drop (k + 1))) := by
  rw [List.drop_eq_getElem_cons hk, pieces_other hb, glue_glue _ _ _ (pieces_ne _ _)] at h
  have e : (l.drop fr).take (k + 1 - fr) = (l.drop fr).take (k - fr) ++ [l[k]] := by
    rw [show k + 1 - fr = (k - fr) + 1 by omega, List.take_succ_eq_append_getElem (by simp; omega), List.getElem_drop]
    congr 3
    omega
  rw [e]; exact h
theorem cut_end {c : UInt8} {l : List UInt8} {done : List (List UInt8)} {fr : Nat} (h : pieces c l = done ++ glue ((l.drop fr).take (l.length - fr)) (pieces c (l.drop l.length))) :
    pieces c l = done ++ [(l.drop fr).take (l.length - fr)] := by
  rw [List.drop_length] at h
  simpa [pieces, glue] using h
end Go.Proofs.YtojafonpfcpmjaaDoor
