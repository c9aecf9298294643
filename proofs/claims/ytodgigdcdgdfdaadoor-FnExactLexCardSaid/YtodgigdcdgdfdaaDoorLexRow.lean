/- What a lexer hands back, as a slice that is read cell by cell. -/
import Derived.Test.YtodgigdcdgdfdaaDoorLexMath2
import Derived.Test.YtodgigdcdgdfdaaDoorTokSlDef
namespace Go.Proofs.YtodgigdcdgdfdaaDoor
open Go.RowKit

/-- how many tokens, the number, and the tokens that come back -/
def rn : Except Nat (List Tk) → Nat
  | .ok L => L.length
  | .error _ => 0
def rx : Except Nat (List Tk) → Int
  | .ok _ => -1
  | .error n => (n : Int)
def tokF (L : List Tk) (j : Nat) : Int × ByteArray × Int := match L[j]? with
  | some t => (t.k, ⟨t.t.toArray⟩, (t.a : Int))
  | none => (0, ⟨#[]⟩, 0)
def rf : Except Nat (List Tk) → Nat → Int × ByteArray × Int
  | .ok L => tokF L
  | .error _ => fun _ => (0, ⟨#[]⟩, 0)
theorem toks_at : ∀ (L : List Tk) (j : Nat), j < L.length → (toksCells L)[j * 3]? = some (.int .i64 (tokF L j).1) ∧ (toksCells L)[j * 3 + 1]? = some (.string (tokF L j).2.1) ∧ (toksCells L)[j * 3 + 2]? = some (.int .i64 (tokF L j).2.2)
  | [], j, h => by simp at h
  | t :: L, 0, h => by simp [toksCells, tkCells, tokF]
  | t :: L, j + 1, h => by
    have ih := toks_at L j (by simpa using h)
    have e : toksCells (t :: L) = tkCells t ++ toksCells L := by simp [toksCells]
    have hl : (tkCells t).length = 3 := rfl
    have hf : tokF (t :: L) (j + 1) = tokF L j := by simp [tokF]
    rw [e, hf, List.getElem?_append_right (by omega), List.getElem?_append_right (by omega), List.getElem?_append_right (by omega)]
    have e0 : (j + 1) * 3 - (tkCells t).length = j * 3 := by omega
    have e1 : (j + 1) * 3 + 1 - (tkCells t).length = j * 3 + 1 := by omega
    have e2 : (j + 1) * 3 + 2 - (tkCells t).length = j * 3 + 2 := by omega
    rw [e0, e1, e2]
    exact ih
theorem toks_len (L : List Tk) : (toksCells L).length = L.length * 3 := by
  induction L with
  | nil => rfl
  | cons t L ih =>
    have e : toksCells (t :: L) = tkCells t ++ toksCells L := by simp [toksCells]
    rw [e, List.length_append, ih]
    show 3 + L.length * 3 = (L.length + 1) * 3
    omega
theorem OwnT.row {w : World} {B : Nat} {v : Value} {L : List Tk} (h : OwnT w B v L) : ∃ (a : Option Addr) (cap : Nat), v = .slice a L.length cap ∧ TokSl w B a L.length (tokF L) ∧ L.length ≤ cap := by
  have h0 := h
  rcases h.2 with ⟨e, hn⟩ | ⟨g, cap, cs, e, rest⟩
  · subst e
    exact ⟨none, 0, by rw [hn], fun j hj => by omega, by omega⟩
  · subst e
    refine ⟨some ⟨g, 0, none⟩, cap, rfl, fun j hj => ?_, rest.2.2.1⟩
    have hl := World.ownsRow.lt h0 g rfl
    have hc := fun i (hi : i < L.length * 3) => World.ownsRow.cellAt h0 i hi
    obtain ⟨c0, c1, c2⟩ := toks_at L j hj
    exact ⟨g, rfl, hl.1, hl.2, by rw [hc _ (by omega)]; exact c0, by rw [hc _ (by omega)]; exact c1, by rw [hc _ (by omega)]; exact c2, World.ownsRow.frozenAt h0 _, World.ownsRow.frozenAt h0 _, World.ownsRow.frozenAt h0 _⟩
theorem LexE.row_cap {r : Except Nat (List Tk)} {w w' : World} {e : Ending} (h : LexE r w e w') :
    ∃ (a : Option Addr) (cap : Nat), e = .returned (.tuple #[.slice a (rn r) cap, .int .i64 (rx r)]) ∧ TokSl w' w.heap.size a (rn r) (rf r) ∧ Below w.heap.size w w' ∧ rn r ≤ cap := by
  obtain ⟨h1, hb⟩ := h
  cases r with
  | ok L =>
    obtain ⟨v, he, ho⟩ := h1
    obtain ⟨a, cap, rfl, hr, hc⟩ := ho.row
    exact ⟨a, cap, he, hr, hb, hc⟩
  | error n =>
    obtain ⟨a, cap, he⟩ := h1
    exact ⟨a, cap, he, fun j hj => absurd hj (Nat.not_lt_zero _), hb, Nat.zero_le _⟩
theorem LexE.row {r : Except Nat (List Tk)} {w w' : World} {e : Ending} (h : LexE r w e w') :
    ∃ (a : Option Addr) (cap : Nat), e = .returned (.tuple #[.slice a (rn r) cap, .int .i64 (rx r)]) ∧ TokSl w' w.heap.size a (rn r) (rf r) ∧ Below w.heap.size w w' := by
  obtain ⟨a, cap, h1, h2, h3, _⟩ := h.row_cap
  exact ⟨a, cap, h1, h2, h3⟩
theorem lexF_len (l : List UInt8) : ∀ (n a : Nat) (L : List Tk), l.length - a ≤ n → a ≤ l.length → lexF l a = .ok L → L.length + a ≤ l.length
  | n, a, L, hn, ha, h => by
    have hg := pass_ge l _ a (Nat.le_refl _)
    by_cases h0 : pass l a < 0
    · rw [lexF_bad h0] at h; cases h
    · obtain ⟨p, hp⟩ := Int.eq_ofNat_of_zero_le (show 0 ≤ pass l a by omega)
      by_cases hpl : p < l.length
      · rcases ho : one l p with _ | ⟨t, e⟩
        · rw [lexF_none hp hpl ho] at h; cases h
        · rw [lexF_some hp hpl ho] at h
          obtain ⟨he1, he2, _, _⟩ := one_end hpl ho
          rcases hr : lexF l e with m | M
          · rw [hr] at h; cases h
          · rw [hr] at h
            have hL : L = t :: M := by cases h; rfl
            subst hL
            match n with
            | 0 => omega
            | n + 1 =>
              have := lexF_len l n e M (by omega) he2 hr
              rw [List.length_cons]
              omega
      · rw [lexF_end hp hpl] at h
        cases h
        simpa using ha
theorem rn_le (l : List UInt8) : rn (lexR l) ≤ 2000 := by
  unfold lexR
  split
  · exact Nat.zero_le _
  · rcases h : lexF l 0 with n | L
    · exact Nat.zero_le _
    · have := lexF_len l _ 0 L (Nat.le_refl _) (by omega) h
      show L.length ≤ 2000
      omega
end Go.Proofs.YtodgigdcdgdfdaaDoor
