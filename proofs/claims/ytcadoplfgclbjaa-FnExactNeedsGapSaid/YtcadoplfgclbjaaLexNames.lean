
/- The texts of names and of strings are read as they were. No program. -/
import Derived.Test.YtcadoplfgclbjaaLexMath2
import Derived.Test.YtcadoplfgclbjaaTextDef
namespace Go.Proofs.Ytcadoplfgclbjaa
open Go.RowKit

theorem getD_app {pre r : List UInt8} {x : UInt8} : (pre ++ x :: r).getD pre.length 0 = x := by
  simp [List.getD_eq_getElem?_getD]
theorem getD_app1 {pre r : List UInt8} {x y : UInt8} : (pre ++ x :: y :: r).getD (pre.length + 1) 0 = y := by
  simp [List.getD_eq_getElem?_getD]
theorem quo_quoted (q : UInt8) : ∀ (s pre : List UInt8), quo q (pre ++ (dbl q s ++ [q])) pre.length = some (s, (pre ++ (dbl q s ++ [q])).length)
  | [], pre => by
    have h0 : (pre ++ ([] ++ [q]) : List UInt8).length = pre.length + 1 := by simp
    have hg : (pre ++ ([] ++ [q]) : List UInt8).getD pre.length 0 = q := getD_app
    show quo q (pre ++ ([] ++ [q])) pre.length = some ([], (pre ++ ([] ++ [q])).length)
    rw [quo_stop (by omega) hg (fun h => by omega), h0]
  | b :: t, pre => by
    by_cases hb : b = q
    · subst hb
      have e : pre ++ (dbl b (b :: t) ++ [b]) = pre ++ b :: b :: (dbl b t ++ [b]) := by rw [dbl_eq]; rfl
      have e2 : pre ++ b :: b :: (dbl b t ++ [b]) = (pre ++ [b, b]) ++ (dbl b t ++ [b]) := by simp
      have ih := quo_quoted b t (pre ++ [b, b])
      have hl : (pre ++ [b, b]).length = pre.length + 2 := by simp
      rw [e, quo_two (by simp) getD_app (by simp) getD_app1, e2, ← hl, ih]
      rfl
    · have e : pre ++ (dbl q (b :: t) ++ [q]) = pre ++ b :: (dbl q t ++ [q]) := by rw [dbl_ne hb]; rfl
      have e2 : pre ++ b :: (dbl q t ++ [q]) = (pre ++ [b]) ++ (dbl q t ++ [q]) := by simp
      have ih := quo_quoted q t (pre ++ [b])
      have hl : (pre ++ [b]).length = pre.length + 1 := by simp
      have hg : (pre ++ b :: (dbl q t ++ [q])).getD pre.length 0 = b := getD_app
      rw [e, quo_other (by simp) (by rw [hg]; exact hb), hg, e2, ← hl, ih]
      rfl
theorem quo_whole (q : UInt8) (s : List UInt8) : quo q (quoted q s) 1 = some (s, (quoted q s).length) := quo_quoted q s [q]
theorem quoted_get (q : UInt8) (s : List UInt8) : (quoted q s).getD 0 0 = q := rfl
theorem quoted_pos (q : UInt8) (s : List UInt8) : 0 < (quoted q s).length := by simp [quoted]

theorem is2_no {l : List UInt8} {x y : UInt8} (h : ¬ l.getD 0 0 = x) : is2 l 0 x y = false := by
  unfold is2
  have : (l.getD 0 0 == x) = false := by simpa using h
  rw [this]; simp
/-- one token that is the whole text -/
theorem lex_whole {l : List UInt8} {t : Tk} (hp : 0 < l.length) (h2000 : l.length ≤ 2000) (hs : spB (l.getD 0 0) = false) (h45 : ¬ l.getD 0 0 = 45) (h47 : ¬ l.getD 0 0 = 47) (ho : one l 0 = some (t, l.length)) : lexR l = .ok [t] := by
  have hps : pass l 0 = ((0 : Nat) : Int) := pass_stop hp hs (is2_no h45) (is2_no h47)
  have hend : lexF l l.length = .ok [] := lexF_end (p := l.length) (pass_out (by omega)) (by omega)
  unfold lexR
  rw [if_neg (by omega), lexF_some hps hp ho, hend]
  rfl
theorem lex_none_at {l : List UInt8} (hp : 0 < l.length) (h2000 : l.length ≤ 2000) (hs : spB (l.getD 0 0) = false) (h45 : ¬ l.getD 0 0 = 45) (h47 : ¬ l.getD 0 0 = 47) (ho : one l 0 = none) : lexR l = .error 0 := by
  have hps : pass l 0 = ((0 : Nat) : Int) := pass_stop hp hs (is2_no h45) (is2_no h47)
  unfold lexR
  rw [if_neg (by omega), lexF_none hps hp ho]

theorem raw_quoted34 (s : List UInt8) : raw (quoted 34 s) 0 = some (⟨2, s, 0⟩, (quoted 34 s).length) := by
  rw [raw_q34 (by unfold let1; rw [quoted_get]; decide) (by rw [quoted_get]; decide) rfl, quo_whole]; rfl
theorem raw_quoted39 (s : List UInt8) : raw (quoted 39 s) 0 = some (⟨4, s, 0⟩, (quoted 39 s).length) := by
  rw [raw_q39 (by unfold let1; rw [quoted_get]; decide) (by rw [quoted_get]; decide) (by rw [quoted_get]; decide) rfl, quo_whole]; rfl
theorem lex_quoted34 {s : List UInt8} (h : okLen s.length = true) : lexR (quoted 34 s) = .ok [⟨2, s, 0⟩] := by
  have hl : (quoted 34 s).length ≤ 2000 := by
    have := dbl_len 34 s
    unfold okLen at h
    simp at h
    simp [quoted]; omega
  exact lex_whole (quoted_pos _ _) hl (by rw [quoted_get]; decide) (by rw [quoted_get]; decide) (by rw [quoted_get]; decide) ((one_raw (raw_quoted34 s)).trans (if_pos h))
theorem lex_quoted39 {s : List UInt8} (h : s.length ≤ 40) : lexR (quoted 39 s) = .ok [⟨4, s, 0⟩] := by
  have hl : (quoted 39 s).length ≤ 2000 := by
    have := dbl_len 39 s
    simp [quoted]; omega
  exact lex_whole (quoted_pos _ _) hl (by rw [quoted_get]; decide) (by rw [quoted_get]; decide) (by rw [quoted_get]; decide) ((one_raw (raw_quoted39 s)).trans (if_pos (show decide (s.length ≤ 40) = true from decide_eq_true h)))
theorem lex_quoted39_long {s : List UInt8} (h : ¬ s.length ≤ 40) (h2 : s.length ≤ 900) : lexR (quoted 39 s) = .error 0 := by
  have hl : (quoted 39 s).length ≤ 2000 := by
    have := dbl_len 39 s
    simp [quoted]; omega
  exact lex_none_at (quoted_pos _ _) hl (by rw [quoted_get]; decide) (by rw [quoted_get]; decide) (by rw [quoted_get]; decide) ((one_raw (raw_quoted39 s)).trans (if_no (show decide (s.length ≤ 40) = false from decide_eq_false h)))

theorem runEnd_all {l : List UInt8} (h : allWd l = true) : ∀ (n a : Nat), l.length - a = n → a ≤ l.length → runEnd l a = l.length
  | 0, a, h1, h2 => by rw [runEnd_out (by omega)]; omega
  | n + 1, a, h1, h2 => by
    have hw : wd ((l.getD a 0).toNat : Int) = true := by
      unfold allWd at h
      rw [List.all_eq_true] at h
      refine h (l.getD a 0) ?_
      rw [List.getD_eq_getElem?_getD, List.getElem?_eq_getElem (show a < l.length by omega)]
      exact List.getElem_mem _
    rw [runEnd_yes (by omega) hw]
    exact runEnd_all h n (a + 1) (by omega) (by omega)
theorem lex_plain {s : List UInt8} (h : plainB s = true) : lexR s = .ok [⟨2, s, 0⟩] := by
  unfold plainB at h
  simp only [Bool.and_eq_true, decide_eq_true_eq, Bool.not_eq_true'] at h
  obtain ⟨⟨⟨hok, hdg⟩, hall⟩, hnum⟩ := h
  have hlen : 1 ≤ s.length ∧ s.length ≤ 20 := by unfold okLen at hok; simp at hok; omega
  have hw : wd ((s.getD 0 0).toNat : Int) = true := by
    unfold allWd at hall
    rw [List.all_eq_true] at hall
    refine hall (s.getD 0 0) ?_
    rw [List.getD_eq_getElem?_getD, List.getElem?_eq_getElem (show 0 < s.length by omega)]
    exact List.getElem_mem _
  have hlet : let1 s 0 = true := by
    rw [lwd_eq, hdg, Bool.or_false] at hw
    exact hw
  have hrun := runEnd_all hall _ 0 rfl (by omega)
  have hsl : sl s 0 s.length = s := by simp [sl]
  have hraw : raw s 0 = some (⟨2, s, 0⟩, s.length) := by
    rw [raw_name hlet (by rw [hrun, hsl, hnum]; omega), hrun, hsl]
  have hnb : ∀ c : UInt8, wd (c.toNat : Int) = false → ¬ s.getD 0 0 = c := fun c hc e => by rw [e, hc] at hw; cases hw
  have hsp : spB (s.getD 0 0) = false := by
    cases hs : spB (s.getD 0 0)
    · rfl
    · unfold spB at hs
      simp only [Bool.or_eq_true, beq_iff_eq] at hs
      rcases hs with ((hs | hs) | hs) | hs
      · exact absurd hs (hnb 32 (by decide))
      · exact absurd hs (hnb 9 (by decide))
      · exact absurd hs (hnb 10 (by decide))
      · exact absurd hs (hnb 13 (by decide))
  exact lex_whole (by omega) (by omega) hsp (hnb 45 (by decide)) (hnb 47 (by decide)) ((one_raw hraw).trans (if_pos hok))
/-- a name is read from its text -/
theorem lex_name {s : List UInt8} (h : okLen s.length = true) : lexR (nameL s) = .ok [⟨2, s, 0⟩] := by
  unfold nameL
  rw [if_pos h]
  split
  · rename_i hp
    exact lex_plain hp
  · exact lex_quoted34 h
/-- the text is the name itself just if the name is plain -/
theorem name_eq {s : List UInt8} (h : okLen s.length = true) : decide (nameL s = s) = plainB s := by
  unfold nameL
  rw [if_pos h]
  cases hp : plainB s
  · rw [if_neg (by simp)]
    refine decide_eq_false (fun e => ?_)
    have hl := congrArg List.length e
    have : ∀ (l : List UInt8), l.length ≤ (dbl 34 l).length := fun l => by
      induction l with
      | nil => simp [dbl]
      | cons b l ih =>
        by_cases hb : b = 34
        · subst hb; rw [dbl_eq]; simp; omega
        · rw [dbl_ne hb]; simp; omega
    have h3 := this s
    simp [quoted] at hl
    omega
  · rw [if_pos rfl]; exact decide_eq_true rfl
end Go.Proofs.Ytcadoplfgclbjaa
