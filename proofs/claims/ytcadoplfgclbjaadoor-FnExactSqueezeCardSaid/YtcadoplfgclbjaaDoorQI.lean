/- Joined texts: Elem ElemI SignI QuoI. -/
import Derived.Test.YtcadoplfgclbjaaDoorQD
import Derived.Test.YtcadoplfgclbjaaDoorQG
import Derived.Test.YtcadoplfgclbjaaDoorQB
import Derived.Test.YtcadoplfgclbjaaDoorShelf
import Derived.Lib.SlicesS
import Derived.Deep.QuietTactic
import Derived.BigQuiet
/- The element with which a text begins: a token, a gap, or nothing; the lexer as steps over elements. No program. -/
namespace Go.Proofs.YtcadoplfgclbjaaDoor
open Go.RowKit
open Go.Lib (count index replaceK replaceAll)

theorem getD_drop (l : List UInt8) (a j : Nat) : (l.drop a).getD j 0 = l.getD (a + j) 0 := by simp [List.getD_eq_getElem?_getD]
theorem is2_drop (l : List UInt8) (a j : Nat) (x y : UInt8) : is2 (l.drop a) j x y = is2 l (a + j) x y := by
  unfold is2
  rw [getD_drop, getD_drop, List.length_drop, show a + (j + 1) = a + j + 1 by omega, decide_eq_decide.2 (show (j + 1 < l.length - a ↔ a + j + 1 < l.length) by omega)]
theorem line_drop (l : List UInt8) (a : Nat) : ∀ (n j : Nat), l.length - (a + j) ≤ n → lineEnd l (a + j) = a + lineEnd (l.drop a) j
  | 0, j, h => by rw [line_out (by omega), line_out (by rw [List.length_drop]; omega)]
  | n + 1, j, h => by
    have hl : (l.drop a).length = l.length - a := List.length_drop
    by_cases h1 : a + j < l.length
    · by_cases hb : l.getD (a + j) 0 = 10
      · rw [line_stop h1 hb, line_stop (l := l.drop a) (k := j) (by omega) (by rw [getD_drop]; exact hb)]
      · rw [line_on h1 hb, line_on (l := l.drop a) (k := j) (by omega) (by rw [getD_drop]; exact hb)]
        exact line_drop l a n (j + 1) (by omega)
    · rw [line_out h1, line_out (by omega)]
theorem close_drop (l : List UInt8) (a : Nat) : ∀ (n j : Nat), l.length - (a + j) ≤ n → closeAt l (a + j) = a + closeAt (l.drop a) j
  | 0, j, h => by rw [close_out (by omega), close_out (by rw [List.length_drop]; omega)]
  | n + 1, j, h => by
    have hl : (l.drop a).length = l.length - a := List.length_drop
    by_cases h1 : a + j < l.length
    · cases hb : is2 l (a + j) 42 47
      · rw [close_on h1 hb, close_on (l := l.drop a) (k := j) (by omega) (by rw [is2_drop]; exact hb)]
        exact close_drop l a n (j + 1) (by omega)
      · rw [close_stop h1 hb, close_stop (l := l.drop a) (k := j) (by omega) (by rw [is2_drop]; exact hb)]
    · rw [close_out h1, close_out (by omega)]
theorem run_drop (l : List UInt8) (a : Nat) : ∀ (n j : Nat), l.length - (a + j) ≤ n → runEnd l (a + j) = a + runEnd (l.drop a) j
  | 0, j, h => by rw [runEnd_out (by omega), runEnd_out (by rw [List.length_drop]; omega)]
  | n + 1, j, h => by
    have hl : (l.drop a).length = l.length - a := List.length_drop
    by_cases h1 : a + j < l.length
    · cases hb : wd ((l.getD (a + j) 0).toNat : Int)
      · rw [runEnd_no h1 hb, runEnd_no (l := l.drop a) (k := j) (by omega) (by rw [getD_drop]; exact hb)]
      · rw [runEnd_yes h1 hb, runEnd_yes (l := l.drop a) (k := j) (by omega) (by rw [getD_drop]; exact hb)]
        exact run_drop l a n (j + 1) (by omega)
    · rw [runEnd_out h1, runEnd_out (by omega)]
theorem quo_drop (q : UInt8) (l : List UInt8) (a : Nat) : ∀ (n j : Nat), l.length - (a + j) ≤ n → quo q l (a + j) = (quo q (l.drop a) j).map (fun r => (r.1, a + r.2))
  | 0, j, h => by rw [quo_out (by omega), quo_out (by rw [List.length_drop]; omega)]; rfl
  | n + 1, j, h => by
    have hl : (l.drop a).length = l.length - a := List.length_drop
    by_cases h1 : a + j < l.length
    · by_cases h2 : l.getD (a + j) 0 = q
      · by_cases h3 : a + j + 1 < l.length ∧ l.getD (a + j + 1) 0 = q
        · rw [quo_two h1 h2 h3.1 h3.2, quo_two (l := l.drop a) (k := j) (by omega) (by rw [getD_drop]; exact h2) (by omega) (by rw [getD_drop]; exact h3.2), show a + j + 2 = a + (j + 2) by omega, quo_drop q l a n (j + 2) (by omega)]
          simp [Option.map_map, Function.comp_def]
        · rw [quo_stop h1 h2 h3, quo_stop (l := l.drop a) (k := j) (by omega) (by rw [getD_drop]; exact h2) (by rw [getD_drop]; intro h; exact h3 ⟨by omega, h.2⟩)]
          rfl
      · rw [quo_other h1 h2, quo_other (l := l.drop a) (k := j) (by omega) (by rw [getD_drop]; exact h2), show a + j + 1 = a + (j + 1) by omega, quo_drop q l a n (j + 1) (by omega), getD_drop]
        simp [Option.map_map, Function.comp_def]
    · rw [quo_out (by omega), quo_out (l := l.drop a) (k := j) (by omega)]; rfl
theorem sl_drop (l : List UInt8) (a n : Nat) : sl (l.drop a) 0 n = sl l a (a + n) := by
  unfold sl
  rw [List.drop_zero, Nat.sub_zero, Nat.add_sub_cancel_left]

/-- how long an operator at the head is -/
def signLen (l : List UInt8) : Nat := if 2 ≤ l.length ∧ signB (l.take 2) = true then 2 else if 1 ≤ l.length ∧ signB (l.take 1) = true then 1 else 0
/-- a string or a name in quotes at the head -/
def quoL (q : UInt8) (l : List UInt8) : Nat := match quo q l 1 with
  | some r => r.2
  | none => 0
def quoT (q : UInt8) (l : List UInt8) : List UInt8 := match quo q l 1 with
  | some r => r.1
  | none => []
def quoK (q : UInt8) (k : Int) (l : List UInt8) : Int := match quo q l 1 with
  | some _ => k
  | none => 0
def longLen (l : List UInt8) : Nat := if closeAt l 2 < l.length then closeAt l 2 + 2 else 0
/-- the element at the head: its kind (0: a gap), its text, its length (0: there is none) -/
def el (l : List UInt8) : Int × List UInt8 × Nat :=
  if spB (l.getD 0 0) then (0, [], 1)
  else if is2 l 0 45 45 then (0, [], lineEnd l 0)
  else if is2 l 0 47 42 then (0, [], longLen l)
  else if dg ((l.getD 0 0).toNat : Int) then (3, sl l 0 (runEnd l 0), runEnd l 0)
  else if wd ((l.getD 0 0).toNat : Int) then
    (if 0 < numOf (upL (sl l 0 (runEnd l 0))) then (1, upL (sl l 0 (runEnd l 0)), runEnd l 0) else (2, sl l 0 (runEnd l 0), runEnd l 0))
  else if l.getD 0 0 = 34 then (quoK 34 2 l, quoT 34 l, quoL 34 l)
  else if l.getD 0 0 = 39 then (quoK 39 4 l, quoT 39 l, quoL 39 l)
  else (5, l.take (signLen l), signLen l)

theorem lexF_congr {l : List UInt8} {a b : Nat} (h : pass l a = pass l b) : lexF l a = lexF l b := by
  by_cases h0 : pass l a < 0
  · rw [lexF_bad h0, lexF_bad (l := l) (a := b) (by rw [← h]; exact h0), h]
  · obtain ⟨p, hp⟩ := Int.eq_ofNat_of_zero_le (show 0 ≤ pass l a by omega)
    by_cases hpl : p < l.length
    · rcases ho : one l p with _ | ⟨t, e⟩
      · rw [lexF_none hp hpl ho, lexF_none (l := l) (a := b) (by rw [← h]; exact hp) hpl ho]
      · rw [lexF_some hp hpl ho, lexF_some (l := l) (a := b) (by rw [← h]; exact hp) hpl ho]
    · rw [lexF_end hp hpl, lexF_end (l := l) (a := b) (by rw [← h]; exact hp) hpl]

/-- what the lexer does with the element at a -/
def stepE (l : List UInt8) (a : Nat) (x : Int × List UInt8 × Nat) : Except Nat (List Tk) :=
  if x.2.2 = 0 then .error a
  else if x.1 = 0 then lexF l (a + x.2.2)
  else if tokOk x.1 x.2.1 = false then .error a
  else (lexF l (a + x.2.2)).map fun L => ⟨x.1, x.2.1, a⟩ :: L

theorem lex_tok {l : List UInt8} {a : Nat} {k : Int} {t : List UInt8} {n : Nat} (hp : pass l a = (a : Int)) (ha : a < l.length) (hn : n ≠ 0) (hk : k ≠ 0) (hr : raw l a = some (⟨k, t, a⟩, a + n)) : lexF l a = stepE l a (k, t, n) := by
  unfold stepE
  rw [if_neg hn, if_neg hk]
  cases h : tokOk k t
  · rw [if_pos rfl, lexF_none hp ha (by rw [one_raw hr, if_neg (by rw [h]; simp)])]
  · rw [if_neg (by simp), lexF_some hp ha (by rw [one_raw hr, if_pos h])]
theorem lex_none {l : List UInt8} {a : Nat} {k : Int} {t : List UInt8} (hp : pass l a = (a : Int)) (ha : a < l.length) (ho : one l a = none) : lexF l a = stepE l a (k, t, 0) := by
  unfold stepE
  rw [if_pos rfl, lexF_none hp ha ho]
theorem lex_gap {l : List UInt8} {a n : Nat} (hn : n ≠ 0) (hp : pass l a = pass l (a + n)) : lexF l a = stepE l a (0, [], n) := by
  unfold stepE
  rw [if_neg hn, if_pos rfl]
  exact lexF_congr hp
theorem let_wd {l : List UInt8} {a : Nat} : wd ((l.getD a 0).toNat : Int) = (let1 l a || dg ((l.getD a 0).toNat : Int)) := by
  unfold let1; rw [lwd_eq]
theorem runEnd_lt {l : List UInt8} {a : Nat} (h : a < l.length) (hw : wd ((l.getD a 0).toNat : Int) = true) : a + 1 ≤ runEnd l a := by
  rw [runEnd_yes h hw]; exact runEnd_ge l _ (a + 1) rfl
theorem sl_one {l : List UInt8} {a n : Nat} : sl l a (a + n) = (l.drop a).take n := by unfold sl; rw [Nat.add_sub_cancel_left]

theorem lex_el (l : List UInt8) (a : Nat) (ha : a < l.length) : lexF l a = stepE l a (el (l.drop a)) := by
  have hg : ∀ j, (l.drop a).getD j 0 = l.getD (a + j) 0 := getD_drop l a
  have hg0 : (l.drop a).getD 0 0 = l.getD a 0 := by rw [hg]; rfl
  have hi : ∀ x y, is2 (l.drop a) 0 x y = is2 l a x y := fun x y => by rw [is2_drop]; rfl
  have hl : (l.drop a).length = l.length - a := List.length_drop
  have hR : runEnd l a = a + runEnd (l.drop a) 0 := run_drop l a _ 0 (Nat.le_refl _)
  have hS : sl (l.drop a) 0 (runEnd (l.drop a) 0) = sl l a (runEnd l a) := by rw [sl_drop, hR]
  unfold el
  rw [hg0, hi, hi, hS]
  cases h1 : spB (l.getD a 0)
  · rw [if_neg (by simp)]
    cases h2 : is2 l a 45 45
    · rw [if_neg (by simp)]
      cases h3 : is2 l a 47 42
      · rw [if_neg (by simp)]
        have hp := pass_stop ha h1 h2 h3
        cases h4 : dg ((l.getD a 0).toNat : Int)
        · rw [if_neg (by simp)]
          cases h5 : wd ((l.getD a 0).toNat : Int)
          · rw [if_neg (by simp)]
            have h6 : let1 l a = false := by
              have := let_wd (l := l) (a := a)
              rw [h5, h4, Bool.or_false] at this
              exact this.symm
            have hq : ∀ q, quo q l (a + 1) = (quo q (l.drop a) 1).map (fun r => (r.1, a + r.2)) := fun q => quo_drop q l a _ 1 (Nat.le_refl _)
            by_cases h7 : l.getD a 0 = 34
            · rw [if_pos h7]
              have hr := raw_q34 h6 h4 h7
              rw [hq] at hr
              unfold quoK quoT quoL
              rcases he : quo 34 (l.drop a) 1 with _ | r
              · rw [he] at hr
                exact lex_none hp ha (one_no hr)
              · rw [he] at hr
                have := quo_end 34 _ _ 1 (Nat.le_refl _) r he
                exact lex_tok hp ha (show r.2 ≠ 0 by omega) (by simp) hr
            · rw [if_neg h7]
              by_cases h8 : l.getD a 0 = 39
              · rw [if_pos h8]
                have hr := raw_q39 h6 h4 h7 h8
                rw [hq] at hr
                unfold quoK quoT quoL
                rcases he : quo 39 (l.drop a) 1 with _ | r
                · rw [he] at hr
                  exact lex_none hp ha (one_no hr)
                · rw [he] at hr
                  have := quo_end 39 _ _ 1 (Nat.le_refl _) r he
                  exact lex_tok hp ha (show r.2 ≠ 0 by omega) (by simp) hr
              · rw [if_neg h8]
                unfold signLen
                rw [hl]
                by_cases h9 : 2 ≤ l.length - a ∧ signB ((l.drop a).take 2) = true
                · rw [if_pos h9]
                  have hr := raw_two h6 h4 h7 h8 ⟨by omega, by rw [sl_one]; exact h9.2⟩
                  rw [sl_one] at hr
                  exact lex_tok hp ha (by omega) (by simp) hr
                · rw [if_neg h9]
                  have hr := raw_one h6 h4 h7 h8 (fun h => h9 ⟨by omega, by rw [← sl_one]; exact h.2⟩)
                  rw [sl_one] at hr
                  by_cases h10 : 1 ≤ l.length - a ∧ signB ((l.drop a).take 1) = true
                  · rw [if_pos h10]
                    exact lex_tok hp ha (by omega) (by simp) hr
                  · rw [if_neg h10]
                    refine lex_none hp ha ?_
                    rw [one_raw hr, if_neg]
                    show ¬ signB ((l.drop a).take 1) = true
                    exact fun h => h10 ⟨by omega, h⟩
          · rw [if_pos rfl]
            have h6 : let1 l a = true := by
              have := let_wd (l := l) (a := a)
              rw [h5, h4, Bool.or_false] at this
              exact this.symm
            have hlt := runEnd_lt ha h5
            by_cases h7 : 0 < numOf (upL (sl l a (runEnd l a)))
            · rw [if_pos h7]
              exact lex_tok hp ha (by omega) (by simp) (by rw [raw_key h6 h7, ← hR])
            · rw [if_neg h7]
              exact lex_tok hp ha (by omega) (by simp) (by rw [raw_name h6 h7, ← hR])
        · rw [if_pos rfl]
          have h5 : wd ((l.getD a 0).toNat : Int) = true := by rw [let_wd, h4, Bool.or_true]
          have hlt := runEnd_lt ha h5
          have h6 : let1 l a = false := by
            unfold let1 ltr
            unfold dg at h4
            simp only [Bool.and_eq_true, decide_eq_true_eq] at h4
            generalize ((l.getD a 0).toNat : Int) = n at h4
            simp
            omega
          exact lex_tok hp ha (by omega) (by simp) (by rw [raw_num h6 h4, ← hR])
      · rw [if_pos rfl]
        have hc : closeAt l (a + 2) = a + closeAt (l.drop a) 2 := close_drop l a _ 2 (Nat.le_refl _)
        have hp := pass_long ha h1 h2 h3
        unfold longLen
        rw [hl]
        by_cases h4 : closeAt (l.drop a) 2 < l.length - a
        · rw [if_pos h4]
          refine lex_gap (by omega) ?_
          rw [hp, hc, if_pos (by omega)]
          rfl
        · rw [if_neg h4]
          rw [hc, if_neg (by omega)] at hp
          unfold stepE
          rw [if_pos rfl, lexF_bad (by omega), hp]
          congr 1
          omega
    · rw [if_pos rfl]
      have hL : lineEnd l a = a + lineEnd (l.drop a) 0 := line_drop l a _ 0 (Nat.le_refl _)
      have := line_two h2
      refine lex_gap (by omega) ?_
      rw [pass_line ha h1 h2, hL]
  · rw [if_pos rfl]
    exact lex_gap (by omega) (pass_sp ha h1)

theorem signLen_le (l : List UInt8) : signLen l ≤ l.length := by
  unfold signLen
  split
  · rename_i h; exact h.1
  · split
    · rename_i h; exact h.1
    · omega
theorem quoL_le (q : UInt8) (l : List UInt8) : quoL q l ≤ l.length := by
  unfold quoL
  rcases h : quo q l 1 with _ | r
  · exact Nat.zero_le _
  · exact (quo_end q l _ 1 (Nat.le_refl _) r h).2
theorem longLen_le (l : List UInt8) : longLen l ≤ l.length := by
  unfold longLen
  split
  · rename_i h; exact closeAt_two _ 2 rfl h
  · omega
/-- an element ends within the text -/
theorem el_le (l : List UInt8) (h : 0 < l.length) : (el l).2.2 ≤ l.length := by
  have h1 := lineEnd_le l _ 0 rfl (by omega)
  have h2 := runEnd_le l _ 0 rfl (by omega)
  have h3 := signLen_le l
  have h4 := quoL_le 34 l
  have h5 := quoL_le 39 l
  have h6 := longLen_le l
  unfold el
  split
  · exact h
  · split
    · exact h1
    · split
      · exact h6
      · split
        · exact h2
        · split
          · split <;> exact h2
          · split
            · exact h4
            · split
              · exact h5
              · exact h3

theorem quoT_le (q : UInt8) (l : List UInt8) : (quoT q l).length ≤ l.length := by
  unfold quoT
  rcases h : quo q l 1 with _ | r
  · exact Nat.zero_le _
  · have := quo_end q l _ 1 (Nat.le_refl _) r h
    show r.1.length ≤ _
    omega
/-- no text is longer than what it was read from -/
theorem el_text (l : List UInt8) : (el l).2.1.length ≤ l.length := by
  have h2 := sl_len l 0 (runEnd l 0)
  have h4 := quoT_le 34 l
  have h5 := quoT_le 39 l
  unfold el
  split
  · exact Nat.zero_le _
  · split
    · exact Nat.zero_le _
    · split
      · exact Nat.zero_le _
      · split
        · exact h2
        · split
          · split
            · show (upL _).length ≤ _
              unfold upL; rw [List.length_map]; exact h2
            · exact h2
          · split
            · exact h4
            · split
              · exact h5
              · show (l.take _).length ≤ _
                rw [List.length_take]; omega

/-- what strings.IndexByte finds -/
theorem line_index (l : List UInt8) : lineEnd l 0 = if 0 ≤ Lib.indexByte l 10 then (Lib.indexByte l 10).toNat else l.length := by
  induction l with
  | nil => rw [line_out (by simp)]; rfl
  | cons b l ih =>
    have hge := Lib.indexByte_ge l 10
    have hd : lineEnd (b :: l) (1 + 0) = 1 + lineEnd ((b :: l).drop 1) 0 := line_drop (b :: l) 1 _ 0 (Nat.le_refl _)
    by_cases h : b = 10
    · subst h
      rw [line_stop (by simp) rfl]
      rfl
    · rw [line_on (by simp) (by simpa using h), show 0 + 1 = 1 + 0 from rfl, hd]
      show 1 + lineEnd l 0 = _
      have hcons : Lib.indexByte (b :: l) 10 = if Lib.indexByte l 10 == -1 then -1 else Lib.indexByte l 10 + 1 := by
        show (if b == 10 then (0 : Int) else if Lib.indexByte l 10 == -1 then -1 else Lib.indexByte l 10 + 1) = _
        rw [if_neg (by simpa using h)]
      rw [ih, hcons]
      by_cases h2 : Lib.indexByte l 10 = -1
      · rw [h2]
        show 1 + l.length = l.length + 1
        omega
      · have h3 : ¬ (Lib.indexByte l 10 == -1) = true := by simpa using h2
        rw [if_neg h3, if_pos (by omega), if_pos (by omega)]; omega

theorem pre_two (l : List UInt8) (x y : UInt8) : Lib.hasPrefix l [x, y] = is2 l 0 x y := by
  unfold Lib.hasPrefix is2
  match l with
  | [] => rfl
  | [a] => simp [List.isPrefixOf]
  | a :: b :: t =>
    simp only [List.isPrefixOf, List.length_cons, List.getD_cons_zero, List.getD_cons_succ, Bool.and_true]
    rw [show (decide (0 + 1 < t.length + 1 + 1)) = true by simp, Bool.true_and, Bool.beq_comm, Bool.beq_comm (a := y)]
/-- what strings.Index finds -/
theorem close_index (l : List UInt8) : Lib.index l [42, 47] = if closeAt l 0 < l.length then (closeAt l 0 : Int) else -1 := by
  induction l with
  | nil => rw [close_out (by simp)]; rfl
  | cons b l ih =>
    have hd : closeAt (b :: l) (1 + 0) = 1 + closeAt ((b :: l).drop 1) 0 := close_drop (b :: l) 1 _ 0 (Nat.le_refl _)
    have hp : ([42, 47] : List UInt8).isPrefixOf (b :: l) = is2 (b :: l) 0 42 47 := pre_two (b :: l) 42 47
    unfold Lib.index
    rw [hp]
    cases h : is2 (b :: l) 0 42 47
    · rw [if_neg (by simp), close_on (by simp) h, show 0 + 1 = 1 + 0 from rfl, hd]
      show (if Lib.index l [42, 47] == -1 then (-1 : Int) else Lib.index l [42, 47] + 1) = if 1 + closeAt l 0 < (b :: l).length then ((1 + closeAt l 0 : Nat) : Int) else -1
      rw [ih, List.length_cons]
      by_cases h2 : closeAt l 0 < l.length
      · have e1 : ¬ (((closeAt l 0 : Nat) : Int) == -1) = true := by rw [beq_iff_eq]; omega
        rw [if_pos h2, if_neg e1, if_pos (by omega)]; omega
      · rw [if_neg h2, if_pos (show ((-1 : Int) == -1) = true from rfl), if_neg (by omega)]
    · rw [if_pos rfl, close_stop (by simp) h, if_pos (by simp)]; rfl
theorem long_index (l : List UInt8) (h : 2 ≤ l.length) : (Lib.index (l.drop 2) [42, 47] < 0 ∧ longLen l = 0) ∨ (∃ m : Nat, Lib.index (l.drop 2) [42, 47] = (m : Int) ∧ longLen l = 2 + m + 2) := by
  have hc : closeAt l (2 + 0) = 2 + closeAt (l.drop 2) 0 := close_drop l 2 _ 0 (Nat.le_refl _)
  have hc2 : closeAt l 2 = 2 + closeAt (l.drop 2) 0 := hc
  rw [close_index, List.length_drop]
  unfold longLen
  rw [hc2]
  by_cases h2 : closeAt (l.drop 2) 0 < l.length - 2
  · rw [if_pos h2, if_pos (by omega)]
    exact .inr ⟨_, rfl, by omega⟩
  · rw [if_neg h2, if_neg (by omega)]
    exact .inl ⟨by omega, rfl⟩

theorem unq_skip {b q : UInt8} (h : b ≠ q) (m : List UInt8) : replaceK [q, q] [q] (count (b :: m) [q, q]) (b :: m) = b :: replaceK [q, q] [q] (count m [q, q]) m := by
  have hi : index (b :: m) [q, q] = if index m [q, q] == -1 then -1 else index m [q, q] + 1 := by
    have : ¬ q = b := fun e => h e.symm
    simp [index, List.isPrefixOf, this]
  have hge := Lib.index_ge m [q, q]
  by_cases hm : index m [q, q] = -1
  · rw [hm] at hi
    rw [Lib.count_miss hm, Lib.count_miss hi]
    rfl
  · have e1 : ¬ (index m [q, q] == -1) = true := by simpa using hm
    rw [if_neg e1] at hi
    obtain ⟨i, hi2⟩ := Int.eq_ofNat_of_zero_le (show 0 ≤ index m [q, q] by omega)
    have hi2 : index m [q, q] = ((i : Nat) : Int) := hi2
    have hi3 : index (b :: m) [q, q] = ((i + 1 : Nat) : Int) := by rw [hi, hi2]; rfl
    rw [Lib.count_hit (by simp) hi2, Lib.count_hit (by simp) hi3, Nat.add_comm 1, Nat.add_comm 1, Lib.replaceK_hit _ _ _ _ _ hi2, Lib.replaceK_hit _ _ _ _ _ hi3]
    rw [show i + 1 + ([q, q] : List UInt8).length = (i + ([q, q] : List UInt8).length) + 1 by omega]
    simp
theorem unq_two (q : UInt8) (m : List UInt8) : replaceK [q, q] [q] (count (q :: q :: m) [q, q]) (q :: q :: m) = q :: replaceK [q, q] [q] (count m [q, q]) m := by
  have hi : index (q :: q :: m) [q, q] = ((0 : Nat) : Int) := by simp [index, List.isPrefixOf]
  rw [Lib.count_hit (by simp) hi, Nat.add_comm 1, Lib.replaceK_hit _ _ _ _ _ hi]
  simp
theorem sl_cons {l : List UInt8} {i e : Nat} (h : i < l.length) (he : i < e) : sl l i e = l.getD i 0 :: sl l (i + 1) e := by
  unfold sl
  rw [List.drop_eq_getElem_cons h, show e - i = (e - (i + 1)) + 1 by omega, List.take_succ_cons]
  congr 1
  rw [List.getD_eq_getElem?_getD, List.getElem?_eq_getElem h]; rfl
theorem quo_unq (q : UInt8) (l : List UInt8) : ∀ (n i : Nat) (r : List UInt8 × Nat), l.length - i ≤ n → quo q l i = some r → replaceK [q, q] [q] (count (sl l i (r.2 - 1)) [q, q]) (sl l i (r.2 - 1)) = r.1
  | 0, i, r, hn, h => by rw [quo_out (by omega)] at h; cases h
  | n + 1, i, r, hn, h => by
    by_cases h1 : i < l.length
    · by_cases h2 : l.getD i 0 = q
      · by_cases h3 : i + 1 < l.length ∧ l.getD (i + 1) 0 = q
        · rw [quo_two h1 h2 h3.1 h3.2] at h
          obtain ⟨r', hr, rfl⟩ := Option.map_eq_some_iff.1 h
          have he := quo_end q l _ (i + 2) (Nat.le_refl _) r' hr
          show replaceK [q, q] [q] (count (sl l i (r'.2 - 1)) [q, q]) (sl l i (r'.2 - 1)) = q :: r'.1
          rw [sl_cons h1 (by omega), sl_cons h3.1 (by omega), h2, h3.2, unq_two, quo_unq q l n (i + 2) r' (by omega) hr]
        · rw [quo_stop h1 h2 h3] at h
          cases h
          show replaceK [q, q] [q] (count (sl l i (i + 1 - 1)) [q, q]) (sl l i (i + 1 - 1)) = []
          have e : sl l i (i + 1 - 1) = [] := by unfold sl; simp
          rw [e, Lib.count_miss (by rfl)]; rfl
      · rw [quo_other h1 h2] at h
        obtain ⟨r', hr, rfl⟩ := Option.map_eq_some_iff.1 h
        have he := quo_end q l _ (i + 1) (Nat.le_refl _) r' hr
        show replaceK [q, q] [q] (count (sl l i (r'.2 - 1)) [q, q]) (sl l i (r'.2 - 1)) = l.getD i 0 :: r'.1
        rw [sl_cons h1 (by omega), unq_skip h2, quo_unq q l n (i + 1) r' (by omega) hr]
    · rw [quo_out h1] at h; cases h
theorem replaceAll_unq {q : UInt8} {l : List UInt8} {r : List UInt8 × Nat} (h : quo q l 1 = some r) : replaceAll (sl l 1 (r.2 - 1)) [q, q] [q] = r.1 := by
  unfold replaceAll Lib.replace Lib.replaceNum
  rw [if_neg (by simp), if_pos (Or.inl (by omega))]
  exact quo_unq q l _ 1 r (Nat.le_refl _) h
end Go.Proofs.YtcadoplfgclbjaaDoor

/- Contracts of the small functions of the program's lexer. -/
namespace Go.Proofs.YtcadoplfgclbjaaDoor
open Go.RowKit

theorem isSpace_impl (b : UInt8) (w : World) : Calls Tryd.prog 57 #[.int .u8 (b.toNat : Int)] w (PureE (.bool (spB b)) w) := by
  rcases sp_cases b with ⟨h, h1, h2, h3, h4⟩ | ⟨h, h1⟩
  · rw [h]
    clear h
    generalize (b.toNat : Int) = n at *
    go_enter Tryd.func57, Tryd.ntmps57
    go_wp2
    go_ret
    exact ⟨rfl, rfl⟩
  · rw [h]
    clear h
    rcases h1 with rfl | rfl | rfl | rfl <;>
    (go_enter Tryd.func57, Tryd.ntmps57
     go_wp2
     go_ret
     exact ⟨rfl, rfl⟩)

theorem lineSize_impl (s : ByteArray) (w : World) (_hs : s.size ≤ 4000000) :
    Calls Tryd.prog 59 #[.string s] w (PureE (.int .i64 (lineEnd s.data.toList 0 : Nat)) w) := by
  have hI := fun w => Tryd.strings_IndexByte s 10 w
  have hE := line_index s.data.toList
  have hge := Lib.indexByte_ge s.data.toList 10
  have e10 : (10 : Int).toNat.toUInt8 = 10 := rfl
  rw [e10] at hI
  clear e10
  generalize Lib.indexByte s.data.toList 10 = i at *
  by_cases h : 0 ≤ i
  · have d : decide (0 ≤ i) = true := by simpa using h
    rw [if_pos h] at hE
    have HE := Lib.hid hE; clear hE
    go_enter Tryd.func59, Tryd.ntmps59
    go_wp2_with fail
    refine (hI _).mono ?_
    rintro e w1 ⟨rfl, rfl⟩
    go_wp2_with fail
    go_ret
    exact ⟨by rw [HE.out, Int.toNat_of_nonneg h]; rfl, rfl⟩
  · have d : decide (0 ≤ i) = false := by simpa using h
    rw [if_neg h] at hE
    have HE := Lib.hid hE; clear hE
    go_enter Tryd.func59, Tryd.ntmps59
    go_wp2_with fail
    refine (hI _).mono ?_
    rintro e w1 ⟨rfl, rfl⟩
    go_wp2_with fail
    go_ret
    exact ⟨by rw [HE.out]; rfl, rfl⟩

theorem blockSize_impl (s : ByteArray) (w : World) (hs : s.size ≤ 4000000) (h2 : 2 ≤ s.size) (hm : MaxI w) :
    Calls Tryd.prog 60 #[.string s] w (PureE (.int .i64 (longLen s.data.toList : Nat)) w) := by
  obtain ⟨m, hm1⟩ := hm
  have hI : ∀ sub : ByteArray, sub.data.toList = [42, 47] → Calls Tryd.prog 85 #[.string (s.extract 2 s.size), .string sub] w (PureE (.int .i64 (Lib.index (s.data.toList.drop 2) [42, 47])) w) := fun sub hsub => by
    have h := Tryd.strings_Index (s.extract 2 s.size) sub m w (by rw [ByteArray.size_extract]; omega) hm1
    have e : (s.extract 2 s.size).data.toList = s.data.toList.drop 2 := by
      rw [Lib.extract_data, List.take_of_length_le]
      rw [List.length_drop]; exact Nat.le_refl _
    rw [e, hsub] at h
    exact h
  have h2i : (2 : Int) ≤ (s.size : Int) := by omega
  have hlen : s.data.toList.length = s.size := rfl
  have hx := long_index s.data.toList (by omega)
  generalize Lib.index (s.data.toList.drop 2) [42, 47] = i at *
  have hL := longLen_le s.data.toList
  generalize longLen s.data.toList = L at *
  clear hm1
  rcases hx with ⟨h, rfl⟩ | ⟨k, rfl, rfl⟩
  · have d : decide (i < 0) = true := by simpa using h
    go_enter Tryd.func60, Tryd.ntmps60
    go_wp2_with fail
    refine (hI _ rfl).mono ?_
    rintro e w1 ⟨rfl, rfl⟩
    go_wp2_with fail
    go_ret
    exact ⟨rfl, rfl⟩
  · have d : decide ((k : Int) < 0) = false := by simp
    go_enter Tryd.func60, Tryd.ntmps60
    go_wp2_with fail
    refine (hI _ rfl).mono ?_
    rintro e w1 ⟨rfl, rfl⟩
    go_wp2_with fail
    go_ret
    exact ⟨by go_num, rfl⟩

set_option maxRecDepth 100000 in
set_option maxHeartbeats 800000 in
theorem wordSize_impl (s : ByteArray) (w : World) (hs : s.size ≤ 4000000) :
    Calls Tryd.prog 62 #[.string s] w (PureE (.int .i64 (runEnd s.data.toList 0 : Nat)) w) := by
  have hlen : s.data.toList.length = s.size := rfl
  go_enter Tryd.func62, Tryd.ntmps62
  go_wp2_with fail
  go_loopw [3] (fun i wr => ∃ k : Nat, k ≤ s.size ∧ i = .int .i64 (k : Int) ∧ Hid (runEnd s.data.toList 0 = runEnd s.data.toList k) ∧ wr = w) (fun i _ => s.size - (intOf i).toNat)
  case atStart => exact ⟨0, Nat.zero_le _, rfl, rfl, rfl⟩
  case round =>
    obtain ⟨k, hk, rfl, HK, rfl⟩ := hrel
    by_cases hlt : k < s.size
    · have hlt2 : (k : Int) < (s.size : Int) := by omega
      go_wp2_with fail
      refine (isWordByte_any _ _).mono ?_
      rintro e w1 ⟨rfl, rfl⟩
      rw [lstr_at hlt]
      cases h1 : wd ((s.data.toList.getD k 0).toNat : Int)
      · have hf := Lib.hid (runEnd_no (l := s.data.toList) (k := k) hlt h1)
        clear h1
        go_wp2_with fail
        go_ret
        exact ⟨by rw [HK.out, hf.out]; rfl, rfl⟩
      · have hf := Lib.hid (runEnd_yes (l := s.data.toList) (k := k) hlt h1)
        clear h1
        go_wp2_with fail
        go_roundw
        case rel => exact ⟨k + 1, by omega, by go_num, by rw [HK.out, hf.out]; rfl, trivial⟩
        case measure => simp [intOf]; omega
    · have hf := Lib.hid (runEnd_out (l := s.data.toList) (k := k) hlt)
      go_wp2_with fail
      go_ret
      exact ⟨by rw [HK.out, hf.out]; rfl, rfl⟩
end Go.Proofs.YtcadoplfgclbjaaDoor

/- The contract of the program's test on operators. -/
namespace Go.Proofs.YtcadoplfgclbjaaDoor
open Go.RowKit

set_option maxRecDepth 100000 in
set_option maxHeartbeats 1200000 in
theorem signOk_impl (s : ByteArray) (w : World) : Calls Tryd.prog 71 #[.string s] w (PureE (.bool (signB s.data.toList)) w) := by
  cases h : signB s.data.toList
  · obtain ⟨h0, h1, h2, h3, h4, h5, h6, h7, h8, h9, h10, h11, h12, h13, h14, h15⟩ := signB_not h
    have q0 : (s.toList == [40]) = false := by rw [beq_lit, decide_eq_false h0]
    have q1 : (s.toList == [41]) = false := by rw [beq_lit, decide_eq_false h1]
    have q2 : (s.toList == [44]) = false := by rw [beq_lit, decide_eq_false h2]
    have q3 : (s.toList == [46]) = false := by rw [beq_lit, decide_eq_false h3]
    have q4 : (s.toList == [42]) = false := by rw [beq_lit, decide_eq_false h4]
    have q5 : (s.toList == [43]) = false := by rw [beq_lit, decide_eq_false h5]
    have q6 : (s.toList == [45]) = false := by rw [beq_lit, decide_eq_false h6]
    have q7 : (s.toList == [47]) = false := by rw [beq_lit, decide_eq_false h7]
    have q8 : (s.toList == [37]) = false := by rw [beq_lit, decide_eq_false h8]
    have q9 : (s.toList == [61]) = false := by rw [beq_lit, decide_eq_false h9]
    have q10 : (s.toList == [60, 62]) = false := by rw [beq_lit, decide_eq_false h10]
    have q11 : (s.toList == [60]) = false := by rw [beq_lit, decide_eq_false h11]
    have q12 : (s.toList == [60, 61]) = false := by rw [beq_lit, decide_eq_false h12]
    have q13 : (s.toList == [62]) = false := by rw [beq_lit, decide_eq_false h13]
    have q14 : (s.toList == [62, 61]) = false := by rw [beq_lit, decide_eq_false h14]
    have q15 : (s.toList == [124, 124]) = false := by rw [beq_lit, decide_eq_false h15]
    clear h h0 h1 h2 h3 h4 h5 h6 h7 h8 h9 h10 h11 h12 h13 h14 h15
    go_enter Tryd.func71, Tryd.ntmps71
    go_wp2
    go_ret
    exact ⟨rfl, rfl⟩
  · rcases signB_cases h with h | h | h | h | h | h | h | h | h | h | h | h | h | h | h | h <;>
    (obtain rfl := ba_of h
     go_enter Tryd.func71, Tryd.ntmps71
     go_wp2
     go_ret
     exact ⟨rfl, rfl⟩)

end Go.Proofs.YtcadoplfgclbjaaDoor

/- Contracts of the program's lengths of quoted texts and of operators. -/
namespace Go.Proofs.YtcadoplfgclbjaaDoor
open Go.RowKit

theorem u8_neq {a b : UInt8} (h : ¬ a = b) : ((a.toNat : Int) != (b.toNat : Int)) = true := by
  have := u8_ne h
  simp only [bne, this, Bool.not_false]
theorem u8_neqF {a b : UInt8} (h : a = b) : ((a.toNat : Int) != (b.toNat : Int)) = false := by
  have := u8_eq h
  simp only [bne, this, Bool.not_true]
/-- the place behind the quoted text, from k on -/
def quoAt (q : UInt8) (l : List UInt8) (k : Nat) : Nat := match quo q l k with
  | some r => r.2
  | none => 0
theorem quoAt_out {q : UInt8} {l : List UInt8} {k : Nat} (h : ¬ k < l.length) : quoAt q l k = 0 := by unfold quoAt; rw [quo_out h]
theorem quoAt_other {q : UInt8} {l : List UInt8} {k : Nat} (h : k < l.length) (hq : ¬ l.getD k 0 = q) : quoAt q l k = quoAt q l (k + 1) := by
  unfold quoAt; rw [quo_other h hq]; rcases quo q l (k + 1) with _ | r <;> rfl
theorem quoAt_two {q : UInt8} {l : List UInt8} {k : Nat} (h : k < l.length) (hq : l.getD k 0 = q) (h2 : k + 1 < l.length) (hq2 : l.getD (k + 1) 0 = q) : quoAt q l k = quoAt q l (k + 2) := by
  unfold quoAt; rw [quo_two h hq h2 hq2]; rcases quo q l (k + 2) with _ | r <;> rfl
theorem quoAt_stop {q : UInt8} {l : List UInt8} {k : Nat} (h : k < l.length) (hq : l.getD k 0 = q) (h2 : ¬ (k + 1 < l.length ∧ l.getD (k + 1) 0 = q)) : quoAt q l k = k + 1 := by
  unfold quoAt; rw [quo_stop h hq h2]

set_option maxRecDepth 100000 in
set_option maxHeartbeats 1600000 in
theorem quotedSize_impl (q : UInt8) (s : ByteArray) (w : World) (hs : s.size ≤ 4000000) (h0 : 0 < s.size) (hq : s.data.toList.getD 0 0 = q) :
    Calls Tryd.prog 87 #[.string s] w (IntE (quoL q s.data.toList : Nat) w) := by
  have hlen : s.data.toList.length = s.size := rfl
  have hq0 : s[0] = q := by rw [lstr_at h0]; exact hq
  have HQ := Lib.hid hq0; clear hq0
  have h0i : (0 : Int) < (s.size : Int) := by omega
  go_enter Tryd.func87, Tryd.ntmps87
  go_wp2_with fail
  go_loopw [3] (fun i wr => ∃ k : Nat, k ≤ s.size ∧ i = .int .i64 (k : Int) ∧ Hid (quoL q s.data.toList = quoAt q s.data.toList k) ∧ Below w.heap.size w wr) (fun i _ => s.size - (intOf i).toNat)
  case atStart => exact ⟨1, h0, rfl, rfl, Below.refl _ _⟩
  case round =>
    obtain ⟨k, hk, rfl, HK, hbel⟩ := hrel
    by_cases hlt : k < s.size
    · have hlt2 : (k : Int) < (s.size : Int) := by omega
      have HB := Lib.hid (lstr_at hlt)
      by_cases he : s[k] = q
      · have q1 : ((s[k].toNat : Int) != (s[0].toNat : Int)) = false := u8_neqF (by rw [HQ.out]; exact he)
        have he' : s.data.toList.getD k 0 = q := by rw [← HB.out]; exact he
        clear he
        have hw1 : IntKind.i64.wrap ((k : Int) + 1) = (k : Int) + 1 := IntWalk.i64_in _ (by omega)
        by_cases h2 : k + 1 < s.size
        · have h2i : (k : Int) + 1 < (s.size : Int) := by omega
          have d2 : ((k : Int) + 1 == (s.size : Int)) = false := by simp; omega
          have hge : (0 : Int) ≤ (k : Int) + 1 := by omega
          have htn : ((k : Int) + 1).toNat = k + 1 := by omega
          by_cases he2 : s[k + 1] = q
          · have q2 : ((s[k + 1].toNat : Int) != (s[0].toNat : Int)) = false := u8_neqF (by rw [HQ.out]; exact he2)
            have HN := Lib.hid (quoAt_two (l := s.data.toList) (k := k) hlt he' h2 (by rw [← lstr_at h2]; exact he2))
            clear he2 he'
            go_wp2_with fail
            go_quiet (fail)
            go_wp2_with fail
            go_quiet (fail)
            go_wp2_with fail
            go_roundw
            case rel => exact ⟨k + 2, by omega, by go_num, by unfold Hid; rw [HK.out, HN.out], ⟨hbel.os, hbel.tape, hbel.output, hbel.size, hbel.block⟩⟩
            case measure => simp [intOf]; omega
          · have q2 : ((s[k + 1].toNat : Int) != (s[0].toNat : Int)) = true := u8_neq (by rw [HQ.out]; exact he2)
            have HN := Lib.hid (quoAt_stop (l := s.data.toList) (k := k) hlt he' (by rintro ⟨_, h⟩; exact he2 (by rw [lstr_at h2]; exact h)))
            clear he2 he'
            go_wp2_with fail
            go_quiet (fail)
            go_wp2_with fail
            go_quiet (fail)
            go_wp2_with fail
            go_ret
            exact ⟨by rw [HK.out, HN.out]; rfl, ⟨hbel.os, hbel.tape, hbel.output, hbel.size, hbel.block⟩⟩
        · have d2 : ((k : Int) + 1 == (s.size : Int)) = true := by simp; omega
          have HN := Lib.hid (quoAt_stop (l := s.data.toList) (k := k) hlt he' (by rintro ⟨h, _⟩; omega))
          clear he'
          go_wp2_with fail
          go_quiet (fail)
          go_wp2_with fail
          go_quiet (fail)
          go_wp2_with fail
          go_ret
          exact ⟨by rw [HK.out, HN.out]; rfl, ⟨hbel.os, hbel.tape, hbel.output, hbel.size, hbel.block⟩⟩
      · have q1 : ((s[k].toNat : Int) != (s[0].toNat : Int)) = true := u8_neq (by rw [HQ.out]; exact he)
        have HN := Lib.hid (quoAt_other (q := q) (l := s.data.toList) (k := k) hlt (by rw [← HB.out]; exact he))
        clear he
        go_wp2_with fail
        go_quiet (fail)
        go_wp2_with fail
        go_roundw
        case rel => exact ⟨k + 1, by omega, by go_num, by unfold Hid; rw [HK.out, HN.out], ⟨hbel.os, hbel.tape, hbel.output, hbel.size, hbel.block⟩⟩
        case measure => simp [intOf]; omega
    · have HN := Lib.hid (quoAt_out (q := q) (l := s.data.toList) (k := k) hlt)
      go_wp2_with fail
      go_ret
      exact ⟨by rw [HK.out, HN.out]; rfl, hbel⟩

/-- the longest operator of at most k bytes at the head -/
def upTo (l : List UInt8) : Nat → Nat
  | 0 => 0
  | k + 1 => if signB (l.take (k + 1)) = true then k + 1 else upTo l k
theorem upTo_yes {l : List UInt8} {k : Nat} (h : 0 < k) (hs : signB (l.take k) = true) : upTo l k = k := by
  match k, h with
  | k + 1, _ => rw [upTo, if_pos hs]
theorem upTo_no {l : List UInt8} {k : Nat} (h : 0 < k) (hs : signB (l.take k) = false) : upTo l k = upTo l (k - 1) := by
  match k, h with
  | k + 1, _ => rw [upTo, if_neg (by rw [hs]; simp)]; rfl
theorem signLen_up (l : List UInt8) : signLen l = upTo l (min 2 l.length) := by
  unfold signLen
  by_cases h2 : 2 ≤ l.length
  · rw [Nat.min_eq_left h2]
    by_cases hs : signB (l.take 2) = true
    · rw [if_pos ⟨h2, hs⟩, upTo, if_pos hs]
    · rw [if_neg (fun h => hs h.2), upTo, if_neg hs]
      by_cases hs1 : signB (l.take 1) = true
      · rw [if_pos ⟨by omega, hs1⟩, upTo, if_pos hs1]
      · rw [if_neg (fun h => hs1 h.2), upTo, if_neg hs1]; rfl
  · rw [if_neg (fun h => h2 h.1)]
    by_cases h1 : 1 ≤ l.length
    · rw [show min 2 l.length = 1 by omega]
      by_cases hs1 : signB (l.take 1) = true
      · rw [if_pos ⟨h1, hs1⟩, upTo, if_pos hs1]
      · rw [if_neg (fun h => hs1 h.2), upTo, if_neg hs1]; rfl
    · rw [if_neg (fun h => h1 h.1), show min 2 l.length = 0 by omega]; rfl
theorem ext_pre (s : ByteArray) (n : Nat) : (s.extract 0 n).data.toList = s.data.toList.take n := by rw [Lib.extract_data]; simp

set_option maxRecDepth 100000 in
set_option maxHeartbeats 1600000 in
theorem signSize_impl (s : ByteArray) (w : World) (hs : s.size ≤ 4000000) :
    Calls Tryd.prog 66 #[.string s] w (PureE (.int .i64 (signLen s.data.toList : Nat)) w) := by
  have hlen : s.data.toList.length = s.size := rfl
  have hE := Lib.hid (signLen_up s.data.toList)
  have hm : min (2 : Int) (s.size : Int) = ((min 2 s.size : Nat) : Int) := by omega
  go_enter Tryd.func66, Tryd.ntmps66
  go_wp2_with fail
  go_loopw [3] (fun i wr => ∃ k : Nat, k ≤ 2 ∧ k ≤ s.size ∧ i = .int .i64 (k : Int) ∧ Hid (signLen s.data.toList = upTo s.data.toList k) ∧ wr = w) (fun i _ => (intOf i).toNat)
  case atStart => exact ⟨min 2 s.size, by omega, by omega, rfl, hE.out, rfl⟩
  case round =>
    obtain ⟨k, hk2, hk, rfl, HK, rfl⟩ := hrel
    by_cases h0 : 0 < k
    · have d0 : decide ((0 : Int) < (k : Int)) = true := by simpa using h0
      have hki : (k : Int) ≤ (s.size : Int) := by omega
      have hS := fun w => signOk_impl (s.extract 0 k) w
      rw [ext_pre] at hS
      have hy := upTo_yes (l := s.data.toList) h0
      have hn := upTo_no (l := s.data.toList) h0
      generalize signB (s.data.toList.take k) = b at hS hy hn
      cases b
      · have HN := Lib.hid (hn rfl)
        clear hn hy
        go_wp2_with fail
        refine (hS _).mono ?_
        rintro e w1 ⟨rfl, rfl⟩
        go_wp2_with fail
        go_roundw
        case rel => exact ⟨k - 1, by omega, by omega, by congr 1; omega, by unfold Hid; rw [HK.out, HN.out], trivial⟩
        case measure => simp [intOf]; omega
      · have HN := Lib.hid (hy rfl)
        clear hn hy
        go_wp2_with fail
        refine (hS _).mono ?_
        rintro e w1 ⟨rfl, rfl⟩
        go_wp2_with fail
        go_ret
        exact ⟨by rw [HK.out, HN.out]; rfl, rfl⟩
    · have hk0 : k = 0 := by omega
      subst hk0
      go_wp2_with fail
      go_ret
      exact ⟨by rw [HK.out]; rfl, rfl⟩
end Go.Proofs.YtcadoplfgclbjaaDoor
