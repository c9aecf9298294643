
/- The element with which a text begins: a token, a gap, or nothing; the lexer as steps over elements. No program. -/
import Derived.Test.YtcadoplfgclbjaaLexMath2
import Derived.Test.YtcadoplfgclbjaaQuoteMath
namespace Go.Proofs.Ytcadoplfgclbjaa
open Go.RowKit
open Go.Lib (count index replaceK replaceAll)

theorem getD_drop (l : List UInt8) (a j : Nat) : (l.drop a).getD j 0 = l.getD (a + j) 0 := by simp [List.getD_eq_getElem?_getD]
theorem is2_drop (l : List UInt8) (a j : Nat) (x y : UInt8) : is2 (l.drop a) j x y = is2 l (a + j) x y := by
  unfold is2
  rw [getD_drop, getD_drop, List.length_drop, show a + (j + 1) = a + j + 1 by omega, decide_eq_decide.2 (show (j + 1 < l.length - a ↔ a + j + 1 < l.length) by omega)]
theorem line_drop (l : List UInt8) (a : Nat) : ∀ (n j : Nat), l.length - (a + j) ≤ n → lineEnd l (a + j) = a + lineEnd (l.drop a) j
  | 0, j, h => by rw [line_out (by omega), line_out (by rw [List.length_drop]; omega)]
  | n + 1, j, h => by
    have hl : (l.drop a).length = l.length - a := List.length_drop
    by_cases h1 : a + j < l.length
    · by_cases hb : l.getD (a + j) 0 = 10
      · rw [line_stop h1 hb, line_stop (l := l.drop a) (k := j) (by omega) (by rw [getD_drop]; exact hb)]
      · rw [line_on h1 hb, line_on (l := l.drop a) (k := j) (by omega) (by rw [getD_drop]; exact hb)]
        exact line_drop l a n (j + 1) (by omega)
    · rw [line_out h1, line_out (by omega)]
theorem close_drop (l : List UInt8) (a : Nat) : ∀ (n j : Nat), l.length - (a + j) ≤ n → closeAt l (a + j) = a + closeAt (l.drop a) j
  | 0, j, h => by rw [close_out (by omega), close_out (by rw [List.length_drop]; omega)]
  | n + 1, j, h => by
    have hl : (l.drop a).length = l.length - a := List.length_drop
    by_cases h1 : a + j < l.length
    · cases hb : is2 l (a + j) 42 47
      · rw [close_on h1 hb, close_on (l := l.drop a) (k := j) (by omega) (by rw [is2_drop]; exact hb)]
        exact close_drop l a n (j + 1) (by omega)
      · rw [close_stop h1 hb, close_stop (l := l.drop a) (k := j) (by omega) (by rw [is2_drop]; exact hb)]
    · rw [close_out h1, close_out (by omega)]
theorem run_drop (l : List UInt8) (a : Nat) : ∀ (n j : Nat), l.length - (a + j) ≤ n → runEnd l (a + j) = a + runEnd (l.drop a) j
  | 0, j, h => by rw [runEnd_out (by omega), runEnd_out (by rw [List.length_drop]; omega)]
  | n + 1, j, h => by
    have hl : (l.drop a).length = l.length - a := List.length_drop
    by_cases h1 : a + j < l.length
    · cases hb : wd ((l.getD (a + j) 0).toNat : Int)
      · rw [runEnd_no h1 hb, runEnd_no (l := l.drop a) (k := j) (by omega) (by rw [getD_drop]; exact hb)]
      · rw [runEnd_yes h1 hb, runEnd_yes (l := l.drop a) (k := j) (by omega) (by rw [getD_drop]; exact hb)]
        exact run_drop l a n (j + 1) (by omega)
    · rw [runEnd_out h1, runEnd_out (by omega)]
theorem quo_drop (q : UInt8) (l : List UInt8) (a : Nat) : ∀ (n j : Nat), l.length - (a + j) ≤ n → quo q l (a + j) = (quo q (l.drop a) j).map (fun r => (r.1, a + r.2))
  | 0, j, h => by rw [quo_out (by omega), quo_out (by rw [List.length_drop]; omega)]; rfl
  | n + 1, j, h => by
    have hl : (l.drop a).length = l.length - a := List.length_drop
    by_cases h1 : a + j < l.length
    · by_cases h2 : l.getD (a + j) 0 = q
      · by_cases h3 : a + j + 1 < l.length ∧ l.getD (a + j + 1) 0 = q
        · rw [quo_two h1 h2 h3.1 h3.2, quo_two (l := l.drop a) (k := j) (by omega) (by rw [getD_drop]; exact h2) (by omega) (by rw [getD_drop]; exact h3.2), show a + j + 2 = a + (j + 2) by omega, quo_drop q l a n (j + 2) (by omega)]
          simp [Option.map_map, Function.comp_def]
        · rw [quo_stop h1 h2 h3, quo_stop (l := l.drop a) (k := j) (by omega) (by rw [getD_drop]; exact h2) (by rw [getD_drop]; intro h; exact h3 ⟨by omega, h.2⟩)]
          rfl
      · rw [quo_other h1 h2, quo_other (l := l.drop a) (k := j) (by omega) (by rw [getD_drop]; exact h2), show a + j + 1 = a + (j + 1) by omega, quo_drop q l a n (j + 1) (by omega), getD_drop]
        simp [Option.map_map, Function.comp_def]
    · rw [quo_out (by omega), quo_out (l := l.drop a) (k := j) (by omega)]; rfl
theorem sl_drop (l : List UInt8) (a n : Nat) : sl (l.drop a) 0 n = sl l a (a + n) := by
  unfold sl
  rw [List.drop_zero, Nat.sub_zero, Nat.add_sub_cancel_left]

/-- how long an operator at the head is -/
def signLen (l : List UInt8) : Nat := if 2 ≤ l.length ∧ signB (l.take 2) = true then 2 else if 1 ≤ l.length ∧ signB (l.take 1) = true then 1 else 0
/-- a string or a name in quotes at the head -/
def quoL (q : UInt8) (l : List UInt8) : Nat := match quo q l 1 with
  | some r => r.2
  | none => 0
def quoT (q : UInt8) (l : List UInt8) : List UInt8 := match quo q l 1 with
  | some r => r.1
  | none => []
def quoK (q : UInt8) (k : Int) (l : List UInt8) : Int := match quo q l 1 with
  | some _ => k
  | none => 0
def longLen (l : List UInt8) : Nat := if closeAt l 2 < l.length then closeAt l 2 + 2 else 0
/-- the element at the head: its kind (0: a gap), its text, its length (0: there is none) -/
def el (l : List UInt8) : Int × List UInt8 × Nat :=
  if spB (l.getD 0 0) then (0, [], 1)
  else if is2 l 0 45 45 then (0, [], lineEnd l 0)
  else if is2 l 0 47 42 then (0, [], longLen l)
  else if dg ((l.getD 0 0).toNat : Int) then (3, sl l 0 (runEnd l 0), runEnd l 0)
  else if wd ((l.getD 0 0).toNat : Int) then
    (if 0 < numOf (upL (sl l 0 (runEnd l 0))) then (1, upL (sl l 0 (runEnd l 0)), runEnd l 0) else (2, sl l 0 (runEnd l 0), runEnd l 0))
  else if l.getD 0 0 = 34 then (quoK 34 2 l, quoT 34 l, quoL 34 l)
  else if l.getD 0 0 = 39 then (quoK 39 4 l, quoT 39 l, quoL 39 l)
  else (5, l.take (signLen l), signLen l)

theorem lexF_congr {l : List UInt8} {a b : Nat} (h : pass l a = pass l b) : lexF l a = lexF l b := by
  by_cases h0 : pass l a < 0
  · rw [lexF_bad h0, lexF_bad (l := l) (a := b) (by rw [← h]; exact h0), h]
  · obtain ⟨p, hp⟩ := Int.eq_ofNat_of_zero_le (show 0 ≤ pass l a by omega)
    by_cases hpl : p < l.length
    · rcases ho : one l p with _ | ⟨t, e⟩
      · rw [lexF_none hp hpl ho, lexF_none (l := l) (a := b) (by rw [← h]; exact hp) hpl ho]
      · rw [lexF_some hp hpl ho, lexF_some (l := l) (a := b) (by rw [← h]; exact hp) hpl ho]
    · rw [lexF_end hp hpl, lexF_end (l := l) (a := b) (by rw [← h]; exact hp) hpl]

/-- what the lexer does with the element at a -/
def stepE (l : List UInt8) (a : Nat) (x : Int × List UInt8 × Nat) : Except Nat (List Tk) :=
  if x.2.2 = 0 then .error a
  else if x.1 = 0 then lexF l (a + x.2.2)
  else if tokOk x.1 x.2.1 = false then .error a
  else (lexF l (a + x.2.2)).map fun L => ⟨x.1, x.2.1, a⟩ :: L

theorem lex_tok {l : List UInt8} {a : Nat} {k : Int} {t : List UInt8} {n : Nat} (hp : pass l a = (a : Int)) (ha : a < l.length) (hn : n ≠ 0) (hk : k ≠ 0) (hr : raw l a = some (⟨k, t, a⟩, a + n)) : lexF l a = stepE l a (k, t, n) := by
  unfold stepE
  rw [if_neg hn, if_neg hk]
  cases h : tokOk k t
  · rw [if_pos rfl, lexF_none hp ha (by rw [one_raw hr, if_neg (by rw [h]; simp)])]
  · rw [if_neg (by simp), lexF_some hp ha (by rw [one_raw hr, if_pos h])]
theorem lex_none {l : List UInt8} {a : Nat} {k : Int} {t : List UInt8} (hp : pass l a = (a : Int)) (ha : a < l.length) (ho : one l a = none) : lexF l a = stepE l a (k, t, 0) := by
  unfold stepE
  rw [if_pos rfl, lexF_none hp ha ho]
theorem lex_gap {l : List UInt8} {a n : Nat} (hn : n ≠ 0) (hp : pass l a = pass l (a + n)) : lexF l a = stepE l a (0, [], n) := by
  unfold stepE
  rw [if_neg hn, if_pos rfl]
  exact lexF_congr hp
theorem let_wd {l : List UInt8} {a : Nat} : wd ((l.getD a 0).toNat : Int) = (let1 l a || dg ((l.getD a 0).toNat : Int)) := by
  unfold let1; rw [lwd_eq]
theorem runEnd_lt {l : List UInt8} {a : Nat} (h : a < l.length) (hw : wd ((l.getD a 0).toNat : Int) = true) : a + 1 ≤ runEnd l a := by
  rw [runEnd_yes h hw]; exact runEnd_ge l _ (a + 1) rfl
theorem sl_one {l : List UInt8} {a n : Nat} : sl l a (a + n) = (l.drop a).take n := by unfold sl; rw [Nat.add_sub_cancel_left]

theorem lex_el (l : List UInt8) (a : Nat) (ha : a < l.length) : lexF l a = stepE l a (el (l.drop a)) := by
  have hg : ∀ j, (l.drop a).getD j 0 = l.getD (a + j) 0 := getD_drop l a
  have hg0 : (l.drop a).getD 0 0 = l.getD a 0 := by rw [hg]; rfl
  have hi : ∀ x y, is2 (l.drop a) 0 x y = is2 l a x y := fun x y => by rw [is2_drop]; rfl
  have hl : (l.drop a).length = l.length - a := List.length_drop
  have hR : runEnd l a = a + runEnd (l.drop a) 0 := run_drop l a _ 0 (Nat.le_refl _)
  have hS : sl (l.drop a) 0 (runEnd (l.drop a) 0) = sl l a (runEnd l a) := by rw [sl_drop, hR]
  unfold el
  rw [hg0, hi, hi, hS]
  cases h1 : spB (l.getD a 0)
  · rw [if_neg (by simp)]
    cases h2 : is2 l a 45 45
    · rw [if_neg (by simp)]
      cases h3 : is2 l a 47 42
      · rw [if_neg (by simp)]
        have hp := pass_stop ha h1 h2 h3
        cases h4 : dg ((l.getD a 0).toNat : Int)
        · rw [if_neg (by simp)]
          cases h5 : wd ((l.getD a 0).toNat : Int)
          · rw [if_neg (by simp)]
            have h6 : let1 l a = false := by
              have := let_wd (l := l) (a := a)
              rw [h5, h4, Bool.or_false] at this
              exact this.symm
            have hq : ∀ q, quo q l (a + 1) = (quo q (l.drop a) 1).map (fun r => (r.1, a + r.2)) := fun q => quo_drop q l a _ 1 (Nat.le_refl _)
            by_cases h7 : l.getD a 0 = 34
            · rw [if_pos h7]
              have hr := raw_q34 h6 h4 h7
              rw [hq] at hr
              unfold quoK quoT quoL
              rcases he : quo 34 (l.drop a) 1 with _ | r
              · rw [he] at hr
                exact lex_none hp ha (one_no hr)
              · rw [he] at hr
                have := quo_end 34 _ _ 1 (Nat.le_refl _) r he
                exact lex_tok hp ha (show r.2 ≠ 0 by omega) (by simp) hr
            · rw [if_neg h7]
              by_cases h8 : l.getD a 0 = 39
              · rw [if_pos h8]
                have hr := raw_q39 h6 h4 h7 h8
                rw [hq] at hr
                unfold quoK quoT quoL
                rcases he : quo 39 (l.drop a) 1 with _ | r
                · rw [he] at hr
                  exact lex_none hp ha (one_no hr)
                · rw [he] at hr
                  have := quo_end 39 _ _ 1 (Nat.le_refl _) r he
                  exact lex_tok hp ha (show r.2 ≠ 0 by omega) (by simp) hr
              · rw [if_neg h8]
                unfold signLen
                rw [hl]
                by_cases h9 : 2 ≤ l.length - a ∧ signB ((l.drop a).take 2) = true
                · rw [if_pos h9]
                  have hr := raw_two h6 h4 h7 h8 ⟨by omega, by rw [sl_one]; exact h9.2⟩
                  rw [sl_one] at hr
                  exact lex_tok hp ha (by omega) (by simp) hr
                · rw [if_neg h9]
                  have hr := raw_one h6 h4 h7 h8 (fun h => h9 ⟨by omega, by rw [← sl_one]; exact h.2⟩)
                  rw [sl_one] at hr
                  by_cases h10 : 1 ≤ l.length - a ∧ signB ((l.drop a).take 1) = true
                  · rw [if_pos h10]
                    exact lex_tok hp ha (by omega) (by simp) hr
                  · rw [if_neg h10]
                    refine lex_none hp ha ?_
                    rw [one_raw hr, if_neg]
                    show ¬ signB ((l.drop a).take 1) = true
                    exact fun h => h10 ⟨by omega, h⟩
          · rw [if_pos rfl]
            have h6 : let1 l a = true := by
              have := let_wd (l := l) (a := a)
              rw [h5, h4, Bool.or_false] at this
              exact this.symm
            have hlt := runEnd_lt ha h5
            by_cases h7 : 0 < numOf (upL (sl l a (runEnd l a)))
            · rw [if_pos h7]
              exact lex_tok hp ha (by omega) (by simp) (by rw [raw_key h6 h7, ← hR])
            · rw [if_neg h7]
              exact lex_tok hp ha (by omega) (by simp) (by rw [raw_name h6 h7, ← hR])
        · rw [if_pos rfl]
          have h5 : wd ((l.getD a 0).toNat : Int) = true := by rw [let_wd, h4, Bool.or_true]
          have hlt := runEnd_lt ha h5
          have h6 : let1 l a = false := by
            unfold let1 ltr
            unfold dg at h4
            simp only [Bool.and_eq_true, decide_eq_true_eq] at h4
            generalize ((l.getD a 0).toNat : Int) = n at h4
            simp
            omega
          exact lex_tok hp ha (by omega) (by simp) (by rw [raw_num h6 h4, ← hR])
      · rw [if_pos rfl]
        have hc : closeAt l (a + 2) = a + closeAt (l.drop a) 2 := close_drop l a _ 2 (Nat.le_refl _)
        have hp := pass_long ha h1 h2 h3
        unfold longLen
        rw [hl]
        by_cases h4 : closeAt (l.drop a) 2 < l.length - a
        · rw [if_pos h4]
          refine lex_gap (by omega) ?_
          rw [hp, hc, if_pos (by omega)]
          rfl
        · rw [if_neg h4]
          rw [hc, if_neg (by omega)] at hp
          unfold stepE
          rw [if_pos rfl, lexF_bad (by omega), hp]
          congr 1
          omega
    · rw [if_pos rfl]
      have hL : lineEnd l a = a + lineEnd (l.drop a) 0 := line_drop l a _ 0 (Nat.le_refl _)
      have := line_two h2
      refine lex_gap (by omega) ?_
      rw [pass_line ha h1 h2, hL]
  · rw [if_pos rfl]
    exact lex_gap (by omega) (pass_sp ha h1)

theorem signLen_le (l : List UInt8) : signLen l ≤ l.length := by
  unfold signLen
  split
  · rename_i h; exact h.1
  · split
    · rename_i h; exact h.1
    · omega
theorem quoL_le (q : UInt8) (l : List UInt8) : quoL q l ≤ l.length := by
  unfold quoL
  rcases h : quo q l 1 with _ | r
  · exact Nat.zero_le _
  · exact (quo_end q l _ 1 (Nat.le_refl _) r h).2
theorem longLen_le (l : List UInt8) : longLen l ≤ l.length := by
  unfold longLen
  split
  · rename_i h; exact closeAt_two _ 2 rfl h
  · omega
/-- an element ends within the text -/
theorem el_le (l : List UInt8) (h : 0 < l.length) : (el l).2.2 ≤ l.length := by
  have h1 := lineEnd_le l _ 0 rfl (by omega)
  have h2 := runEnd_le l _ 0 rfl (by omega)
  have h3 := signLen_le l
  have h4 := quoL_le 34 l
  have h5 := quoL_le 39 l
  have h6 := longLen_le l
  unfold el
  split
  · exact h
  · split
    · exact h1
    · split
      · exact h6
      · split
        · exact h2
        · split
          · split <;> exact h2
          · split
            · exact h4
            · split
              · exact h5
              · exact h3

theorem quoT_le (q : UInt8) (l : List UInt8) : (quoT q l).length ≤ l.length := by
  unfold quoT
  rcases h : quo q l 1 with _ | r
  · exact Nat.zero_le _
  · have := quo_end q l _ 1 (Nat.le_refl _) r h
    show r.1.length ≤ _
    omega
/-- no text is longer than what it was read from -/
theorem el_text (l : List UInt8) : (el l).2.1.length ≤ l.length := by
  have h2 := sl_len l 0 (runEnd l 0)
  have h4 := quoT_le 34 l
  have h5 := quoT_le 39 l
  unfold el
  split
  · exact Nat.zero_le _
  · split
    · exact Nat.zero_le _
    · split
      · exact Nat.zero_le _
      · split
        · exact h2
        · split
          · split
            · show (upL _).length ≤ _
              unfold upL; rw [List.length_map]; exact h2
            · exact h2
          · split
            · exact h4
            · split
              · exact h5
              · show (l.take _).length ≤ _
                rw [List.length_take]; omega

/-- what strings.IndexByte finds -/
theorem line_index (l : List UInt8) : lineEnd l 0 = if 0 ≤ Lib.indexByte l 10 then (Lib.indexByte l 10).toNat else l.length := by
  induction l with
  | nil => rw [line_out (by simp)]; rfl
  | cons b l ih =>
    have hge := Lib.indexByte_ge l 10
    have hd : lineEnd (b :: l) (1 + 0) = 1 + lineEnd ((b :: l).drop 1) 0 := line_drop (b :: l) 1 _ 0 (Nat.le_refl _)
    by_cases h : b = 10
    · subst h
      rw [line_stop (by simp) rfl]
      rfl
    · rw [line_on (by simp) (by simpa using h), show 0 + 1 = 1 + 0 from rfl, hd]
      show 1 + lineEnd l 0 = _
      have hcons : Lib.indexByte (b :: l) 10 = if Lib.indexByte l 10 == -1 then -1 else Lib.indexByte l 10 + 1 := by
        show (if b == 10 then (0 : Int) else if Lib.indexByte l 10 == -1 then -1 else Lib.indexByte l 10 + 1) = _
        rw [if_neg (by simpa using h)]
      rw [ih, hcons]
      by_cases h2 : Lib.indexByte l 10 = -1
      · rw [h2]
        show 1 + l.length = l.length + 1
        omega
      · have h3 : ¬ (Lib.indexByte l 10 == -1) = true := by simpa using h2
        rw [if_neg h3, if_pos (by omega), if_pos (by omega)]; omega

theorem pre_two (l : List UInt8) (x y : UInt8) : Lib.hasPrefix l [x, y] = is2 l 0 x y := by
  unfold Lib.hasPrefix is2
  match l with
  | [] => rfl
  | [a] => simp [List.isPrefixOf]
  | a :: b :: t =>
    simp only [List.isPrefixOf, List.length_cons, List.getD_cons_zero, List.getD_cons_succ, Bool.and_true]
    rw [show (decide (0 + 1 < t.length + 1 + 1)) = true by simp, Bool.true_and, Bool.beq_comm, Bool.beq_comm (a := y)]
/-- what strings.Index finds -/
theorem close_index (l : List UInt8) : Lib.index l [42, 47] = if closeAt l 0 < l.length then (closeAt l 0 : Int) else -1 := by
  induction l with
  | nil => rw [close_out (by simp)]; rfl
  | cons b l ih =>
    have hd : closeAt (b :: l) (1 + 0) = 1 + closeAt ((b :: l).drop 1) 0 := close_drop (b :: l) 1 _ 0 (Nat.le_refl _)
    have hp : ([42, 47] : List UInt8).isPrefixOf (b :: l) = is2 (b :: l) 0 42 47 := pre_two (b :: l) 42 47
    unfold Lib.index
    rw [hp]
    cases h : is2 (b :: l) 0 42 47
    · rw [if_neg (by simp), close_on (by simp) h, show 0 + 1 = 1 + 0 from rfl, hd]
      show (if Lib.index l [42, 47] == -1 then (-1 : Int) else Lib.index l [42, 47] + 1) = if 1 + closeAt l 0 < (b :: l).length then ((1 + closeAt l 0 : Nat) : Int) else -1
      rw [ih, List.length_cons]
      by_cases h2 : closeAt l 0 < l.length
      · have e1 : ¬ (((closeAt l 0 : Nat) : Int) == -1) = true := by rw [beq_iff_eq]; omega
        rw [if_pos h2, if_neg e1, if_pos (by omega)]; omega
      · rw [if_neg h2, if_pos (show ((-1 : Int) == -1) = true from rfl), if_neg (by omega)]
    · rw [if_pos rfl, close_stop (by simp) h, if_pos (by simp)]; rfl
theorem long_index (l : List UInt8) (h : 2 ≤ l.length) : (Lib.index (l.drop 2) [42, 47] < 0 ∧ longLen l = 0) ∨ (∃ m : Nat, Lib.index (l.drop 2) [42, 47] = (m : Int) ∧ longLen l = 2 + m + 2) := by
  have hc : closeAt l (2 + 0) = 2 + closeAt (l.drop 2) 0 := close_drop l 2 _ 0 (Nat.le_refl _)
  have hc2 : closeAt l 2 = 2 + closeAt (l.drop 2) 0 := hc
  rw [close_index, List.length_drop]
  unfold longLen
  rw [hc2]
  by_cases h2 : closeAt (l.drop 2) 0 < l.length - 2
  · rw [if_pos h2, if_pos (by omega)]
    exact .inr ⟨_, rfl, by omega⟩
  · rw [if_neg h2, if_neg (by omega)]
    exact .inl ⟨by omega, rfl⟩

theorem unq_skip {b q : UInt8} (h : b ≠ q) (m : List UInt8) : replaceK [q, q] [q] (count (b :: m) [q, q]) (b :: m) = b :: replaceK [q, q] [q] (count m [q, q]) m := by
  have hi : index (b :: m) [q, q] = if index m [q, q] == -1 then -1 else index m [q, q] + 1 := by
    have : ¬ q = b := fun e => h e.symm
    simp [index, List.isPrefixOf, this]
  have hge := Lib.index_ge m [q, q]
  by_cases hm : index m [q, q] = -1
  · rw [hm] at hi
    rw [Lib.count_miss hm, Lib.count_miss hi]
    rfl
  · have e1 : ¬ (index m [q, q] == -1) = true := by simpa using hm
    rw [if_neg e1] at hi
    obtain ⟨i, hi2⟩ := Int.eq_ofNat_of_zero_le (show 0 ≤ index m [q, q] by omega)
    have hi2 : index m [q, q] = ((i : Nat) : Int) := hi2
    have hi3 : index (b :: m) [q, q] = ((i + 1 : Nat) : Int) := by rw [hi, hi2]; rfl
    rw [Lib.count_hit (by simp) hi2, Lib.count_hit (by simp) hi3, Nat.add_comm 1, Nat.add_comm 1, Lib.replaceK_hit _ _ _ _ _ hi2, Lib.replaceK_hit _ _ _ _ _ hi3]
    rw [show i + 1 + ([q, q] : List UInt8).length = (i + ([q, q] : List UInt8).length) + 1 by omega]
    simp
theorem unq_two (q : UInt8) (m : List UInt8) : replaceK [q, q] [q] (count (q :: q :: m) [q, q]) (q :: q :: m) = q :: replaceK [q, q] [q] (count m [q, q]) m := by
  have hi : index (q :: q :: m) [q, q] = ((0 : Nat) : Int) := by simp [index, List.isPrefixOf]
  rw [Lib.count_hit (by simp) hi, Nat.add_comm 1, Lib.replaceK_hit _ _ _ _ _ hi]
  simp
theorem sl_cons {l : List UInt8} {i e : Nat} (h : i < l.length) (he : i < e) : sl l i e = l.getD i 0 :: sl l (i + 1) e := by
  unfold sl
  rw [List.drop_eq_getElem_cons h, show e - i = (e - (i + 1)) + 1 by omega, List.take_succ_cons]
  congr 1
  rw [List.getD_eq_getElem?_getD, List.getElem?_eq_getElem h]; rfl
theorem quo_unq (q : UInt8) (l : List UInt8) : ∀ (n i : Nat) (r : List UInt8 × Nat), l.length - i ≤ n → quo q l i = some r → replaceK [q, q] [q] (count (sl l i (r.2 - 1)) [q, q]) (sl l i (r.2 - 1)) = r.1
  | 0, i, r, hn, h => by rw [quo_out (by omega)] at h; cases h
  | n + 1, i, r, hn, h => by
    by_cases h1 : i < l.length
    · by_cases h2 : l.getD i 0 = q
      · by_cases h3 : i + 1 < l.length ∧ l.getD (i + 1) 0 = q
        · rw [quo_two h1 h2 h3.1 h3.2] at h
          obtain ⟨r', hr, rfl⟩ := Option.map_eq_some_iff.1 h
          have he := quo_end q l _ (i + 2) (Nat.le_refl _) r' hr
          show replaceK [q, q] [q] (count (sl l i (r'.2 - 1)) [q, q]) (sl l i (r'.2 - 1)) = q :: r'.1
          rw [sl_cons h1 (by omega), sl_cons h3.1 (by omega), h2, h3.2, unq_two, quo_unq q l n (i + 2) r' (by omega) hr]
        · rw [quo_stop h1 h2 h3] at h
          cases h
          show replaceK [q, q] [q] (count (sl l i (i + 1 - 1)) [q, q]) (sl l i (i + 1 - 1)) = []
          have e : sl l i (i + 1 - 1) = [] := by unfold sl; simp
          rw [e, Lib.count_miss (by rfl)]; rfl
      · rw [quo_other h1 h2] at h
        obtain ⟨r', hr, rfl⟩ := Option.map_eq_some_iff.1 h
        have he := quo_end q l _ (i + 1) (Nat.le_refl _) r' hr
        show replaceK [q, q] [q] (count (sl l i (r'.2 - 1)) [q, q]) (sl l i (r'.2 - 1)) = l.getD i 0 :: r'.1
        rw [sl_cons h1 (by omega), unq_skip h2, quo_unq q l n (i + 1) r' (by omega) hr]
    · rw [quo_out h1] at h; cases h
theorem replaceAll_unq {q : UInt8} {l : List UInt8} {r : List UInt8 × Nat} (h : quo q l 1 = some r) : replaceAll (sl l 1 (r.2 - 1)) [q, q] [q] = r.1 := by
  unfold replaceAll Lib.replace Lib.replaceNum
  rw [if_neg (by simp), if_pos (Or.inl (by omega))]
  exact quo_unq q l _ 1 r (Nat.le_refl _) h
end Go.Proofs.Ytcadoplfgclbjaa
