
/- What is written with blanks where they are asked for is read as the same tokens; where one is asked for, the two tokens without it are others; a text written anew is no longer. No program. -/
import Derived.Test.YtcadoplfgclbjaaSpaceMath
namespace Go.Proofs.Ytcadoplfgclbjaa
open Go.RowKit

def keyT (x : Tk) : Int × List UInt8 := (x.k, x.t)
/-- the tokens' texts one behind the other, with blanks -/
def spL (all : Bool) : List (Int × List UInt8) → List UInt8
  | [] => []
  | [a] => tokTextL a.1 a.2
  | a :: b :: r => tokTextL a.1 a.2 ++ ((if all || gapB a.1 a.2 b.1 b.2 then [32] else []) ++ spL all (b :: r))

theorem wd_not2 {b : UInt8} (h : wd (b.toNat : Int) = true) : b ≠ 42 ∧ b ≠ 61 ∧ b ≠ 62 := by
  have hnb : ∀ c : UInt8, wd (c.toNat : Int) = false → ¬ b = c := fun c hc e => by rw [e, hc] at h; cases h
  exact ⟨hnb 42 (by decide), hnb 61 (by decide), hnb 62 (by decide)⟩
theorem joins_word {k : Int} {t : List UInt8} {b : UInt8} (h4 : k ≠ 4) (h5 : k ≠ 5) (hq : quotB k t = false) : joins k t b = wd (b.toNat : Int) := by
  unfold joins; rw [if_neg h5, if_neg h4, if_no hq]
theorem joins_q {t : List UInt8} {b : UInt8} (hq : quotB 2 t = true) : joins 2 t b = decide (b = 34) := by
  unfold joins; rw [if_neg (by decide), if_neg (by decide), if_pos hq]
theorem joins_t {t : List UInt8} {b : UInt8} : joins 4 t b = decide (b = 39) := by
  unfold joins; rw [if_neg (by decide), if_pos rfl]
theorem joins_s {t : List UInt8} {b : UInt8} : joins 5 t b = ((decide (t = [45]) && decide (b = 45)) || (decide (t = [47]) && decide (b = 42)) || (decide (t = [60]) && (decide (b = 61) || decide (b = 62))) || (decide (t = [62]) && decide (b = 61))) := by
  unfold joins; rw [if_pos rfl]
/-- a byte of a word joins a word alone -/
theorem joins_wd {k : Int} {t : List UInt8} {b : UInt8} (hb : wd (b.toNat : Int) = true) : joins k t b = (if k = 5 then false else if k = 4 then false else if quotB k t then false else true) := by
  obtain ⟨n1, n2, n3, n4, n5⟩ := wd_not hb
  obtain ⟨m1, m2, m3⟩ := wd_not2 hb
  unfold joins
  split
  · simp [n2, m1, m2, m3]
  · split
    · simp [n5]
    · split
      · simp [n4]
      · exact hb
theorem joins_blank (k : Int) (t : List UInt8) : joins k t 32 = false := by
  unfold joins
  split
  · simp
  · split
    · decide
    · split
      · decide
      · decide
theorem txt_pos {k : Int} {t : List UInt8} (h : tokOk k t = true) : 0 < (tokTextL k t).length := by
  rcases tok_forms h with ⟨_, _, _, _, hw⟩ | ⟨rfl, _, _, ht⟩ | ⟨rfl, ht⟩ | ⟨rfl, hs, ht⟩
  · rw [hw.txt]; exact (word_first hw).1
  · rw [ht]; simp [quoted]
  · rw [ht]; simp [quoted]
  · rw [ht]
    rcases signB_cases hs with h | h | h | h | h | h | h | h | h | h | h | h | h | h | h | h <;> (subst h; decide)
theorem kind_pos {k : Int} {t : List UInt8} (h : tokOk k t = true) : k ≠ 0 := by
  intro e; subst e; cases h
/-- a blank is asked for just where the first byte of the one would be read as a part of the other -/
theorem gap_joins {k k' : Int} {t t' : List UInt8} (h : tokOk k t = true) (h' : tokOk k' t' = true) : gapB k t k' t' = joins k t ((tokTextL k' t').getD 0 0) := by
  have g : gapB k t k' t' = (if (wrdB k t && wrdB k' t') || (decide (k = 4) && decide (k' = 4)) || (quotB k t && quotB k' t') then true else if decide (k = 5) && decide (k' = 5) then signGap t t' else false) := by
    unfold gapB; rw [h, h']; rfl
  rw [g]
  have sq : ∀ {s : List UInt8}, signB s = true → wd ((s.getD 0 0).toNat : Int) = false ∧ s.getD 0 0 ≠ 34 ∧ s.getD 0 0 ≠ 39 := fun hs => by
    rcases signB_cases hs with h | h | h | h | h | h | h | h | h | h | h | h | h | h | h | h <;> (subst h; decide)
  rcases tok_forms h with ⟨a1, a2, a4, a5, aw⟩ | ⟨rfl, a1, a2, at'⟩ | ⟨rfl, at'⟩ | ⟨rfl, asg, at'⟩
  · rw [joins_word a4 a5 a2, a1, a2, decide_eq_false a4, decide_eq_false a5]
    rcases tok_forms h' with ⟨b1, b2, b4, b5, bw⟩ | ⟨rfl, b1, b2, bt⟩ | ⟨rfl, bt⟩ | ⟨rfl, bs, bt⟩
    · rw [bw.txt, b1, (word_first bw).2]; rfl
    · rw [bt, b1]; rfl
    · rw [bt]; rfl
    · rw [bt, (sq bs).1]; rfl
  · rw [joins_q a2, a1, a2]
    rcases tok_forms h' with ⟨b1, b2, b4, b5, bw⟩ | ⟨rfl, b1, b2, bt⟩ | ⟨rfl, bt⟩ | ⟨rfl, bs, bt⟩
    · rw [bw.txt, b1, b2, decide_eq_false (wd_not (word_first bw).2).2.2.2.1]; rfl
    · rw [bt, b1, b2]; rfl
    · rw [bt]; rfl
    · rw [bt, decide_eq_false (sq bs).2.1]; rfl
  · rw [joins_t]
    rcases tok_forms h' with ⟨b1, b2, b4, b5, bw⟩ | ⟨rfl, b1, b2, bt⟩ | ⟨rfl, bt⟩ | ⟨rfl, bs, bt⟩
    · rw [bw.txt, b1, b2, decide_eq_false b4, decide_eq_false b5, decide_eq_false (wd_not (word_first bw).2).2.2.2.2]; rfl
    · rw [bt]; rfl
    · rw [bt]; rfl
    · rw [bt, decide_eq_false (sq bs).2.2]; rfl
  · rcases tok_forms h' with ⟨b1, b2, b4, b5, bw⟩ | ⟨rfl, b1, b2, bt⟩ | ⟨rfl, bt⟩ | ⟨rfl, bs, bt⟩
    · obtain ⟨n1, n2, n3, n4, n5⟩ := wd_not (word_first bw).2
      obtain ⟨m1, m2, m3⟩ := wd_not2 (word_first bw).2
      rw [joins_s, bw.txt, decide_eq_false b4, decide_eq_false b5, decide_eq_false n2, decide_eq_false m1, decide_eq_false m2, decide_eq_false m3]
      simp [wrdB, quotB]
    · rw [joins_s, bt]
      rcases signB_cases asg with h | h | h | h | h | h | h | h | h | h | h | h | h | h | h | h <;> (subst h; rfl)
    · rw [joins_s, bt]
      rcases signB_cases asg with h | h | h | h | h | h | h | h | h | h | h | h | h | h | h | h <;> (subst h; rfl)
    · rw [joins_s, bt]
      clear g h h' at' bt
      rcases signB_cases asg with h | h | h | h | h | h | h | h | h | h | h | h | h | h | h | h <;> subst h <;>
        rcases signB_cases bs with h | h | h | h | h | h | h | h | h | h | h | h | h | h | h | h <;> subst h <;> rfl

/-! ### What is written is read -/
theorem step_tok {l : List UInt8} {a : Nat} {k : Int} {t : List UInt8} {n : Nat} (hn : 0 < n) (h : tokOk k t = true) : stepE l a (k, t, n) = (lexF l (a + n)).map fun L => ⟨k, t, a⟩ :: L := by
  unfold stepE
  rw [if_neg (by show ¬ n = 0; omega), if_neg (kind_pos h), h, if_neg (by simp)]
theorem spL_first {all : Bool} {y : Int × List UInt8} {r : List (Int × List UInt8)} (h : tokOk y.1 y.2 = true) : (spL all (y :: r)).getD 0 0 = (tokTextL y.1 y.2).getD 0 0 := by
  have := txt_pos h
  cases r with
  | nil => rfl
  | cons z r => exact app_getD_lt this
theorem drop_app {l X R : List UInt8} {a : Nat} (h : l.drop a = X ++ R) : l.drop (a + X.length) = R := by
  rw [← List.drop_drop, h, List.drop_left]
theorem lex_sp (all : Bool) : ∀ (L : List (Int × List UInt8)) (l : List UInt8) (a : Nat), (∀ x ∈ L, tokOk x.1 x.2 = true) → l.drop a = spL all L → ∃ L', lexF l a = .ok L' ∧ L'.map keyT = L
  | [], l, a, _, hd => by
    have hle : l.length ≤ a := List.drop_eq_nil_iff.1 hd
    exact ⟨[], lexF_end (p := a) (pass_out (by omega)) (by omega), rfl⟩
  | [x], l, a, hok, hd => by
    have hx := hok x (by simp)
    have hp := txt_pos hx
    have hd' : l.drop a = tokTextL x.1 x.2 ++ [] := by rw [hd, List.append_nil]; rfl
    have hal : a < l.length := by
      have := congrArg List.length hd'
      rw [List.length_drop, List.length_append] at this
      omega
    have he := lex_el l a hal
    have hend := drop_app hd'
    have hle : l.length ≤ a + (tokTextL x.1 x.2).length := List.drop_eq_nil_iff.1 hend
    rw [hd', el_app hx (.inl rfl), step_tok hp hx, lexF_end (p := a + (tokTextL x.1 x.2).length) (pass_out (by omega)) (by omega)] at he
    exact ⟨_, he, rfl⟩
  | x :: y :: r, l, a, hok, hd => by
    have hx := hok x (by simp)
    have hy := hok y (by simp)
    have hp := txt_pos hx
    have hpy := txt_pos hy
    have hd' : l.drop a = tokTextL x.1 x.2 ++ ((if all || gapB x.1 x.2 y.1 y.2 then [32] else []) ++ spL all (y :: r)) := hd
    have hal : a < l.length := by
      have := congrArg List.length hd'
      rw [List.length_drop, List.length_append] at this
      omega
    have he := lex_el l a hal
    have hrest := drop_app hd'
    have hj : joins x.1 x.2 (((if all || gapB x.1 x.2 y.1 y.2 then [32] else []) ++ spL all (y :: r) : List UInt8).getD 0 0) = false := by
      cases hg : (all || gapB x.1 x.2 y.1 y.2)
      · rw [if_no rfl, List.nil_append, spL_first hy, ← gap_joins hx hy]
        simpa using (Bool.or_eq_false_iff.1 hg).2
      · rw [if_pos rfl]
        exact joins_blank _ _
    rw [hd', el_app hx (.inr hj), step_tok hp hx] at he
    have ih : ∃ L', lexF l (a + (tokTextL x.1 x.2).length) = .ok L' ∧ L'.map keyT = y :: r := by
      cases hg : (all || gapB x.1 x.2 y.1 y.2)
      · rw [hg, if_no rfl, List.nil_append] at hrest
        exact lex_sp all (y :: r) l _ (fun z hz => hok z (by simp at hz ⊢; exact .inr hz)) hrest
      · rw [hg, if_pos rfl] at hrest
        have hbl : a + (tokTextL x.1 x.2).length < l.length := by
          have := congrArg List.length hrest
          rw [List.length_drop, List.length_append] at this
          simp at this
          omega
        have hs := lex_el l _ hbl
        rw [hrest] at hs
        have e : el ([32] ++ spL all (y :: r)) = (0, [], 1) := rfl
        have hs' : lexF l (a + (tokTextL x.1 x.2).length) = lexF l (a + (tokTextL x.1 x.2).length + 1) := by
          rw [hs, e]; rfl
        rw [hs']
        exact lex_sp all (y :: r) l _ (fun z hz => hok z (by simp at hz ⊢; exact .inr hz)) (drop_app (X := [32]) hrest)
    obtain ⟨L', h1, h2⟩ := ih
    rw [h1] at he
    exact ⟨_, he, by rw [List.map_cons, h2]; rfl⟩
theorem lexR_sp {all : Bool} {L : List (Int × List UInt8)} (hok : ∀ x ∈ L, tokOk x.1 x.2 = true) (h : (spL all L).length ≤ 2000) : ∃ L', lexR (spL all L) = .ok L' ∧ L'.map keyT = L := by
  obtain ⟨L', h1, h2⟩ := lex_sp all L (spL all L) 0 hok rfl
  exact ⟨L', by unfold lexR; rw [if_neg (by omega)]; exact h1, h2⟩

/-! ### Without the blank -/
theorem whole_one {l : List UInt8} (hl : 0 < l.length) (h : (el l).2.2 = l.length) {L : List Tk} (hL : lexF l 0 = .ok L) : L.length ≤ 1 := by
  have he := lex_el l 0 hl
  rw [List.drop_zero] at he
  rcases hE : el l with ⟨k, t, n⟩
  rw [hE] at h he
  have hn : n = l.length := h
  have hend : lexF l (0 + n) = .ok [] := lexF_end (p := 0 + n) (pass_out (by omega)) (by omega)
  unfold stepE at he
  rw [hL] at he
  split at he
  · cases he
  · split at he
    · rw [hend] at he
      cases he; simp
    · split at he
      · cases he
      · rw [hend] at he
        cases he; simp
theorem el_run {l : List UInt8} (h : wd ((l.getD 0 0).toNat : Int) = true) : (el l).2.2 = runEnd l 0 := by
  obtain ⟨n1, n2, n3, n4, n5⟩ := wd_not h
  unfold el
  rw [if_no n1, if_no (is2_no n2), if_no (is2_no n3)]
  split
  · rfl
  · split <;> rfl
theorem dbl_app (q : UInt8) (s t : List UInt8) : dbl q (s ++ t) = dbl q s ++ dbl q t := by
  induction s with
  | nil => rfl
  | cons b s ih =>
    by_cases h : b = q
    · subst h; rw [List.cons_append, dbl_eq, dbl_eq, ih]; rfl
    · rw [List.cons_append, dbl_ne h, dbl_ne h, ih]; rfl
theorem quoted_app (q : UInt8) (s t : List UInt8) : quoted q s ++ quoted q t = quoted q (s ++ q :: t) := by
  unfold quoted
  rw [dbl_app, dbl_eq]
  simp
/-- where a blank is asked for, the two without it are no such two -/
theorem lex_joined {k k' : Int} {t t' : List UInt8} (h : tokOk k t = true) (h' : tokOk k' t' = true) (hg : gapB k t k' t' = true) {L : List Tk} (hL : lexF (tokTextL k t ++ tokTextL k' t') 0 = .ok L) : L.map keyT ≠ [(k, t), (k', t')] := by
  have two : ∀ {l : List UInt8}, 0 < l.length → (el l).2.2 = l.length → lexF l 0 = .ok L → L.map keyT ≠ [(k, t), (k', t')] := fun h1 h2 h3 e => by
    have := whole_one h1 h2 h3
    have := congrArg List.length e
    simp at this
    omega
  rw [gap_joins h h'] at hg
  rcases tok_forms h with ⟨a1, a2, a4, a5, aw⟩ | ⟨rfl, a1, a2, at'⟩ | ⟨rfl, at'⟩ | ⟨rfl, asg, at'⟩
  · rw [joins_word a4 a5 a2] at hg
    rcases tok_forms h' with ⟨b1, b2, b4, b5, bw⟩ | ⟨rfl, b1, b2, bt⟩ | ⟨rfl, bt⟩ | ⟨rfl, bs, bt⟩
    · rw [aw.txt, bw.txt] at hL
      have hall : allWd (t ++ t') = true := by
        have h1 := aw.all
        have h2 := bw.all
        unfold allWd at h1 h2 ⊢
        rw [List.all_append, h1, h2]; rfl
      have hw := word_first aw
      refine two ?_ ?_ hL
      · rw [List.length_append]; omega
      · rw [el_run (by rw [app_getD_lt hw.1]; exact hw.2)]
        exact runEnd_all hall _ 0 rfl (Nat.zero_le _)
    · rw [bt] at hg; cases hg
    · rw [bt] at hg; cases hg
    · rw [bt] at hg
      rcases signB_cases bs with h | h | h | h | h | h | h | h | h | h | h | h | h | h | h | h <;> (subst h; cases hg)
  · rw [joins_q a2] at hg
    rcases tok_forms h' with ⟨b1, b2, b4, b5, bw⟩ | ⟨rfl, b1, b2, bt⟩ | ⟨rfl, bt⟩ | ⟨rfl, bs, bt⟩
    · rw [bw.txt, decide_eq_false (wd_not (word_first bw).2).2.2.2.1] at hg; cases hg
    · rw [at', bt, quoted_app] at hL
      refine two (quoted_pos _ _) ?_ hL
      have := el_q34 (s := t ++ 34 :: t') (R := []) (.inl rfl)
      rw [List.append_nil] at this
      rw [this]
    · rw [bt] at hg; cases hg
    · rw [bt] at hg
      rcases signB_cases bs with h | h | h | h | h | h | h | h | h | h | h | h | h | h | h | h <;> (subst h; cases hg)
  · rw [joins_t] at hg
    rcases tok_forms h' with ⟨b1, b2, b4, b5, bw⟩ | ⟨rfl, b1, b2, bt⟩ | ⟨rfl, bt⟩ | ⟨rfl, bs, bt⟩
    · rw [bw.txt, decide_eq_false (wd_not (word_first bw).2).2.2.2.2] at hg; cases hg
    · rw [bt] at hg; cases hg
    · rw [at', bt, quoted_app] at hL
      refine two (quoted_pos _ _) ?_ hL
      have := el_q39 (s := t ++ 39 :: t') (R := []) (.inl rfl)
      rw [List.append_nil] at this
      rw [this]
    · rw [bt] at hg
      rcases signB_cases bs with h | h | h | h | h | h | h | h | h | h | h | h | h | h | h | h <;> (subst h; cases hg)
  · rw [joins_s] at hg
    rcases tok_forms h' with ⟨b1, b2, b4, b5, bw⟩ | ⟨rfl, b1, b2, bt⟩ | ⟨rfl, bt⟩ | ⟨rfl, bs, bt⟩
    · obtain ⟨n1, n2, n3, n4, n5⟩ := wd_not (word_first bw).2
      obtain ⟨m1, m2, m3⟩ := wd_not2 (word_first bw).2
      rw [bw.txt, decide_eq_false n2, decide_eq_false m1, decide_eq_false m2, decide_eq_false m3] at hg
      simp at hg
    · rw [bt] at hg
      have e : (quoted 34 t').getD 0 0 = 34 := rfl
      rw [e] at hg
      simp at hg
    · rw [bt] at hg
      have e : (quoted 39 t').getD 0 0 = 39 := rfl
      rw [e] at hg
      simp at hg
    · rw [bt] at hg
      rw [at', bt] at hL
      have hc : (t = [45] ∧ t' = [45]) ∨ (t = [47] ∧ t' = [42]) ∨ (t = [60] ∧ (t' = [61] ∨ t' = [62] ∨ t' = [62, 61])) ∨ (t = [62] ∧ t' = [61]) := by
        rcases signB_cases bs with h | h | h | h | h | h | h | h | h | h | h | h | h | h | h | h <;> subst h <;> simp at hg <;> simp [hg]
      rcases hc with ⟨rfl, rfl⟩ | ⟨rfl, rfl⟩ | ⟨rfl, rfl | rfl | rfl⟩ | ⟨rfl, rfl⟩
      · refine two (by decide) ?_ hL
        have e : (el ([45] ++ [45])).2.2 = lineEnd [45, 45] 0 := rfl
        rw [e]
        have h1 := line_two (l := [45, 45]) (k := 0) rfl
        have h2 := lineEnd_le [45, 45] _ 0 rfl (by decide)
        have h3 : ([45, 45] : List UInt8).length = 2 := rfl
        have h4 : ([45] ++ [45] : List UInt8).length = 2 := rfl
        omega
      · have he := lex_el ([47] ++ [42]) 0 (by decide)
        have e : el (([47] ++ [42] : List UInt8).drop 0) = (0, [], longLen [47, 42]) := rfl
        have e2 : longLen [47, 42] = 0 := by
          unfold longLen
          rw [close_out (by decide)]; rfl
        rw [e, e2, hL] at he
        cases he
      · exact two (by decide) rfl hL
      · exact two (by decide) rfl hL
      · have he := lex_el ([60] ++ [62, 61]) 0 (by decide)
        have e : el (([60] ++ [62, 61] : List UInt8).drop 0) = (5, [60, 62], 2) := rfl
        rw [e, hL, step_tok (by omega) (by decide)] at he
        intro hk
        rcases hr : lexF ([60] ++ [62, 61]) (0 + 2) with p | M
        · rw [hr] at he; cases he
        · rw [hr] at he
          cases he
          simp [keyT] at hk
      · exact two (by decide) rfl hL
end Go.Proofs.Ytcadoplfgclbjaa
