
/- Tokens written one behind the other are read as they were; where a blank is asked for, they are not read so without it. No program. -/
import Derived.Test.YtcadoplfgclbjaaTokTx
import Derived.Test.YtcadoplfgclbjaaElem
import Derived.Test.YtcadoplfgclbjaaLexNames
namespace Go.Proofs.Ytcadoplfgclbjaa
open Go.RowKit

def wrdB (k : Int) (t : List UInt8) : Bool := decide (k = 1) || decide (k = 3) || (decide (k = 2) && plainB t)
def quotB (k : Int) (t : List UInt8) : Bool := decide (k = 2) && !plainB t
def signGap (t t' : List UInt8) : Bool :=
  if t = [45] then decide (t' = [45])
  else if t = [47] then decide (t' = [42])
  else if t = [60] then decide (t'.getD 0 0 = 61) || decide (t'.getD 0 0 = 62)
  else if t = [62] then decide (t'.getD 0 0 = 61)
  else false
/-- a blank is asked for between the two -/
def gapB (k : Int) (t : List UInt8) (k' : Int) (t' : List UInt8) : Bool :=
  if tokOk k t && tokOk k' t' then
    (if (wrdB k t && wrdB k' t') || (decide (k = 4) && decide (k' = 4)) || (quotB k t && quotB k' t') then true
     else if decide (k = 5) && decide (k' = 5) then signGap t t' else false)
  else false
/-- the byte b, right behind the token, would be read as a part of it -/
def joins (k : Int) (t : List UInt8) (b : UInt8) : Bool :=
  if k = 5 then (decide (t = [45]) && decide (b = 45)) || (decide (t = [47]) && decide (b = 42)) || (decide (t = [60]) && (decide (b = 61) || decide (b = 62))) || (decide (t = [62]) && decide (b = 61))
  else if k = 4 then decide (b = 39)
  else if quotB k t then decide (b = 34)
  else wd (b.toNat : Int)

/-! ### What a token is -/
theorem allWd_mem {l : List UInt8} (h : allWd l = true) {b : UInt8} (hb : b ∈ l) : wd (b.toNat : Int) = true := by
  unfold allWd at h
  rw [List.all_eq_true] at h
  exact h b hb
theorem upper_wd {n : Int} (h1 : 65 ≤ n) (h2 : n ≤ 90) : ltr n = true := by
  unfold ltr; simp; omega
theorem dig_wd {b : UInt8} (h : isDig b) : dg (b.toNat : Int) = true := by
  unfold dg; unfold isDig at h; simp; omega
/-- a word: its kind is told by its bytes -/
structure WordT (k : Int) (t : List UInt8) : Prop where
  ne : t ≠ []
  all : allWd t = true
  txt : tokTextL k t = t
  form : (k = 3 ∧ dg ((t.getD 0 0).toNat : Int) = true) ∨ (dg ((t.getD 0 0).toNat : Int) = false ∧ ((k = 1 ∧ 0 < numOf (upL t) ∧ upL t = t) ∨ (k = 2 ∧ ¬ 0 < numOf (upL t))))
theorem ltr_no_dg {n : Int} (h : ltr n = true) : dg n = false := by
  unfold ltr at h; unfold dg
  simp only [Bool.or_eq_true, Bool.and_eq_true, decide_eq_true_eq] at h
  simp; omega
theorem word_key {t : List UInt8} (h : tokOk 1 t = true) : WordT 1 t := by
  have h0 : (decide (0 < numOf (upL t)) && (upL t == t)) = true := h
  simp only [Bool.and_eq_true, decide_eq_true_eq, beq_iff_eq] at h0
  obtain ⟨h1, h2⟩ := h0
  rw [h2] at h1
  rcases num_cases t with hc | ⟨c1, c2, c3⟩
  · omega
  · have hall : ∀ b ∈ t, 65 ≤ b.toNat ∧ b.toNat ≤ 90 := by rw [← c3]; exact word_upper c2
    have hne : t ≠ [] := by
      intro e; subst e
      have : numOf [] = 0 := by decide +kernel
      omega
    refine ⟨hne, ?_, ?_, .inr ⟨?_, .inl ⟨rfl, by rw [h2]; exact h1, h2⟩⟩⟩
    · unfold allWd
      rw [List.all_eq_true]
      intro b hb
      have := hall b hb
      unfold wd; rw [upper_wd (by omega) (by omega)]; rfl
    · unfold tokTextL; rw [if_pos h]; rfl
    · cases t with
      | nil => exact absurd rfl hne
      | cons b t =>
        have := hall b (by simp)
        exact ltr_no_dg (upper_wd (by show (65 : Int) ≤ (b.toNat : Int); omega) (by show (b.toNat : Int) ≤ 90; omega))
theorem word_int {t : List UInt8} (h : tokOk 3 t = true) : WordT 3 t := by
  obtain ⟨n, hn⟩ := (numB_iff _).1 (show numB t = true from h)
  have hd := hn.dig
  refine ⟨hn.ne, ?_, ?_, .inl ⟨rfl, ?_⟩⟩
  · unfold allWd
    rw [List.all_eq_true]
    intro b hb
    have := dig_wd (hd b hb)
    unfold wd; rw [this]; simp
  · unfold tokTextL; rw [if_pos h]; rfl
  · cases t with
    | nil => exact absurd rfl hn.ne
    | cons b t => exact dig_wd (hd b (by simp))
theorem word_name {t : List UInt8} (h : tokOk 2 t = true) (hp : plainB t = true) : WordT 2 t := by
  have hp0 := hp
  unfold plainB at hp0
  simp only [Bool.and_eq_true, decide_eq_true_eq, Bool.not_eq_true'] at hp0
  obtain ⟨⟨⟨hok, hdg⟩, hall⟩, hnum⟩ := hp0
  have hne : t ≠ [] := by intro e; subst e; revert hok; decide
  have hok' : okLen t.length = true := h
  refine ⟨hne, hall, ?_, .inr ⟨hdg, .inr ⟨rfl, by rw [hnum]; omega⟩⟩⟩
  unfold tokTextL
  rw [if_pos h, if_pos rfl]
  unfold nameL
  rw [if_pos hok', if_pos hp]
/-- the four forms of a token -/
theorem tok_forms {k : Int} {t : List UInt8} (h : tokOk k t = true) :
    (wrdB k t = true ∧ quotB k t = false ∧ k ≠ 4 ∧ k ≠ 5 ∧ WordT k t) ∨ (k = 2 ∧ wrdB k t = false ∧ quotB k t = true ∧ tokTextL k t = quoted 34 t) ∨ (k = 4 ∧ tokTextL k t = quoted 39 t) ∨ (k = 5 ∧ signB t = true ∧ tokTextL k t = t) := by
  by_cases h1 : k = 1
  · subst h1; exact .inl ⟨rfl, rfl, by omega, by omega, word_key h⟩
  by_cases h2 : k = 2
  · subst h2
    cases hp : plainB t
    · refine .inr (.inl ⟨rfl, by unfold wrdB; rw [hp]; rfl, by unfold quotB; rw [hp]; rfl, ?_⟩)
      unfold tokTextL
      rw [if_pos h, if_pos rfl]
      unfold nameL
      rw [if_pos (show okLen t.length = true from h), hp]; rfl
    · exact .inl ⟨by unfold wrdB; rw [hp]; rfl, by unfold quotB; rw [hp]; rfl, by omega, by omega, word_name h hp⟩
  by_cases h3 : k = 3
  · subst h3; exact .inl ⟨rfl, rfl, by omega, by omega, word_int h⟩
  by_cases h4 : k = 4
  · subst h4
    refine .inr (.inr (.inl ⟨rfl, ?_⟩))
    unfold tokTextL; rw [if_pos h]; rfl
  by_cases h5 : k = 5
  · subst h5
    refine .inr (.inr (.inr ⟨rfl, h, ?_⟩))
    unfold tokTextL; rw [if_pos h]; rfl
  · unfold tokOk at h
    rw [if_neg h1, if_neg h2, if_neg h3, if_neg h4, if_neg h5] at h
    cases h

/-! ### A token at the head of a text -/
theorem app_getD {t R : List UInt8} {j : Nat} : (t ++ R).getD (t.length + j) 0 = R.getD j 0 := by
  rw [List.getD_eq_getElem?_getD, List.getD_eq_getElem?_getD, List.getElem?_append_right (by omega), Nat.add_sub_cancel_left]
theorem app_getD_lt {t R : List UInt8} {j : Nat} (h : j < t.length) : (t ++ R).getD j 0 = t.getD j 0 := by
  rw [List.getD_eq_getElem?_getD, List.getD_eq_getElem?_getD, List.getElem?_append_left h]
theorem getD_mem {l : List UInt8} {j : Nat} (h : j < l.length) : l.getD j 0 ∈ l := by
  rw [List.getD_eq_getElem?_getD, List.getElem?_eq_getElem h]; exact List.getElem_mem h
theorem run_app {t R : List UInt8} (h : allWd t = true) (hR : R = [] ∨ wd ((R.getD 0 0).toNat : Int) = false) : ∀ (n a : Nat), t.length - a = n → a ≤ t.length → runEnd (t ++ R) a = t.length
  | 0, a, h1, h2 => by
    obtain rfl : a = t.length := by omega
    rcases hR with rfl | hR
    · exact runEnd_out (by simp)
    · by_cases h3 : t.length < (t ++ R).length
      · exact runEnd_no h3 (by have := app_getD (t := t) (R := R) (j := 0); rw [Nat.add_zero] at this; rw [this]; exact hR)
      · exact runEnd_out h3
  | n + 1, a, h1, h2 => by
    rw [runEnd_yes (by simp; omega) (by rw [app_getD_lt (by omega)]; exact allWd_mem h (getD_mem (by omega)))]
    exact run_app h hR n (a + 1) (by omega) (by omega)
theorem wd_not {b : UInt8} (h : wd (b.toNat : Int) = true) : spB b = false ∧ b ≠ 45 ∧ b ≠ 47 ∧ b ≠ 34 ∧ b ≠ 39 := by
  have hnb : ∀ c : UInt8, wd (c.toNat : Int) = false → ¬ b = c := fun c hc e => by rw [e, hc] at h; cases h
  refine ⟨?_, hnb 45 (by decide), hnb 47 (by decide), hnb 34 (by decide), hnb 39 (by decide)⟩
  cases hs : spB b
  · rfl
  · unfold spB at hs
    simp only [Bool.or_eq_true, beq_iff_eq] at hs
    rcases hs with ((hs | hs) | hs) | hs
    · exact absurd hs (hnb 32 (by decide))
    · exact absurd hs (hnb 9 (by decide))
    · exact absurd hs (hnb 10 (by decide))
    · exact absurd hs (hnb 13 (by decide))
theorem word_first {k : Int} {t : List UInt8} (h : WordT k t) : 0 < t.length ∧ wd ((t.getD 0 0).toNat : Int) = true := by
  have h0 : 0 < t.length := by have := h.ne; cases t with | nil => exact absurd rfl this | cons b t => simp
  exact ⟨h0, allWd_mem h.all (getD_mem h0)⟩
theorem el_word {k : Int} {t R : List UInt8} (h : WordT k t) (hR : R = [] ∨ wd ((R.getD 0 0).toNat : Int) = false) : el (t ++ R) = (k, t, t.length) := by
  obtain ⟨hl, hw⟩ := word_first h
  have hg : (t ++ R).getD 0 0 = t.getD 0 0 := app_getD_lt hl
  obtain ⟨n1, n2, n3, n4, n5⟩ := wd_not hw
  have hr := run_app h.all hR _ 0 rfl (by omega)
  have hs : sl (t ++ R) 0 t.length = t := by unfold sl; simp
  unfold el
  rw [hg, hr, hs, if_no n1, if_no (is2_no (by rw [hg]; exact n2)), if_no (is2_no (by rw [hg]; exact n3))]
  rcases h.form with ⟨rfl, hd⟩ | ⟨hd, ⟨rfl, h1, h2⟩ | ⟨rfl, h1⟩⟩
  · rw [if_pos hd]
  · rw [if_no hd, if_pos hw, if_pos h1, h2]
  · rw [if_no hd, if_pos hw, if_neg h1]
theorem quo_app (q : UInt8) {R : List UInt8} (hR : R = [] ∨ R.getD 0 0 ≠ q) : ∀ (s pre : List UInt8), quo q (pre ++ (dbl q s ++ q :: R)) pre.length = some (s, (pre ++ (dbl q s ++ [q])).length)
  | [], pre => by
    have hg : (pre ++ (dbl q [] ++ q :: R)).getD pre.length 0 = q := getD_app
    have e : (pre ++ (dbl q [] ++ [q])).length = pre.length + 1 := by simp [dbl]
    rw [quo_stop (by simp only [List.length_append, List.length_cons]; omega) hg ?_, e]
    rintro ⟨h1, h2⟩
    have h3 : (pre ++ (dbl q [] ++ q :: R)).getD (pre.length + 1) 0 = R.getD 0 0 := by
      show (pre ++ q :: R).getD (pre.length + 1) 0 = R.getD 0 0
      rw [app_getD]; rfl
    rcases hR with rfl | hR
    · simp [dbl] at h1
    · exact hR (by rw [← h3]; exact h2)
  | b :: t, pre => by
    by_cases hb : b = q
    · subst hb
      have e : pre ++ (dbl b (b :: t) ++ b :: R) = pre ++ b :: b :: (dbl b t ++ b :: R) := by rw [dbl_eq]; rfl
      have e2 : pre ++ b :: b :: (dbl b t ++ b :: R) = (pre ++ [b, b]) ++ (dbl b t ++ b :: R) := by simp
      have ih := quo_app b hR t (pre ++ [b, b])
      have hl : (pre ++ [b, b]).length = pre.length + 2 := by simp
      rw [e, quo_two (by simp) getD_app (by simp) getD_app1, e2, ← hl, ih]
      simp [dbl_eq]
    · have e : pre ++ (dbl q (b :: t) ++ q :: R) = pre ++ b :: (dbl q t ++ q :: R) := by rw [dbl_ne hb]; rfl
      have e2 : pre ++ b :: (dbl q t ++ q :: R) = (pre ++ [b]) ++ (dbl q t ++ q :: R) := by simp
      have ih := quo_app q hR t (pre ++ [b])
      have hl : (pre ++ [b]).length = pre.length + 1 := by simp
      have hg : (pre ++ b :: (dbl q t ++ q :: R)).getD pre.length 0 = b := getD_app
      rw [e, quo_other (by simp) (by rw [hg]; exact hb), hg, e2, ← hl, ih]
      simp [dbl_ne hb]
theorem quo_head (q : UInt8) (s R : List UInt8) (hR : R = [] ∨ R.getD 0 0 ≠ q) : quo q (quoted q s ++ R) 1 = some (s, (quoted q s).length) := by
  have h := quo_app q hR s [q]
  have e : quoted q s ++ R = [q] ++ (dbl q s ++ q :: R) := by simp [quoted]
  rw [e]
  exact h
theorem quoted_app_get (q : UInt8) (s R : List UInt8) : (quoted q s ++ R).getD 0 0 = q := rfl
theorem el_q34 {s R : List UInt8} (hR : R = [] ∨ R.getD 0 0 ≠ 34) : el (quoted 34 s ++ R) = (2, s, (quoted 34 s).length) := by
  have hq := quo_head 34 s R hR
  unfold el quoK quoT quoL
  rw [quoted_app_get, hq, if_no (by decide), if_no (is2_no (by rw [quoted_app_get]; decide)), if_no (is2_no (by rw [quoted_app_get]; decide)), if_no (by decide), if_no (by decide), if_pos rfl]
theorem el_q39 {s R : List UInt8} (hR : R = [] ∨ R.getD 0 0 ≠ 39) : el (quoted 39 s ++ R) = (4, s, (quoted 39 s).length) := by
  have hq := quo_head 39 s R hR
  unfold el quoK quoT quoL
  rw [quoted_app_get, hq, if_no (by decide), if_no (is2_no (by rw [quoted_app_get]; decide)), if_no (is2_no (by rw [quoted_app_get]; decide)), if_no (by decide), if_no (by decide), if_neg (by decide), if_pos rfl]
theorem el_sign {t R : List UInt8} (h : signB t = true) (hR : R = [] ∨ joins 5 t (R.getD 0 0) = false) : el (t ++ R) = (5, t, t.length) := by
  rcases hR with rfl | hR
  · rw [List.append_nil]
    rcases signB_cases h with h | h | h | h | h | h | h | h | h | h | h | h | h | h | h | h <;> (subst h; rfl)
  · cases R with
    | nil =>
      rw [List.append_nil]
      rcases signB_cases h with h | h | h | h | h | h | h | h | h | h | h | h | h | h | h | h <;> (subst h; rfl)
    | cons y R =>
      have hR' : joins 5 t y = false := hR
      clear hR
      unfold joins at hR'
      rcases signB_cases h with h | h | h | h | h | h | h | h | h | h | h | h | h | h | h | h <;> subst h <;> simp at hR' <;> simp [el, spB, is2, dg, wd, ltr, signLen, signB, signs, hR']
theorem el_app {k : Int} {t R : List UInt8} (h : tokOk k t = true) (hR : R = [] ∨ joins k t (R.getD 0 0) = false) : el (tokTextL k t ++ R) = (k, t, (tokTextL k t).length) := by
  rcases tok_forms h with ⟨h1, h2, h4, h5, hw⟩ | ⟨rfl, h1, h2, ht⟩ | ⟨rfl, ht⟩ | ⟨rfl, hs, ht⟩
  · rw [hw.txt]
    refine el_word hw (hR.imp id fun hR => ?_)
    unfold joins at hR
    rw [if_neg h5, if_neg h4, if_no h2] at hR
    exact hR
  · rw [ht]
    refine el_q34 (hR.imp id fun hR => ?_)
    unfold joins at hR
    rw [if_neg (by decide), if_neg (by decide), if_pos h2] at hR
    simpa using hR
  · rw [ht]
    refine el_q39 (hR.imp id fun hR => ?_)
    unfold joins at hR
    rw [if_neg (by decide), if_pos rfl] at hR
    simpa using hR
  · rw [ht]
    exact el_sign hs hR
end Go.Proofs.Ytcadoplfgclbjaa
