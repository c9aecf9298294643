/- Joined texts: SpaceMath SpaceLex SpaceSqz SpaceJ SpaceK. -/
import Derived.Test.YtcadoplfgclbjaaGreatDoorQG
import Derived.Test.YtcadoplfgclbjaaGreatDoorQI
import Derived.Test.YtcadoplfgclbjaaGreatDoorQF
/- Tokens written one behind the other are read as they were; where a blank is asked for, they are not read so without it. No program. -/
namespace Go.Proofs.YtcadoplfgclbjaaGreatDoor
open Go.RowKit

def wrdB (k : Int) (t : List UInt8) : Bool := decide (k = 1) || decide (k = 3) || (decide (k = 2) && plainB t)
def quotB (k : Int) (t : List UInt8) : Bool := decide (k = 2) && !plainB t
def signGap (t t' : List UInt8) : Bool :=
  if t = [45] then decide (t' = [45])
  else if t = [47] then decide (t' = [42])
  else if t = [60] then decide (t'.getD 0 0 = 61) || decide (t'.getD 0 0 = 62)
  else if t = [62] then decide (t'.getD 0 0 = 61)
  else false
/-- a blank is asked for between the two -/
def gapB (k : Int) (t : List UInt8) (k' : Int) (t' : List UInt8) : Bool :=
  if tokOk k t && tokOk k' t' then
    (if (wrdB k t && wrdB k' t') || (decide (k = 4) && decide (k' = 4)) || (quotB k t && quotB k' t') then true
     else if decide (k = 5) && decide (k' = 5) then signGap t t' else false)
  else false
/-- the byte b, right behind the token, would be read as a part of it -/
def joins (k : Int) (t : List UInt8) (b : UInt8) : Bool :=
  if k = 5 then (decide (t = [45]) && decide (b = 45)) || (decide (t = [47]) && decide (b = 42)) || (decide (t = [60]) && (decide (b = 61) || decide (b = 62))) || (decide (t = [62]) && decide (b = 61))
  else if k = 4 then decide (b = 39)
  else if quotB k t then decide (b = 34)
  else wd (b.toNat : Int)

/-! ### What a token is -/
theorem allWd_mem {l : List UInt8} (h : allWd l = true) {b : UInt8} (hb : b ∈ l) : wd (b.toNat : Int) = true := by
  unfold allWd at h
  rw [List.all_eq_true] at h
  exact h b hb
theorem upper_wd {n : Int} (h1 : 65 ≤ n) (h2 : n ≤ 90) : ltr n = true := by
  unfold ltr; simp; omega
theorem dig_wd {b : UInt8} (h : isDig b) : dg (b.toNat : Int) = true := by
  unfold dg; unfold isDig at h; simp; omega
/-- a word: its kind is told by its bytes -/
structure WordT (k : Int) (t : List UInt8) : Prop where
  ne : t ≠ []
  all : allWd t = true
  txt : tokTextL k t = t
  form : (k = 3 ∧ dg ((t.getD 0 0).toNat : Int) = true) ∨ (dg ((t.getD 0 0).toNat : Int) = false ∧ ((k = 1 ∧ 0 < numOf (upL t) ∧ upL t = t) ∨ (k = 2 ∧ ¬ 0 < numOf (upL t))))
theorem ltr_no_dg {n : Int} (h : ltr n = true) : dg n = false := by
  unfold ltr at h; unfold dg
  simp only [Bool.or_eq_true, Bool.and_eq_true, decide_eq_true_eq] at h
  simp; omega
theorem word_key {t : List UInt8} (h : tokOk 1 t = true) : WordT 1 t := by
  have h0 : (decide (0 < numOf (upL t)) && (upL t == t)) = true := h
  simp only [Bool.and_eq_true, decide_eq_true_eq, beq_iff_eq] at h0
  obtain ⟨h1, h2⟩ := h0
  rw [h2] at h1
  rcases num_cases t with hc | ⟨c1, c2, c3⟩
  · omega
  · have hall : ∀ b ∈ t, 65 ≤ b.toNat ∧ b.toNat ≤ 90 := by rw [← c3]; exact word_upper c2
    have hne : t ≠ [] := by
      intro e; subst e
      have : numOf [] = 0 := by decide +kernel
      omega
    refine ⟨hne, ?_, ?_, .inr ⟨?_, .inl ⟨rfl, by rw [h2]; exact h1, h2⟩⟩⟩
    · unfold allWd
      rw [List.all_eq_true]
      intro b hb
      have := hall b hb
      unfold wd; rw [upper_wd (by omega) (by omega)]; rfl
    · unfold tokTextL; rw [if_pos h]; rfl
    · cases t with
      | nil => exact absurd rfl hne
      | cons b t =>
        have := hall b (by simp)
        exact ltr_no_dg (upper_wd (by show (65 : Int) ≤ (b.toNat : Int); omega) (by show (b.toNat : Int) ≤ 90; omega))
theorem word_int {t : List UInt8} (h : tokOk 3 t = true) : WordT 3 t := by
  obtain ⟨n, hn⟩ := (numB_iff _).1 (show numB t = true from h)
  have hd := hn.dig
  refine ⟨hn.ne, ?_, ?_, .inl ⟨rfl, ?_⟩⟩
  · unfold allWd
    rw [List.all_eq_true]
    intro b hb
    have := dig_wd (hd b hb)
    unfold wd; rw [this]; simp
  · unfold tokTextL; rw [if_pos h]; rfl
  · cases t with
    | nil => exact absurd rfl hn.ne
    | cons b t => exact dig_wd (hd b (by simp))
theorem word_name {t : List UInt8} (h : tokOk 2 t = true) (hp : plainB t = true) : WordT 2 t := by
  have hp0 := hp
  unfold plainB at hp0
  simp only [Bool.and_eq_true, decide_eq_true_eq, Bool.not_eq_true'] at hp0
  obtain ⟨⟨⟨hok, hdg⟩, hall⟩, hnum⟩ := hp0
  have hne : t ≠ [] := by intro e; subst e; revert hok; decide
  have hok' : okLen t.length = true := h
  refine ⟨hne, hall, ?_, .inr ⟨hdg, .inr ⟨rfl, by rw [hnum]; omega⟩⟩⟩
  unfold tokTextL
  rw [if_pos h, if_pos rfl]
  unfold nameL
  rw [if_pos hok', if_pos hp]
/-- the four forms of a token -/
theorem tok_forms {k : Int} {t : List UInt8} (h : tokOk k t = true) :
    (wrdB k t = true ∧ quotB k t = false ∧ k ≠ 4 ∧ k ≠ 5 ∧ WordT k t) ∨ (k = 2 ∧ wrdB k t = false ∧ quotB k t = true ∧ tokTextL k t = quoted 34 t) ∨ (k = 4 ∧ tokTextL k t = quoted 39 t) ∨ (k = 5 ∧ signB t = true ∧ tokTextL k t = t) := by
  by_cases h1 : k = 1
  · subst h1; exact .inl ⟨rfl, rfl, by omega, by omega, word_key h⟩
  by_cases h2 : k = 2
  · subst h2
    cases hp : plainB t
    · refine .inr (.inl ⟨rfl, by unfold wrdB; rw [hp]; rfl, by unfold quotB; rw [hp]; rfl, ?_⟩)
      unfold tokTextL
      rw [if_pos h, if_pos rfl]
      unfold nameL
      rw [if_pos (show okLen t.length = true from h), hp]; rfl
    · exact .inl ⟨by unfold wrdB; rw [hp]; rfl, by unfold quotB; rw [hp]; rfl, by omega, by omega, word_name h hp⟩
  by_cases h3 : k = 3
  · subst h3; exact .inl ⟨rfl, rfl, by omega, by omega, word_int h⟩
  by_cases h4 : k = 4
  · subst h4
    refine .inr (.inr (.inl ⟨rfl, ?_⟩))
    unfold tokTextL; rw [if_pos h]; rfl
  by_cases h5 : k = 5
  · subst h5
    refine .inr (.inr (.inr ⟨rfl, h, ?_⟩))
    unfold tokTextL; rw [if_pos h]; rfl
  · unfold tokOk at h
    rw [if_neg h1, if_neg h2, if_neg h3, if_neg h4, if_neg h5] at h
    cases h

/-! ### A token at the head of a text -/
theorem app_getD {t R : List UInt8} {j : Nat} : (t ++ R).getD (t.length + j) 0 = R.getD j 0 := by
  rw [List.getD_eq_getElem?_getD, List.getD_eq_getElem?_getD, List.getElem?_append_right (by omega), Nat.add_sub_cancel_left]
theorem app_getD_lt {t R : List UInt8} {j : Nat} (h : j < t.length) : (t ++ R).getD j 0 = t.getD j 0 := by
  rw [List.getD_eq_getElem?_getD, List.getD_eq_getElem?_getD, List.getElem?_append_left h]
theorem getD_mem {l : List UInt8} {j : Nat} (h : j < l.length) : l.getD j 0 ∈ l := by
  rw [List.getD_eq_getElem?_getD, List.getElem?_eq_getElem h]; exact List.getElem_mem h
theorem run_app {t R : List UInt8} (h : allWd t = true) (hR : R = [] ∨ wd ((R.getD 0 0).toNat : Int) = false) : ∀ (n a : Nat), t.length - a = n → a ≤ t.length → runEnd (t ++ R) a = t.length
  | 0, a, h1, h2 => by
    obtain rfl : a = t.length := by omega
    rcases hR with rfl | hR
    · exact runEnd_out (by simp)
    · by_cases h3 : t.length < (t ++ R).length
      · exact runEnd_no h3 (by have := app_getD (t := t) (R := R) (j := 0); rw [Nat.add_zero] at this; rw [this]; exact hR)
      · exact runEnd_out h3
  | n + 1, a, h1, h2 => by
    rw [runEnd_yes (by simp; omega) (by rw [app_getD_lt (by omega)]; exact allWd_mem h (getD_mem (by omega)))]
    exact run_app h hR n (a + 1) (by omega) (by omega)
theorem wd_not {b : UInt8} (h : wd (b.toNat : Int) = true) : spB b = false ∧ b ≠ 45 ∧ b ≠ 47 ∧ b ≠ 34 ∧ b ≠ 39 := by
  have hnb : ∀ c : UInt8, wd (c.toNat : Int) = false → ¬ b = c := fun c hc e => by rw [e, hc] at h; cases h
  refine ⟨?_, hnb 45 (by decide), hnb 47 (by decide), hnb 34 (by decide), hnb 39 (by decide)⟩
  cases hs : spB b
  · rfl
  · unfold spB at hs
    simp only [Bool.or_eq_true, beq_iff_eq] at hs
    rcases hs with ((hs | hs) | hs) | hs
    · exact absurd hs (hnb 32 (by decide))
    · exact absurd hs (hnb 9 (by decide))
    · exact absurd hs (hnb 10 (by decide))
    · exact absurd hs (hnb 13 (by decide))
theorem word_first {k : Int} {t : List UInt8} (h : WordT k t) : 0 < t.length ∧ wd ((t.getD 0 0).toNat : Int) = true := by
  have h0 : 0 < t.length := by have := h.ne; cases t with | nil => exact absurd rfl this | cons b t => simp
  exact ⟨h0, allWd_mem h.all (getD_mem h0)⟩
theorem el_word {k : Int} {t R : List UInt8} (h : WordT k t) (hR : R = [] ∨ wd ((R.getD 0 0).toNat : Int) = false) : el (t ++ R) = (k, t, t.length) := by
  obtain ⟨hl, hw⟩ := word_first h
  have hg : (t ++ R).getD 0 0 = t.getD 0 0 := app_getD_lt hl
  obtain ⟨n1, n2, n3, n4, n5⟩ := wd_not hw
  have hr := run_app h.all hR _ 0 rfl (by omega)
  have hs : sl (t ++ R) 0 t.length = t := by unfold sl; simp
  unfold el
  rw [hg, hr, hs, if_no n1, if_no (is2_no (by rw [hg]; exact n2)), if_no (is2_no (by rw [hg]; exact n3))]
  rcases h.form with ⟨rfl, hd⟩ | ⟨hd, ⟨rfl, h1, h2⟩ | ⟨rfl, h1⟩⟩
  · rw [if_pos hd]
  · rw [if_no hd, if_pos hw, if_pos h1, h2]
  · rw [if_no hd, if_pos hw, if_neg h1]
theorem quo_app (q : UInt8) {R : List UInt8} (hR : R = [] ∨ R.getD 0 0 ≠ q) : ∀ (s pre : List UInt8), quo q (pre ++ (dbl q s ++ q :: R)) pre.length = some (s, (pre ++ (dbl q s ++ [q])).length)
  | [], pre => by
    have hg : (pre ++ (dbl q [] ++ q :: R)).getD pre.length 0 = q := getD_app
    have e : (pre ++ (dbl q [] ++ [q])).length = pre.length + 1 := by simp [dbl]
    rw [quo_stop (by simp only [List.length_append, List.length_cons]; omega) hg ?_, e]
    rintro ⟨h1, h2⟩
    have h3 : (pre ++ (dbl q [] ++ q :: R)).getD (pre.length + 1) 0 = R.getD 0 0 := by
      show (pre ++ q :: R).getD (pre.length + 1) 0 = R.getD 0 0
      rw [app_getD]; rfl
    rcases hR with rfl | hR
    · simp [dbl] at h1
    · exact hR (by rw [← h3]; exact h2)
  | b :: t, pre => by
    by_cases hb : b = q
    · subst hb
      have e : pre ++ (dbl b (b :: t) ++ b :: R) = pre ++ b :: b :: (dbl b t ++ b :: R) := by rw [dbl_eq]; rfl
      have e2 : pre ++ b :: b :: (dbl b t ++ b :: R) = (pre ++ [b, b]) ++ (dbl b t ++ b :: R) := by simp
      have ih := quo_app b hR t (pre ++ [b, b])
      have hl : (pre ++ [b, b]).length = pre.length + 2 := by simp
      rw [e, quo_two (by simp) getD_app (by simp) getD_app1, e2, ← hl, ih]
      simp [dbl_eq]
    · have e : pre ++ (dbl q (b :: t) ++ q :: R) = pre ++ b :: (dbl q t ++ q :: R) := by rw [dbl_ne hb]; rfl
      have e2 : pre ++ b :: (dbl q t ++ q :: R) = (pre ++ [b]) ++ (dbl q t ++ q :: R) := by simp
      have ih := quo_app q hR t (pre ++ [b])
      have hl : (pre ++ [b]).length = pre.length + 1 := by simp
      have hg : (pre ++ b :: (dbl q t ++ q :: R)).getD pre.length 0 = b := getD_app
      rw [e, quo_other (by simp) (by rw [hg]; exact hb), hg, e2, ← hl, ih]
      simp [dbl_ne hb]
theorem quo_head (q : UInt8) (s R : List UInt8) (hR : R = [] ∨ R.getD 0 0 ≠ q) : quo q (quoted q s ++ R) 1 = some (s, (quoted q s).length) := by
  have h := quo_app q hR s [q]
  have e : quoted q s ++ R = [q] ++ (dbl q s ++ q :: R) := by simp [quoted]
  rw [e]
  exact h
theorem quoted_app_get (q : UInt8) (s R : List UInt8) : (quoted q s ++ R).getD 0 0 = q := rfl
theorem el_q34 {s R : List UInt8} (hR : R = [] ∨ R.getD 0 0 ≠ 34) : el (quoted 34 s ++ R) = (2, s, (quoted 34 s).length) := by
  have hq := quo_head 34 s R hR
  unfold el quoK quoT quoL
  rw [quoted_app_get, hq, if_no (by decide), if_no (is2_no (by rw [quoted_app_get]; decide)), if_no (is2_no (by rw [quoted_app_get]; decide)), if_no (by decide), if_no (by decide), if_pos rfl]
theorem el_q39 {s R : List UInt8} (hR : R = [] ∨ R.getD 0 0 ≠ 39) : el (quoted 39 s ++ R) = (4, s, (quoted 39 s).length) := by
  have hq := quo_head 39 s R hR
  unfold el quoK quoT quoL
  rw [quoted_app_get, hq, if_no (by decide), if_no (is2_no (by rw [quoted_app_get]; decide)), if_no (is2_no (by rw [quoted_app_get]; decide)), if_no (by decide), if_no (by decide), if_neg (by decide), if_pos rfl]
theorem el_sign {t R : List UInt8} (h : signB t = true) (hR : R = [] ∨ joins 5 t (R.getD 0 0) = false) : el (t ++ R) = (5, t, t.length) := by
  rcases hR with rfl | hR
  · rw [List.append_nil]
    rcases signB_cases h with h | h | h | h | h | h | h | h | h | h | h | h | h | h | h | h <;> (subst h; rfl)
  · cases R with
    | nil =>
      rw [List.append_nil]
      rcases signB_cases h with h | h | h | h | h | h | h | h | h | h | h | h | h | h | h | h <;> (subst h; rfl)
    | cons y R =>
      have hR' : joins 5 t y = false := hR
      clear hR
      unfold joins at hR'
      rcases signB_cases h with h | h | h | h | h | h | h | h | h | h | h | h | h | h | h | h <;> subst h <;> simp at hR' <;> simp [el, spB, is2, dg, wd, ltr, signLen, signB, signs, hR']
theorem el_app {k : Int} {t R : List UInt8} (h : tokOk k t = true) (hR : R = [] ∨ joins k t (R.getD 0 0) = false) : el (tokTextL k t ++ R) = (k, t, (tokTextL k t).length) := by
  rcases tok_forms h with ⟨h1, h2, h4, h5, hw⟩ | ⟨rfl, h1, h2, ht⟩ | ⟨rfl, ht⟩ | ⟨rfl, hs, ht⟩
  · rw [hw.txt]
    refine el_word hw (hR.imp id fun hR => ?_)
    unfold joins at hR
    rw [if_neg h5, if_neg h4, if_no h2] at hR
    exact hR
  · rw [ht]
    refine el_q34 (hR.imp id fun hR => ?_)
    unfold joins at hR
    rw [if_neg (by decide), if_neg (by decide), if_pos h2] at hR
    simpa using hR
  · rw [ht]
    refine el_q39 (hR.imp id fun hR => ?_)
    unfold joins at hR
    rw [if_neg (by decide), if_pos rfl] at hR
    simpa using hR
  · rw [ht]
    exact el_sign hs hR
end Go.Proofs.YtcadoplfgclbjaaGreatDoor

/- What is written with blanks where they are asked for is read as the same tokens; where one is asked for, the two tokens without it are others; a text written anew is no longer. No program. -/
namespace Go.Proofs.YtcadoplfgclbjaaGreatDoor
open Go.RowKit

def keyT (x : Tk) : Int × List UInt8 := (x.k, x.t)
/-- the tokens' texts one behind the other, with blanks -/
def spL (all : Bool) : List (Int × List UInt8) → List UInt8
  | [] => []
  | [a] => tokTextL a.1 a.2
  | a :: b :: r => tokTextL a.1 a.2 ++ ((if all || gapB a.1 a.2 b.1 b.2 then [32] else []) ++ spL all (b :: r))

theorem wd_not2 {b : UInt8} (h : wd (b.toNat : Int) = true) : b ≠ 42 ∧ b ≠ 61 ∧ b ≠ 62 := by
  have hnb : ∀ c : UInt8, wd (c.toNat : Int) = false → ¬ b = c := fun c hc e => by rw [e, hc] at h; cases h
  exact ⟨hnb 42 (by decide), hnb 61 (by decide), hnb 62 (by decide)⟩
theorem joins_word {k : Int} {t : List UInt8} {b : UInt8} (h4 : k ≠ 4) (h5 : k ≠ 5) (hq : quotB k t = false) : joins k t b = wd (b.toNat : Int) := by
  unfold joins; rw [if_neg h5, if_neg h4, if_no hq]
theorem joins_q {t : List UInt8} {b : UInt8} (hq : quotB 2 t = true) : joins 2 t b = decide (b = 34) := by
  unfold joins; rw [if_neg (by decide), if_neg (by decide), if_pos hq]
theorem joins_t {t : List UInt8} {b : UInt8} : joins 4 t b = decide (b = 39) := by
  unfold joins; rw [if_neg (by decide), if_pos rfl]
theorem joins_s {t : List UInt8} {b : UInt8} : joins 5 t b = ((decide (t = [45]) && decide (b = 45)) || (decide (t = [47]) && decide (b = 42)) || (decide (t = [60]) && (decide (b = 61) || decide (b = 62))) || (decide (t = [62]) && decide (b = 61))) := by
  unfold joins; rw [if_pos rfl]
/-- a byte of a word joins a word alone -/
theorem joins_wd {k : Int} {t : List UInt8} {b : UInt8} (hb : wd (b.toNat : Int) = true) : joins k t b = (if k = 5 then false else if k = 4 then false else if quotB k t then false else true) := by
  obtain ⟨n1, n2, n3, n4, n5⟩ := wd_not hb
  obtain ⟨m1, m2, m3⟩ := wd_not2 hb
  unfold joins
  split
  · simp [n2, m1, m2, m3]
  · split
    · simp [n5]
    · split
      · simp [n4]
      · exact hb
theorem joins_blank (k : Int) (t : List UInt8) : joins k t 32 = false := by
  unfold joins
  split
  · simp
  · split
    · decide
    · split
      · decide
      · decide
theorem txt_pos {k : Int} {t : List UInt8} (h : tokOk k t = true) : 0 < (tokTextL k t).length := by
  rcases tok_forms h with ⟨_, _, _, _, hw⟩ | ⟨rfl, _, _, ht⟩ | ⟨rfl, ht⟩ | ⟨rfl, hs, ht⟩
  · rw [hw.txt]; exact (word_first hw).1
  · rw [ht]; simp [quoted]
  · rw [ht]; simp [quoted]
  · rw [ht]
    rcases signB_cases hs with h | h | h | h | h | h | h | h | h | h | h | h | h | h | h | h <;> (subst h; decide)
theorem kind_pos {k : Int} {t : List UInt8} (h : tokOk k t = true) : k ≠ 0 := by
  intro e; subst e; cases h
/-- a blank is asked for just where the first byte of the one would be read as a part of the other -/
theorem gap_joins {k k' : Int} {t t' : List UInt8} (h : tokOk k t = true) (h' : tokOk k' t' = true) : gapB k t k' t' = joins k t ((tokTextL k' t').getD 0 0) := by
  have g : gapB k t k' t' = (if (wrdB k t && wrdB k' t') || (decide (k = 4) && decide (k' = 4)) || (quotB k t && quotB k' t') then true else if decide (k = 5) && decide (k' = 5) then signGap t t' else false) := by
    unfold gapB; rw [h, h']; rfl
  rw [g]
  have sq : ∀ {s : List UInt8}, signB s = true → wd ((s.getD 0 0).toNat : Int) = false ∧ s.getD 0 0 ≠ 34 ∧ s.getD 0 0 ≠ 39 := fun hs => by
    rcases signB_cases hs with h | h | h | h | h | h | h | h | h | h | h | h | h | h | h | h <;> (subst h; decide)
  rcases tok_forms h with ⟨a1, a2, a4, a5, aw⟩ | ⟨rfl, a1, a2, at'⟩ | ⟨rfl, at'⟩ | ⟨rfl, asg, at'⟩
  · rw [joins_word a4 a5 a2, a1, a2, decide_eq_false a4, decide_eq_false a5]
    rcases tok_forms h' with ⟨b1, b2, b4, b5, bw⟩ | ⟨rfl, b1, b2, bt⟩ | ⟨rfl, bt⟩ | ⟨rfl, bs, bt⟩
    · rw [bw.txt, b1, (word_first bw).2]; rfl
    · rw [bt, b1]; rfl
    · rw [bt]; rfl
    · rw [bt, (sq bs).1]; rfl
  · rw [joins_q a2, a1, a2]
    rcases tok_forms h' with ⟨b1, b2, b4, b5, bw⟩ | ⟨rfl, b1, b2, bt⟩ | ⟨rfl, bt⟩ | ⟨rfl, bs, bt⟩
    · rw [bw.txt, b1, b2, decide_eq_false (wd_not (word_first bw).2).2.2.2.1]; rfl
    · rw [bt, b1, b2]; rfl
    · rw [bt]; rfl
    · rw [bt, decide_eq_false (sq bs).2.1]; rfl
  · rw [joins_t]
    rcases tok_forms h' with ⟨b1, b2, b4, b5, bw⟩ | ⟨rfl, b1, b2, bt⟩ | ⟨rfl, bt⟩ | ⟨rfl, bs, bt⟩
    · rw [bw.txt, b1, b2, decide_eq_false b4, decide_eq_false b5, decide_eq_false (wd_not (word_first bw).2).2.2.2.2]; rfl
    · rw [bt]; rfl
    · rw [bt]; rfl
    · rw [bt, decide_eq_false (sq bs).2.2]; rfl
  · rcases tok_forms h' with ⟨b1, b2, b4, b5, bw⟩ | ⟨rfl, b1, b2, bt⟩ | ⟨rfl, bt⟩ | ⟨rfl, bs, bt⟩
    · obtain ⟨n1, n2, n3, n4, n5⟩ := wd_not (word_first bw).2
      obtain ⟨m1, m2, m3⟩ := wd_not2 (word_first bw).2
      rw [joins_s, bw.txt, decide_eq_false b4, decide_eq_false b5, decide_eq_false n2, decide_eq_false m1, decide_eq_false m2, decide_eq_false m3]
      simp [wrdB, quotB]
    · rw [joins_s, bt]
      rcases signB_cases asg with h | h | h | h | h | h | h | h | h | h | h | h | h | h | h | h <;> (subst h; rfl)
    · rw [joins_s, bt]
      rcases signB_cases asg with h | h | h | h | h | h | h | h | h | h | h | h | h | h | h | h <;> (subst h; rfl)
    · rw [joins_s, bt]
      clear g h h' at' bt
      rcases signB_cases asg with h | h | h | h | h | h | h | h | h | h | h | h | h | h | h | h <;> subst h <;>
        rcases signB_cases bs with h | h | h | h | h | h | h | h | h | h | h | h | h | h | h | h <;> subst h <;> rfl

/-! ### What is written is read -/
theorem step_tok {l : List UInt8} {a : Nat} {k : Int} {t : List UInt8} {n : Nat} (hn : 0 < n) (h : tokOk k t = true) : stepE l a (k, t, n) = (lexF l (a + n)).map fun L => ⟨k, t, a⟩ :: L := by
  unfold stepE
  rw [if_neg (by show ¬ n = 0; omega), if_neg (kind_pos h), h, if_neg (by simp)]
theorem spL_first {all : Bool} {y : Int × List UInt8} {r : List (Int × List UInt8)} (h : tokOk y.1 y.2 = true) : (spL all (y :: r)).getD 0 0 = (tokTextL y.1 y.2).getD 0 0 := by
  have := txt_pos h
  cases r with
  | nil => rfl
  | cons z r => exact app_getD_lt this
theorem drop_app {l X R : List UInt8} {a : Nat} (h : l.drop a = X ++ R) : l.drop (a + X.length) = R := by
  rw [← List.drop_drop, h, List.drop_left]
theorem lex_sp (all : Bool) : ∀ (L : List (Int × List UInt8)) (l : List UInt8) (a : Nat), (∀ x ∈ L, tokOk x.1 x.2 = true) → l.drop a = spL all L → ∃ L', lexF l a = .ok L' ∧ L'.map keyT = L
  | [], l, a, _, hd => by
    have hle : l.length ≤ a := List.drop_eq_nil_iff.1 hd
    exact ⟨[], lexF_end (p := a) (pass_out (by omega)) (by omega), rfl⟩
  | [x], l, a, hok, hd => by
    have hx := hok x (by simp)
    have hp := txt_pos hx
    have hd' : l.drop a = tokTextL x.1 x.2 ++ [] := by rw [hd, List.append_nil]; rfl
    have hal : a < l.length := by
      have := congrArg List.length hd'
      rw [List.length_drop, List.length_append] at this
      omega
    have he := lex_el l a hal
    have hend := drop_app hd'
    have hle : l.length ≤ a + (tokTextL x.1 x.2).length := List.drop_eq_nil_iff.1 hend
    rw [hd', el_app hx (.inl rfl), step_tok hp hx, lexF_end (p := a + (tokTextL x.1 x.2).length) (pass_out (by omega)) (by omega)] at he
    exact ⟨_, he, rfl⟩
  | x :: y :: r, l, a, hok, hd => by
    have hx := hok x (by simp)
    have hy := hok y (by simp)
    have hp := txt_pos hx
    have hpy := txt_pos hy
    have hd' : l.drop a = tokTextL x.1 x.2 ++ ((if all || gapB x.1 x.2 y.1 y.2 then [32] else []) ++ spL all (y :: r)) := hd
    have hal : a < l.length := by
      have := congrArg List.length hd'
      rw [List.length_drop, List.length_append] at this
      omega
    have he := lex_el l a hal
    have hrest := drop_app hd'
    have hj : joins x.1 x.2 (((if all || gapB x.1 x.2 y.1 y.2 then [32] else []) ++ spL all (y :: r) : List UInt8).getD 0 0) = false := by
      cases hg : (all || gapB x.1 x.2 y.1 y.2)
      · rw [if_no rfl, List.nil_append, spL_first hy, ← gap_joins hx hy]
        simpa using (Bool.or_eq_false_iff.1 hg).2
      · rw [if_pos rfl]
        exact joins_blank _ _
    rw [hd', el_app hx (.inr hj), step_tok hp hx] at he
    have ih : ∃ L', lexF l (a + (tokTextL x.1 x.2).length) = .ok L' ∧ L'.map keyT = y :: r := by
      cases hg : (all || gapB x.1 x.2 y.1 y.2)
      · rw [hg, if_no rfl, List.nil_append] at hrest
        exact lex_sp all (y :: r) l _ (fun z hz => hok z (by simp at hz ⊢; exact .inr hz)) hrest
      · rw [hg, if_pos rfl] at hrest
        have hbl : a + (tokTextL x.1 x.2).length < l.length := by
          have := congrArg List.length hrest
          rw [List.length_drop, List.length_append] at this
          simp at this
          omega
        have hs := lex_el l _ hbl
        rw [hrest] at hs
        have e : el ([32] ++ spL all (y :: r)) = (0, [], 1) := rfl
        have hs' : lexF l (a + (tokTextL x.1 x.2).length) = lexF l (a + (tokTextL x.1 x.2).length + 1) := by
          rw [hs, e]; rfl
        rw [hs']
        exact lex_sp all (y :: r) l _ (fun z hz => hok z (by simp at hz ⊢; exact .inr hz)) (drop_app (X := [32]) hrest)
    obtain ⟨L', h1, h2⟩ := ih
    rw [h1] at he
    exact ⟨_, he, by rw [List.map_cons, h2]; rfl⟩
theorem lexR_sp {all : Bool} {L : List (Int × List UInt8)} (hok : ∀ x ∈ L, tokOk x.1 x.2 = true) (h : (spL all L).length ≤ 2000) : ∃ L', lexR (spL all L) = .ok L' ∧ L'.map keyT = L := by
  obtain ⟨L', h1, h2⟩ := lex_sp all L (spL all L) 0 hok rfl
  exact ⟨L', by unfold lexR; rw [if_neg (by omega)]; exact h1, h2⟩

/-! ### Without the blank -/
theorem whole_one {l : List UInt8} (hl : 0 < l.length) (h : (el l).2.2 = l.length) {L : List Tk} (hL : lexF l 0 = .ok L) : L.length ≤ 1 := by
  have he := lex_el l 0 hl
  rw [List.drop_zero] at he
  rcases hE : el l with ⟨k, t, n⟩
  rw [hE] at h he
  have hn : n = l.length := h
  have hend : lexF l (0 + n) = .ok [] := lexF_end (p := 0 + n) (pass_out (by omega)) (by omega)
  unfold stepE at he
  rw [hL] at he
  split at he
  · cases he
  · split at he
    · rw [hend] at he
      cases he; simp
    · split at he
      · cases he
      · rw [hend] at he
        cases he; simp
theorem el_run {l : List UInt8} (h : wd ((l.getD 0 0).toNat : Int) = true) : (el l).2.2 = runEnd l 0 := by
  obtain ⟨n1, n2, n3, n4, n5⟩ := wd_not h
  unfold el
  rw [if_no n1, if_no (is2_no n2), if_no (is2_no n3)]
  split
  · rfl
  · split <;> rfl
theorem dbl_app (q : UInt8) (s t : List UInt8) : dbl q (s ++ t) = dbl q s ++ dbl q t := by
  induction s with
  | nil => rfl
  | cons b s ih =>
    by_cases h : b = q
    · subst h; rw [List.cons_append, dbl_eq, dbl_eq, ih]; rfl
    · rw [List.cons_append, dbl_ne h, dbl_ne h, ih]; rfl
theorem quoted_app (q : UInt8) (s t : List UInt8) : quoted q s ++ quoted q t = quoted q (s ++ q :: t) := by
  unfold quoted
  rw [dbl_app, dbl_eq]
  simp
/-- where a blank is asked for, the two without it are no such two -/
theorem lex_joined {k k' : Int} {t t' : List UInt8} (h : tokOk k t = true) (h' : tokOk k' t' = true) (hg : gapB k t k' t' = true) {L : List Tk} (hL : lexF (tokTextL k t ++ tokTextL k' t') 0 = .ok L) : L.map keyT ≠ [(k, t), (k', t')] := by
  have two : ∀ {l : List UInt8}, 0 < l.length → (el l).2.2 = l.length → lexF l 0 = .ok L → L.map keyT ≠ [(k, t), (k', t')] := fun h1 h2 h3 e => by
    have := whole_one h1 h2 h3
    have := congrArg List.length e
    simp at this
    omega
  rw [gap_joins h h'] at hg
  rcases tok_forms h with ⟨a1, a2, a4, a5, aw⟩ | ⟨rfl, a1, a2, at'⟩ | ⟨rfl, at'⟩ | ⟨rfl, asg, at'⟩
  · rw [joins_word a4 a5 a2] at hg
    rcases tok_forms h' with ⟨b1, b2, b4, b5, bw⟩ | ⟨rfl, b1, b2, bt⟩ | ⟨rfl, bt⟩ | ⟨rfl, bs, bt⟩
    · rw [aw.txt, bw.txt] at hL
      have hall : allWd (t ++ t') = true := by
        have h1 := aw.all
        have h2 := bw.all
        unfold allWd at h1 h2 ⊢
        rw [List.all_append, h1, h2]; rfl
      have hw := word_first aw
      refine two ?_ ?_ hL
      · rw [List.length_append]; omega
      · rw [el_run (by rw [app_getD_lt hw.1]; exact hw.2)]
        exact runEnd_all hall _ 0 rfl (Nat.zero_le _)
    · rw [bt] at hg; cases hg
    · rw [bt] at hg; cases hg
    · rw [bt] at hg
      rcases signB_cases bs with h | h | h | h | h | h | h | h | h | h | h | h | h | h | h | h <;> (subst h; cases hg)
  · rw [joins_q a2] at hg
    rcases tok_forms h' with ⟨b1, b2, b4, b5, bw⟩ | ⟨rfl, b1, b2, bt⟩ | ⟨rfl, bt⟩ | ⟨rfl, bs, bt⟩
    · rw [bw.txt, decide_eq_false (wd_not (word_first bw).2).2.2.2.1] at hg; cases hg
    · rw [at', bt, quoted_app] at hL
      refine two (quoted_pos _ _) ?_ hL
      have := el_q34 (s := t ++ 34 :: t') (R := []) (.inl rfl)
      rw [List.append_nil] at this
      rw [this]
    · rw [bt] at hg; cases hg
    · rw [bt] at hg
      rcases signB_cases bs with h | h | h | h | h | h | h | h | h | h | h | h | h | h | h | h <;> (subst h; cases hg)
  · rw [joins_t] at hg
    rcases tok_forms h' with ⟨b1, b2, b4, b5, bw⟩ | ⟨rfl, b1, b2, bt⟩ | ⟨rfl, bt⟩ | ⟨rfl, bs, bt⟩
    · rw [bw.txt, decide_eq_false (wd_not (word_first bw).2).2.2.2.2] at hg; cases hg
    · rw [bt] at hg; cases hg
    · rw [at', bt, quoted_app] at hL
      refine two (quoted_pos _ _) ?_ hL
      have := el_q39 (s := t ++ 39 :: t') (R := []) (.inl rfl)
      rw [List.append_nil] at this
      rw [this]
    · rw [bt] at hg
      rcases signB_cases bs with h | h | h | h | h | h | h | h | h | h | h | h | h | h | h | h <;> (subst h; cases hg)
  · rw [joins_s] at hg
    rcases tok_forms h' with ⟨b1, b2, b4, b5, bw⟩ | ⟨rfl, b1, b2, bt⟩ | ⟨rfl, bt⟩ | ⟨rfl, bs, bt⟩
    · obtain ⟨n1, n2, n3, n4, n5⟩ := wd_not (word_first bw).2
      obtain ⟨m1, m2, m3⟩ := wd_not2 (word_first bw).2
      rw [bw.txt, decide_eq_false n2, decide_eq_false m1, decide_eq_false m2, decide_eq_false m3] at hg
      simp at hg
    · rw [bt] at hg
      have e : (quoted 34 t').getD 0 0 = 34 := rfl
      rw [e] at hg
      simp at hg
    · rw [bt] at hg
      have e : (quoted 39 t').getD 0 0 = 39 := rfl
      rw [e] at hg
      simp at hg
    · rw [bt] at hg
      rw [at', bt] at hL
      have hc : (t = [45] ∧ t' = [45]) ∨ (t = [47] ∧ t' = [42]) ∨ (t = [60] ∧ (t' = [61] ∨ t' = [62] ∨ t' = [62, 61])) ∨ (t = [62] ∧ t' = [61]) := by
        rcases signB_cases bs with h | h | h | h | h | h | h | h | h | h | h | h | h | h | h | h <;> subst h <;> simp at hg <;> simp [hg]
      rcases hc with ⟨rfl, rfl⟩ | ⟨rfl, rfl⟩ | ⟨rfl, rfl | rfl | rfl⟩ | ⟨rfl, rfl⟩
      · refine two (by decide) ?_ hL
        have e : (el ([45] ++ [45])).2.2 = lineEnd [45, 45] 0 := rfl
        rw [e]
        have h1 := line_two (l := [45, 45]) (k := 0) rfl
        have h2 := lineEnd_le [45, 45] _ 0 rfl (by decide)
        have h3 : ([45, 45] : List UInt8).length = 2 := rfl
        have h4 : ([45] ++ [45] : List UInt8).length = 2 := rfl
        omega
      · have he := lex_el ([47] ++ [42]) 0 (by decide)
        have e : el (([47] ++ [42] : List UInt8).drop 0) = (0, [], longLen [47, 42]) := rfl
        have e2 : longLen [47, 42] = 0 := by
          unfold longLen
          rw [close_out (by decide)]; rfl
        rw [e, e2, hL] at he
        cases he
      · exact two (by decide) rfl hL
      · exact two (by decide) rfl hL
      · have he := lex_el ([60] ++ [62, 61]) 0 (by decide)
        have e : el (([60] ++ [62, 61] : List UInt8).drop 0) = (5, [60, 62], 2) := rfl
        rw [e, hL, step_tok (by omega) (by decide)] at he
        intro hk
        rcases hr : lexF ([60] ++ [62, 61]) (0 + 2) with p | M
        · rw [hr] at he; cases he
        · rw [hr] at he
          cases he
          simp [keyT] at hk
      · exact two (by decide) rfl hL
end Go.Proofs.YtcadoplfgclbjaaGreatDoor

/- A text written anew, token by token, is no longer than it was. No program. -/
namespace Go.Proofs.YtcadoplfgclbjaaGreatDoor
open Go.RowKit

/-- how long a text between quotes is, and what stands behind it -/
theorem quo_exact (q : UInt8) (l : List UInt8) : ∀ (n i : Nat) (r : List UInt8 × Nat), l.length - i ≤ n → quo q l i = some r → i + (dbl q r.1).length + 1 = r.2 ∧ (r.2 = l.length ∨ l.getD r.2 0 ≠ q)
  | 0, i, r, h, hr => by rw [quo_out (by omega)] at hr; cases hr
  | n + 1, i, r, h, hr => by
    have hi : i < l.length := by
      have := quo_end q l _ i (Nat.le_refl _) r hr
      omega
    by_cases hq : l.getD i 0 = q
    · by_cases h2 : i + 1 < l.length ∧ l.getD (i + 1) 0 = q
      · rw [quo_two hi hq h2.1 h2.2] at hr
        obtain ⟨r', h1, rfl⟩ := Option.map_eq_some_iff.1 hr
        have ih := quo_exact q l n (i + 2) r' (by omega) h1
        refine ⟨?_, ih.2⟩
        show i + (dbl q (q :: r'.1)).length + 1 = r'.2
        rw [dbl_eq, List.length_cons, List.length_cons]
        omega
      · rw [quo_stop hi hq h2] at hr
        cases hr
        refine ⟨rfl, ?_⟩
        by_cases h3 : i + 1 < l.length
        · exact .inr fun e => h2 ⟨h3, e⟩
        · exact .inl (by show i + 1 = l.length; omega)
    · rw [quo_other hi hq] at hr
      obtain ⟨r', h1, rfl⟩ := Option.map_eq_some_iff.1 hr
      have ih := quo_exact q l n (i + 1) r' (by omega) h1
      refine ⟨?_, ih.2⟩
      show i + (dbl q (l.getD i 0 :: r'.1)).length + 1 = r'.2
      rw [dbl_ne hq, List.length_cons]
      omega
theorem run_stop (l : List UInt8) : ∀ (n a : Nat), l.length - a = n → a ≤ l.length → runEnd l a = l.length ∨ wd ((l.getD (runEnd l a) 0).toNat : Int) = false
  | 0, a, h, h2 => by rw [runEnd_out (by omega)]; exact .inl (by omega)
  | n + 1, a, h, h2 => by
    cases hw : wd ((l.getD a 0).toNat : Int)
    · rw [runEnd_no (by omega) hw]; exact .inr hw
    · rw [runEnd_yes (by omega) hw]; exact run_stop l n (a + 1) (by omega) (by omega)
theorem run_wd (l : List UInt8) : ∀ (n a : Nat), l.length - a = n → a ≤ l.length → ∀ b ∈ sl l a (runEnd l a), wd (b.toNat : Int) = true
  | 0, a, h, h2 => by rw [runEnd_out (by omega)]; unfold sl; simp
  | n + 1, a, h, h2 => by
    cases hw : wd ((l.getD a 0).toNat : Int)
    · rw [runEnd_no (by omega) hw]; unfold sl; simp
    · rw [runEnd_yes (by omega) hw]
      have hge := runEnd_ge l _ (a + 1) rfl
      rw [sl_cons (by omega) (by omega)]
      intro b hb
      rcases List.mem_cons.1 hb with rfl | hb
      · exact hw
      · exact run_wd l n (a + 1) (by omega) (by omega) b hb
/-- what is written for an element: shorter by two, or no longer, and then it begins and ends as the element -/
theorem el_len {l : List UInt8} {k : Int} {t : List UInt8} {n : Nat} (hl : 0 < l.length) (h : el l = (k, t, n)) (hn : 0 < n) (hk : tokOk k t = true) :
    (tokTextL k t).length + 2 ≤ n ∨ ((tokTextL k t).length ≤ n ∧ (n = l.length ∨ joins k t (l.getD n 0) = false) ∧ ∀ k' t', joins k' t' ((tokTextL k t).getD 0 0) = joins k' t' (l.getD 0 0)) := by
  have hkp := kind_pos hk
  have hrl := runEnd_le l _ 0 rfl (by omega)
  have hsl : (sl l 0 (runEnd l 0)).length = runEnd l 0 := by unfold sl; simp; omega
  have hrs := run_stop l _ 0 rfl (by omega)
  have hslg : 0 < runEnd l 0 → (sl l 0 (runEnd l 0)).getD 0 0 = l.getD 0 0 := fun h0 => by rw [sl_cons hl h0]; rfl
  have hword : ∀ {k t}, wrdB k t = true → tokOk k t = true → t.length = runEnd l 0 → 0 < runEnd l 0 → (wd ((t.getD 0 0).toNat : Int) = true → wd ((l.getD 0 0).toNat : Int) = true) → n = runEnd l 0 →
      ((tokTextL k t).length ≤ n ∧ (n = l.length ∨ joins k t (l.getD n 0) = false) ∧ ∀ k' t', joins k' t' ((tokTextL k t).getD 0 0) = joins k' t' (l.getD 0 0)) := by
    intro k t hb hk hlen h0 hfst hn
    rcases tok_forms hk with ⟨a1, a2, a4, a5, aw⟩ | ⟨rfl, a1, a2, at'⟩ | ⟨rfl, at'⟩ | ⟨rfl, asg, at'⟩
    · rw [aw.txt]
      have hwf := (word_first aw).2
      refine ⟨by omega, ?_, fun k' t' => ?_⟩
      · rw [hn, joins_word a4 a5 a2]; exact hrs
      · rw [joins_wd hwf, joins_wd (hfst hwf)]
    · rw [a1] at hb; cases hb
    · cases hb
    · cases hb
  unfold el at h
  cases h1 : spB (l.getD 0 0)
  case true => rw [h1, if_pos rfl] at h; cases h; exact absurd rfl hkp
  rw [if_no h1] at h
  cases h2 : is2 l 0 45 45
  case true => rw [h2, if_pos rfl] at h; cases h; exact absurd rfl hkp
  rw [if_no h2] at h
  cases h3 : is2 l 0 47 42
  case true => rw [h3, if_pos rfl] at h; cases h; exact absurd rfl hkp
  rw [if_no h3] at h
  cases h4 : dg ((l.getD 0 0).toNat : Int)
  case true =>
    rw [h4, if_pos rfl] at h; cases h
    exact .inr (hword rfl hk hsl hn (fun _ => by unfold wd; rw [h4]; simp) rfl)
  rw [if_no h4] at h
  cases h5 : wd ((l.getD 0 0).toNat : Int)
  case true =>
    rw [h5, if_pos rfl] at h
    by_cases h6 : 0 < numOf (upL (sl l 0 (runEnd l 0)))
    · rw [if_pos h6] at h; cases h
      exact .inr (hword rfl hk (by rw [upL_len]; exact hsl) hn (fun _ => h5) rfl)
    · rw [if_neg h6] at h; cases h
      have hp : plainB (sl l 0 (runEnd l 0)) = true := by
        unfold plainB
        have e1 : okLen (sl l 0 (runEnd l 0)).length = true := hk
        have e2 : allWd (sl l 0 (runEnd l 0)) = true := by
          unfold allWd
          rw [List.all_eq_true]
          exact run_wd l _ 0 rfl (by omega)
        rw [e1, e2, hslg hn, h4, decide_eq_true (show numOf (upL (sl l 0 (runEnd l 0))) = 0 by omega)]
        rfl
      exact .inr (hword (by unfold wrdB; rw [hp]; rfl) hk hsl hn (fun _ => h5) rfl)
  rw [if_no h5] at h
  by_cases h6 : l.getD 0 0 = 34
  · rw [if_pos h6] at h
    unfold quoK quoT quoL at h
    rcases hq : quo 34 l 1 with _ | r
    · rw [hq] at h; cases h; exact absurd rfl hkp
    · rw [hq] at h
      cases h
      obtain ⟨e1, e2⟩ := quo_exact 34 l _ 1 r (Nat.le_refl _) hq
      have e3 := quo_end 34 l _ 1 (Nat.le_refl _) r hq
      rcases tok_forms hk with ⟨a1, a2, a4, a5, aw⟩ | ⟨_, a1, a2, at'⟩ | ⟨e, at'⟩ | ⟨e, asg, at'⟩
      · rw [aw.txt]
        exact .inl (by show r.1.length + 2 ≤ r.2; omega)
      · rw [at']
        refine .inr ⟨?_, ?_, fun k' t' => ?_⟩
        · show (quoted 34 r.1).length ≤ r.2
          simp [quoted]; omega
        · rw [joins_q a2]
          exact e2.imp id fun h => decide_eq_false h
        · rw [h6]; rfl
      · cases e
      · cases e
  rw [if_neg h6] at h
  by_cases h7 : l.getD 0 0 = 39
  · rw [if_pos h7] at h
    unfold quoK quoT quoL at h
    rcases hq : quo 39 l 1 with _ | r
    · rw [hq] at h; cases h; exact absurd rfl hkp
    · rw [hq] at h
      cases h
      obtain ⟨e1, e2⟩ := quo_exact 39 l _ 1 r (Nat.le_refl _) hq
      have e : tokTextL 4 r.1 = quoted 39 r.1 := by unfold tokTextL; rw [if_pos hk]; rfl
      rw [e]
      refine .inr ⟨?_, ?_, fun k' t' => ?_⟩
      · show (quoted 39 r.1).length ≤ r.2
        simp [quoted]; omega
      · rw [joins_t]
        exact e2.imp id fun h => decide_eq_false h
      · rw [h7]; rfl
  rw [if_neg h7] at h
  cases h
  have e : tokTextL 5 (l.take (signLen l)) = l.take (signLen l) := by unfold tokTextL; rw [if_pos hk]; rfl
  have hle := signLen_le l
  rw [e]
  refine .inr ⟨by rw [List.length_take]; omega, ?_, fun k' t' => ?_⟩
  · rw [joins_s]
    by_cases h8 : signLen l = l.length
    · exact .inl h8
    · refine .inr ?_
      unfold signLen at hn h8 ⊢
      by_cases h9 : 2 ≤ l.length ∧ signB (l.take 2) = true
      · rw [if_pos h9]
        have hlen : (l.take 2).length = 2 := by rw [List.length_take]; omega
        have hne : ∀ x : UInt8, l.take 2 ≠ [x] := fun x e => by rw [e] at hlen; cases hlen
        rw [decide_eq_false (hne 45), decide_eq_false (hne 47), decide_eq_false (hne 60), decide_eq_false (hne 62)]
        rfl
      · rw [if_neg h9] at hn h8 ⊢
        by_cases h10 : 1 ≤ l.length ∧ signB (l.take 1) = true
        · rw [if_pos h10] at h8 ⊢
          match l, h8 with
          | [a], h8 => exact absurd rfl h8
          | a :: b :: r, _ =>
            have i1 : ¬ (a = 45 ∧ b = 45) := fun e => by
              rw [e.1, e.2] at h2; cases h2
            have i2 : ¬ (a = 47 ∧ b = 42) := fun e => by
              rw [e.1, e.2] at h3; cases h3
            have i3 : ¬ signB [a, b] = true := fun e => h9 ⟨by simp, e⟩
            have j1 : ¬ (a = 60 ∧ b = 61) := fun e => i3 (by rw [e.1, e.2]; decide)
            have j2 : ¬ (a = 60 ∧ b = 62) := fun e => i3 (by rw [e.1, e.2]; decide)
            have j3 : ¬ (a = 62 ∧ b = 61) := fun e => i3 (by rw [e.1, e.2]; decide)
            show ((decide ([a] = [45]) && decide (b = 45)) || (decide ([a] = [47]) && decide (b = 42)) || (decide ([a] = [60]) && (decide (b = 61) || decide (b = 62))) || (decide ([a] = [62]) && decide (b = 61))) = false
            simp only [List.cons.injEq, and_true]
            simp
            exact ⟨⟨⟨fun x y => i1 ⟨x, y⟩, fun x y => i2 ⟨x, y⟩⟩, fun x => ⟨fun y => j1 ⟨x, y⟩, fun y => j2 ⟨x, y⟩⟩⟩, fun x y => j3 ⟨x, y⟩⟩
        · rw [if_neg h10] at hn; omega
  · have : (l.take (signLen l)).getD 0 0 = l.getD 0 0 := by
      match l, hn with
      | [], _ => cases hl
      | a :: r, hn =>
        obtain ⟨m, hm⟩ : ∃ m, signLen (a :: r) = m + 1 := ⟨signLen (a :: r) - 1, by omega⟩
        rw [hm]; rfl
    rw [this]

/-- the blank between, as a number -/
def gapN (p : Int × List UInt8) : List (Int × List UInt8) → Nat
  | [] => 0
  | y :: _ => if gapB p.1 p.2 y.1 y.2 then 1 else 0
theorem gapN_cons (p y : Int × List UInt8) (r : List (Int × List UInt8)) : gapN p (y :: r) = if gapB p.1 p.2 y.1 y.2 then 1 else 0 := rfl
theorem spL_len (x : Int × List UInt8) (r : List (Int × List UInt8)) : (spL false (x :: r)).length = (tokTextL x.1 x.2).length + gapN x r + (spL false r).length := by
  cases r with
  | nil => rfl
  | cons y r =>
    show (tokTextL x.1 x.2 ++ ((if false || gapB x.1 x.2 y.1 y.2 then [32] else []) ++ spL false (y :: r))).length = _
    rw [Bool.false_or, List.length_append, List.length_append, gapN_cons]
    cases gapB x.1 x.2 y.1 y.2
    · rw [if_no rfl, if_no rfl]; simp
    · rw [if_pos rfl, if_pos rfl, List.length_singleton]; omega
theorem gapN_le (p : Int × List UInt8) (r : List (Int × List UInt8)) : gapN p r ≤ 1 := by
  cases r with
  | nil => exact Nat.zero_le _
  | cons y r =>
    rw [gapN_cons]
    cases gapB p.1 p.2 y.1 y.2
    · exact Nat.zero_le _
    · exact Nat.le_refl _
/-- from a on: what is written is no longer than what is read; and a blank ahead of it finds room where nothing is joined -/
theorem sqz (l : List UInt8) : ∀ (m a : Nat), l.length - a ≤ m → a ≤ l.length → ∀ L, lexF l a = .ok L →
    (spL false (L.map keyT)).length + a ≤ l.length ∧ ∀ k t, tokOk k t = true → (a = l.length ∨ joins k t (l.getD a 0) = false) → gapN (k, t) (L.map keyT) + (spL false (L.map keyT)).length + a ≤ l.length := by
  intro m
  induction m with
  | zero =>
    intro a hm ha L hL
    rw [lexF_end (p := a) (pass_out (by omega)) (by omega)] at hL
    cases hL
    exact ⟨by simpa [spL] using ha, fun k t _ _ => by simpa [spL, gapN] using ha⟩
  | succ m ih =>
    intro a hm ha L hL
    by_cases hal : a < l.length
    · have he := lex_el l a hal
      have hel := el_le (l.drop a) (by rw [List.length_drop]; omega)
      rw [List.length_drop] at hel
      have hlen := @el_len (l.drop a)
      rcases hE : el (l.drop a) with ⟨k, t, n⟩
      rw [hE] at he hel
      have hel' : n ≤ l.length - a := hel
      rw [hL] at he
      unfold stepE at he
      by_cases hn : n = 0
      · rw [if_pos hn] at he; cases he
      · rw [if_neg hn] at he
        by_cases hk : k = 0
        · rw [if_pos hk] at he
          have h1 := (ih (a + n) (by omega) (by omega) L he.symm).1
          refine ⟨by omega, fun k' t' _ _ => ?_⟩
          have := gapN_le (k', t') (L.map keyT)
          omega
        · rw [if_neg hk] at he
          cases hO : tokOk k t
          · rw [if_pos hO] at he; cases he
          · rw [if_neg (by show ¬ tokOk k t = false; rw [hO]; simp)] at he
            rcases hr : lexF l (a + n) with p | M
            · have hr' : lexF l (a + (k, t, n).2.2) = .error p := hr
              rw [hr'] at he; cases he
            · have hr' : lexF l (a + (k, t, n).2.2) = .ok M := hr
              rw [hr'] at he
              have he' : L = ⟨k, t, a⟩ :: M := by cases he; rfl
              subst he'
              have hmap : (⟨k, t, a⟩ :: M : List Tk).map keyT = (k, t) :: M.map keyT := rfl
              rw [hmap, spL_len]
              obtain ⟨i1, i2⟩ := ih (a + n) (by omega) (by omega) M hr
              have hg1 := gapN_le (k, t) (M.map keyT)
              have hX : (tokTextL (k, t).1 (k, t).2).length = (tokTextL k t).length := rfl
              rw [hX]
              rcases hlen (by rw [List.length_drop]; omega) hE (by omega) hO with h1 | ⟨h1, h2, h3⟩
              · refine ⟨by omega, fun k' t' _ _ => ?_⟩
                have := gapN_le (k', t') ((k, t) :: M.map keyT)
                omega
              · have h2' : a + n = l.length ∨ joins k t (l.getD (a + n) 0) = false := by
                  rw [List.length_drop, getD_drop] at h2
                  exact h2.imp (fun e => by omega) id
                have i3 := i2 k t hO h2'
                refine ⟨by omega, fun k' t' hk' hj => ?_⟩
                have hj' : joins k' t' (l.getD a 0) = false := hj.resolve_left (by omega)
                have hg : gapN (k', t') ((k, t) :: M.map keyT) = 0 := by
                  rw [gapN_cons, gap_joins hk' hO]
                  have := h3 k' t'
                  rw [getD_drop] at this
                  show (if joins k' t' ((tokTextL k t).getD 0 0) = true then 1 else 0) = 0
                  rw [this, Nat.add_zero, hj']; rfl
                rw [hg]
                omega
    · rw [lexF_end (p := a) (pass_out (by omega)) (by omega)] at hL
      cases hL
      exact ⟨by simpa [spL] using ha, fun k t _ _ => by simpa [spL, gapN] using ha⟩
theorem lexF_ok : ∀ (m : Nat) (l : List UInt8) (a : Nat), l.length - a ≤ m → ∀ L, lexF l a = .ok L → ∀ x ∈ L.map keyT, tokOk x.1 x.2 = true := by
  intro m
  induction m with
  | zero =>
    intro l a hm L hL
    rw [lexF_end (p := a) (pass_out (by omega)) (by omega)] at hL
    cases hL
    intro x hx; cases hx
  | succ m ih =>
    intro l a hm L hL
    by_cases hal : a < l.length
    · have he := lex_el l a hal
      rcases hE : el (l.drop a) with ⟨k, t, n⟩
      rw [hE, hL] at he
      unfold stepE at he
      by_cases hn : n = 0
      · rw [if_pos hn] at he; cases he
      · rw [if_neg hn] at he
        by_cases hk : k = 0
        · rw [if_pos hk] at he
          exact ih l (a + n) (by omega) L he.symm
        · rw [if_neg hk] at he
          cases hO : tokOk k t
          · rw [if_pos hO] at he; cases he
          · rw [if_neg (by show ¬ tokOk k t = false; rw [hO]; simp)] at he
            rcases hr : lexF l (a + n) with p | M
            · have hr' : lexF l (a + (k, t, n).2.2) = .error p := hr
              rw [hr'] at he; cases he
            · have hr' : lexF l (a + (k, t, n).2.2) = .ok M := hr
              rw [hr'] at he
              have he' : L = ⟨k, t, a⟩ :: M := by cases he; rfl
              subst he'
              intro x hx
              rcases List.mem_cons.1 hx with rfl | hx
              · exact hO
              · exact ih l (a + n) (by omega) M hr x hx
    · rw [lexF_end (p := a) (pass_out (by omega)) (by omega)] at hL
      cases hL
      intro x hx; cases hx
/-- what is read is written anew in no more bytes, and read as the same -/
theorem lexR_sqz {l : List UInt8} {L : List Tk} (h : lexR l = .ok L) :
    (∀ x ∈ L.map keyT, tokOk x.1 x.2 = true) ∧ (spL false (L.map keyT)).length ≤ l.length ∧ l.length ≤ 2000 ∧ ∃ L', lexR (spL false (L.map keyT)) = .ok L' ∧ L'.map keyT = L.map keyT := by
  unfold lexR at h
  split at h
  · cases h
  · rename_i h2
    have hok := lexF_ok _ l 0 (Nat.le_refl _) L h
    have hs := (sqz l _ 0 (Nat.le_refl _) (Nat.zero_le _) L h).1
    exact ⟨hok, by omega, by omega, lexR_sp hok (by omega)⟩
end Go.Proofs.YtcadoplfgclbjaaGreatDoor

/- Tokens in a slice, written one behind the other: what comes of it; the steps. No program. -/
namespace Go.Proofs.YtcadoplfgclbjaaGreatDoor
open Go.RowKit

/-- token j as a kind and a list of bytes -/
def keyAt (f : Nat → Int × ByteArray × Int) (j : Nat) : Int × List UInt8 := ((f j).1, (f j).2.1.data.toList)
def keyF (n : Nat) (f : Nat → Int × ByteArray × Int) : List (Int × List UInt8) := (List.range n).map (keyAt f)
def okAt (f : Nat → Int × ByteArray × Int) (j : Nat) : Bool := tokOk (f j).1 (f j).2.1.data.toList
/-- what Spaced and Loose give -/
def joinL (all : Bool) (n : Nat) (f : Nat → Int × ByteArray × Int) : List UInt8 :=
  if (List.range n).all (okAt f) then (if 2000 < (spL all (keyF n f)).length then [] else spL all (keyF n f)) else []
theorem keyF_succ (n : Nat) (f : Nat → Int × ByteArray × Int) : keyF (n + 1) f = keyF n f ++ [keyAt f n] := by
  unfold keyF; rw [List.range_succ, List.map_append]; rfl
theorem spL_two (all : Bool) (a b : Int × List UInt8) : ∀ L : List (Int × List UInt8), spL all (L ++ [a, b]) = spL all (L ++ [a]) ++ ((if all || gapB a.1 a.2 b.1 b.2 then [32] else []) ++ tokTextL b.1 b.2)
  | [] => rfl
  | [x] => by
    show tokTextL x.1 x.2 ++ (_ ++ (tokTextL a.1 a.2 ++ (_ ++ tokTextL b.1 b.2))) = (tokTextL x.1 x.2 ++ (_ ++ tokTextL a.1 a.2)) ++ (_ ++ tokTextL b.1 b.2)
    simp only [List.append_assoc]
  | x :: y :: L => by
    have ih := spL_two all a b (y :: L)
    show tokTextL x.1 x.2 ++ ((if all || gapB x.1 x.2 y.1 y.2 then [32] else []) ++ spL all (y :: L ++ [a, b])) = (tokTextL x.1 x.2 ++ ((if all || gapB x.1 x.2 y.1 y.2 then [32] else []) ++ spL all (y :: L ++ [a]))) ++ _
    rw [ih]
    simp only [List.append_assoc]
/-- a blank ahead of token k -/
def blankB (all : Bool) (f : Nat → Int × ByteArray × Int) (k : Nat) : Bool := decide (0 < k) && (all || gapB (f (k - 1)).1 (f (k - 1)).2.1.data.toList (f k).1 (f k).2.1.data.toList)
theorem spL_step (all : Bool) (f : Nat → Int × ByteArray × Int) (k : Nat) : spL all (keyF (k + 1) f) = (spL all (keyF k f) ++ (if blankB all f k then [32] else [])) ++ tokTextL (f k).1 (f k).2.1.data.toList := by
  cases k with
  | zero => rfl
  | succ m =>
    have e : keyF (m + 1 + 1) f = keyF m f ++ [keyAt f m, keyAt f (m + 1)] := by rw [keyF_succ, keyF_succ, List.append_assoc]; rfl
    rw [e, spL_two, keyF_succ, List.append_assoc]
    rfl
theorem ok_step (f : Nat → Int × ByteArray × Int) (k : Nat) : (List.range (k + 1)).all (okAt f) = ((List.range k).all (okAt f) && okAt f k) := by
  rw [List.range_succ, List.all_append]; simp
theorem ok_no {f : Nat → Int × ByteArray × Int} {n k : Nat} (hk : k < n) (h : okAt f k = false) : (List.range n).all (okAt f) = false := by
  rw [List.all_eq_false]
  exact ⟨k, by simpa using hk, by rw [h]; simp⟩
theorem ok_at {f : Nat → Int × ByteArray × Int} {n k : Nat} (hk : k < n) (h : (List.range n).all (okAt f) = true) : okAt f k = true := by
  rw [List.all_eq_true] at h
  exact h k (by simpa using hk)
theorem joinL_no {all : Bool} {n k : Nat} {f : Nat → Int × ByteArray × Int} (hk : k < n) (h : okAt f k = false) : joinL all n f = [] := by
  unfold joinL; rw [ok_no hk h]; rfl
theorem joinL_yes {all : Bool} {n : Nat} {f : Nat → Int × ByteArray × Int} (h : (List.range n).all (okAt f) = true) : joinL all n f = if 2000 < (spL all (keyF n f)).length then [] else spL all (keyF n f) := by
  unfold joinL; rw [h]; rfl
theorem nameL_len' (l : List UInt8) : (nameL l).length ≤ 2 * l.length + 2 := by
  unfold nameL
  split
  · split
    · omega
    · have := dbl_len 34 l
      simp [quoted]; omega
  · simp
theorem text_len {k : Int} {t : List UInt8} (h : tokOk k t = true) : (tokTextL k t).length ≤ 82 := by
  have h1 := tokOk_small h
  unfold tokTextL
  rw [if_pos h]
  split
  · have := nameL_len' t; omega
  · split
    · have := dbl_len 39 t
      simp [quoted]; omega
    · omega
theorem spL_bound (all : Bool) (f : Nat → Int × ByteArray × Int) : ∀ k, (List.range k).all (okAt f) = true → (spL all (keyF k f)).length ≤ 83 * k
  | 0, _ => Nat.le_refl _
  | k + 1, h => by
    rw [ok_step, Bool.and_eq_true] at h
    have ih := spL_bound all f k h.1
    have ht := text_len h.2
    rw [spL_step, List.length_append, List.length_append]
    cases blankB all f k
    · rw [if_no rfl, List.length_nil]; omega
    · rw [if_pos rfl, List.length_singleton]; omega
theorem joinL_small (all : Bool) (n : Nat) (f : Nat → Int × ByteArray × Int) : (joinL all n f).length ≤ 2000 := by
  unfold joinL
  split
  · split
    · exact Nat.zero_le _
    · omega
  · exact Nat.zero_le _
end Go.Proofs.YtcadoplfgclbjaaGreatDoor

/- From slices of tokens to lists of tokens: what the laws on spacing come to. No program but for names. -/
namespace Go.Proofs.YtcadoplfgclbjaaGreatDoor
open Go.RowKit

theorem keyF_len (n : Nat) (f : Nat → Int × ByteArray × Int) : (keyF n f).length = n := by simp [keyF]
theorem keyF_get {n j : Nat} {f : Nat → Int × ByteArray × Int} (h : j < n) : (keyF n f)[j]? = some (keyAt f j) := by
  simp [keyF, List.getElem?_range h]
theorem tokF_get {L : List Tk} {j : Nat} (h : j < L.length) : tokF L j = (L[j].k, ⟨L[j].t.toArray⟩, (L[j].a : Int)) := by
  unfold tokF; rw [List.getElem?_eq_getElem h]
theorem keyF_tok (L : List Tk) : keyF L.length (tokF L) = L.map keyT := by
  apply List.ext_getElem?
  intro j
  by_cases h : j < L.length
  · rw [keyF_get h, List.getElem?_map, List.getElem?_eq_getElem h]
    simp [keyAt, keyT, tokF_get h]
  · rw [List.getElem?_eq_none (by rw [keyF_len]; omega), List.getElem?_eq_none (by rw [List.length_map]; omega)]
theorem all_keys {n : Nat} {f : Nat → Int × ByteArray × Int} : (List.range n).all (okAt f) = (keyF n f).all fun x => tokOk x.1 x.2 := by
  unfold keyF
  rw [List.all_map]
  rfl
theorem joinL_keys {all : Bool} {n : Nat} {f : Nat → Int × ByteArray × Int} (h : ∀ x ∈ keyF n f, tokOk x.1 x.2 = true) (h2 : (spL all (keyF n f)).length ≤ 2000) : joinL all n f = spL all (keyF n f) := by
  rw [joinL_yes (by rw [all_keys, List.all_eq_true]; exact h), if_neg (by omega)]
/-- where something is written at all -/
theorem joinL_some {all : Bool} {n : Nat} {f : Nat → Int × ByteArray × Int} (h : joinL all n f ≠ []) : (∀ x ∈ keyF n f, tokOk x.1 x.2 = true) ∧ (spL all (keyF n f)).length ≤ 2000 ∧ joinL all n f = spL all (keyF n f) := by
  cases ho : (List.range n).all (okAt f)
  · exact absurd (by unfold joinL; rw [ho]; rfl) h
  · have h2 := joinL_yes (all := all) ho
    by_cases h3 : 2000 < (spL all (keyF n f)).length
    · rw [if_pos h3] at h2; exact absurd h2 h
    · rw [if_neg h3] at h2
      refine ⟨?_, by omega, h2⟩
      rw [all_keys, List.all_eq_true] at ho
      exact ho
theorem same_keys {L : List Tk} {n : Nat} {f : Nat → Int × ByteArray × Int} (h : L.map keyT = keyF n f) : L.length = n ∧ sameB n n (tokF L) f = true := by
  have hl : L.length = n := by
    have := congrArg List.length h
    rwa [List.length_map, keyF_len] at this
  refine ⟨hl, sameB_yes fun j hj => ?_⟩
  have hj' : j < L.length := by omega
  have e : (L.map keyT)[j]? = (keyF n f)[j]? := by rw [h]
  rw [keyF_get hj, List.getElem?_map, List.getElem?_eq_getElem hj'] at e
  have e' : keyT L[j] = keyAt f j := by simpa using e
  unfold sameF
  rw [tokF_get hj']
  have e1 : L[j].k = (f j).1 := congrArg Prod.fst e'
  have e2 : L[j].t = (f j).2.1.data.toList := congrArg Prod.snd e'
  have e3 : (⟨L[j].t.toArray⟩ : ByteArray) = (f j).2.1 := by
    have h : (⟨L[j].t.toArray⟩ : ByteArray) = ⟨(f j).2.1.data.toList.toArray⟩ := congrArg (fun l : List UInt8 => (⟨l.toArray⟩ : ByteArray)) e2
    exact h
  rw [decide_eq_true e1]
  show (true && decide ((⟨L[j].t.toArray⟩ : ByteArray) = (f j).2.1)) = true
  rw [decide_eq_true e3]; rfl
theorem keys_same {L : List Tk} {n : Nat} {f : Nat → Int × ByteArray × Int} (hl : L.length = n) (h : sameB n n (tokF L) f = true) : L.map keyT = keyF n f := by
  apply List.ext_getElem?
  intro j
  by_cases hj : j < n
  · have hj' : j < L.length := by omega
    rw [keyF_get hj, List.getElem?_map, List.getElem?_eq_getElem hj']
    unfold sameB at h
    rw [decide_eq_true rfl, Bool.true_and, List.all_eq_true] at h
    have h2 := h j (by simpa using hj)
    unfold sameF at h2
    rw [tokF_get hj', Bool.and_eq_true] at h2
    have e1 : L[j].k = (f j).1 := by simpa using h2.1
    have e2 : (⟨L[j].t.toArray⟩ : ByteArray) = (f j).2.1 := by simpa using h2.2
    have e3 : L[j].t = (f j).2.1.data.toList := by rw [← e2]
    simp [keyT, keyAt, e1, e3]
  · rw [List.getElem?_eq_none (by rw [List.length_map]; omega), List.getElem?_eq_none (by rw [keyF_len]; omega)]
/-- what is written is read as the same -/
theorem spaced_reads {all : Bool} {n : Nat} {f : Nat → Int × ByteArray × Int} (h : joinL all n f ≠ []) : ∃ L, lexR (joinL all n f) = .ok L ∧ L.length = n ∧ sameB n n (tokF L) f = true := by
  obtain ⟨h1, h2, h3⟩ := joinL_some h
  obtain ⟨L, h4, h5⟩ := lexR_sp h1 h2
  exact ⟨L, by rw [h3]; exact h4, same_keys h5⟩

/-- what Squeeze gives -/
def sqR : Except Nat (List Tk) → List UInt8 × Int
  | .ok L => (joinL false L.length (tokF L), -1)
  | .error n => ([], (n : Int))
/-- what is squeezed stays as it is, and is no longer than what it came of -/
theorem sqz_law {l : List UInt8} {L : List Tk} (h : lexR l = .ok L) : ∃ t L', sqR (lexR l) = (t, -1) ∧ lexR t = .ok L' ∧ sqR (lexR t) = (t, -1) ∧ t.length ≤ l.length := by
  obtain ⟨h1, h2, h3, L', h4, h5⟩ := lexR_sqz h
  have e1 : joinL false L.length (tokF L) = spL false (L.map keyT) := by
    rw [← keyF_tok]
    exact joinL_keys (by rw [keyF_tok]; exact h1) (by rw [keyF_tok]; omega)
  have e2 : joinL false L'.length (tokF L') = spL false (L.map keyT) := by
    rw [← h5, ← keyF_tok]
    exact joinL_keys (by rw [keyF_tok, h5]; exact h1) (by rw [keyF_tok, h5]; omega)
  refine ⟨spL false (L.map keyT), L', ?_, h4, ?_, h2⟩
  · rw [h]; show (joinL false L.length (tokF L), -1) = _; rw [e1]
  · rw [h4]; show (joinL false L'.length (tokF L'), -1) = _; rw [e2]
theorem lexR_texts {l : List UInt8} {L : List Tk} (h : lexR l = .ok L) : ∀ j, j < L.length → (tokF L j).2.1.size ≤ 40 := by
  intro j hj
  unfold lexR at h
  split at h
  · cases h
  · have hok := lexF_ok _ l 0 (Nat.le_refl _) L h (keyT L[j]) (List.mem_map_of_mem (List.getElem_mem hj))
    have := tokOk_small hok
    rw [tokF_get hj]
    exact this
/-- FnNoNeedless: the text of the one and the text of the other are read as the two just where no blank is asked for -/
theorem two_read {k k' : Int} {t t' : List UInt8} (h : tokOk k t = true) (h' : tokOk k' t' = true) (f : Nat → Int × ByteArray × Int) (h0 : keyAt f 0 = (k, t)) (h1 : keyAt f 1 = (k', t')) :
    (gapB k t k' t' = false → ∃ L, lexR (tokTextL k t ++ tokTextL k' t') = .ok L ∧ L.length = 2 ∧ sameB 2 2 (tokF L) f = true) ∧
    (gapB k t k' t' = true → ∀ L, lexR (tokTextL k t ++ tokTextL k' t') = .ok L → sameB L.length 2 (tokF L) f = false) := by
  have hlen : (tokTextL k t ++ tokTextL k' t').length ≤ 2000 := by
    have := text_len h
    have := text_len h'
    rw [List.length_append]; omega
  have hk2 : keyF 2 f = [(k, t), (k', t')] := by
    show [keyAt f 0, keyAt f 1] = _
    rw [h0, h1]
  constructor
  · intro hg
    have e : spL false [(k, t), (k', t')] = tokTextL k t ++ tokTextL k' t' := by
      show tokTextL k t ++ ((if false || gapB k t k' t' then [32] else []) ++ tokTextL k' t') = _
      rw [Bool.false_or, hg]; rfl
    obtain ⟨L, h2, h3⟩ := lexR_sp (all := false) (L := [(k, t), (k', t')]) (by
      intro x hx
      rcases List.mem_cons.1 hx with rfl | hx
      · exact h
      · rcases List.mem_cons.1 hx with rfl | hx
        · exact h'
        · cases hx) (by rw [e]; exact hlen)
    rw [e] at h2
    exact ⟨L, h2, same_keys (by rw [h3, hk2])⟩
  · intro hg L hL
    have hF : lexF (tokTextL k t ++ tokTextL k' t') 0 = .ok L := by
      unfold lexR at hL
      rwa [if_neg (by omega)] at hL
    have hne := lex_joined h h' hg hF
    by_cases hl : L.length = 2
    · rw [hl]
      cases hs : sameB 2 2 (tokF L) f
      · rfl
      · exact absurd ((keys_same hl hs).trans hk2) hne
    · exact sameB_len hl
end Go.Proofs.YtcadoplfgclbjaaGreatDoor
