
/- Plain facts on decimal numerals. -/
import Derived.Test.YtgihklohhjhjbaaMath
import Derived.Lib.ItoaNum
import Derived.Lib.Strings
namespace Go.Proofs.Ytgihklohhjhjbaa
open Go.Lib (decDigits)

def digVal (l : List UInt8) : Nat := l.foldl (fun n b => 10 * n + (b.toNat - 48)) 0
def isDig (b : UInt8) : Prop := 48 ≤ b.toNat ∧ b.toNat ≤ 57
def allDig (l : List UInt8) : Prop := ∀ b ∈ l, isDig b

theorem digVal_snoc (l : List UInt8) (b : UInt8) : digVal (l ++ [b]) = 10 * digVal l + (b.toNat - 48) := by simp [digVal]
theorem digVal_app (a b : List UInt8) : digVal a ≤ digVal (a ++ b) := by
  induction b generalizing a with
  | nil => simp
  | cons x b ih =>
    have h1 := ih (a ++ [x])
    rw [digVal_snoc] at h1
    have e : a ++ [x] ++ b = a ++ x :: b := by simp
    rw [e] at h1
    omega
theorem digVal_take (l : List UInt8) (k : Nat) : digVal (l.take k) ≤ digVal l := by
  have := digVal_app (l.take k) (l.drop k)
  rwa [List.take_append_drop] at this

theorem dec_small {u : Nat} (h : u < 10) : decDigits u = [UInt8.ofNat (48 + u)] := by rw [decDigits, dif_pos h]
theorem dec_big {u : Nat} (h : ¬ u < 10) : decDigits u = decDigits (u / 10) ++ [UInt8.ofNat (48 + u % 10)] := by rw [decDigits, dif_neg h]
theorem nat_dig {u : Nat} (h : u < 10) : (UInt8.ofNat (48 + u)).toNat = 48 + u := by simp; omega

theorem dec_shape (u : Nat) : allDig (decDigits u) ∧ digVal (decDigits u) = u ∧ (∃ b t, decDigits u = b :: t ∧ (b.toNat = 48 → u = 0)) := by
  induction u using Nat.strongRecOn with
  | _ u ih =>
    by_cases h : u < 10
    · rw [dec_small h]
      refine ⟨fun b hb => ?_, ?_, _, _, rfl, ?_⟩
      · have : b = UInt8.ofNat (48 + u) := by simpa using hb
        rw [this]; unfold isDig; rw [nat_dig h]; omega
      · simp only [digVal, List.foldl_cons, List.foldl_nil]; rw [nat_dig h]; omega
      · rw [nat_dig h]; omega
    · obtain ⟨h1, h2, b, t, h3, h4⟩ := ih (u / 10) (by omega)
      have hd : (UInt8.ofNat (48 + u % 10)).toNat = 48 + u % 10 := nat_dig (by omega)
      rw [dec_big h]
      refine ⟨fun c hc => ?_, ?_, b, t ++ [UInt8.ofNat (48 + u % 10)], by rw [h3]; rfl, fun hb => ?_⟩
      · rcases List.mem_append.1 hc with hc | hc
        · exact h1 c hc
        · have : c = UInt8.ofNat (48 + u % 10) := by simpa using hc
          rw [this]; unfold isDig; rw [hd]; omega
      · rw [digVal_snoc, h2, hd]; omega
      · have := h4 hb; omega
theorem digVal_pos_of {b : UInt8} {t : List UInt8} (hb : isDig b) (h : b.toNat ≠ 48) : 0 < digVal (b :: t) := by
  have := digVal_app [b] t
  simp only [digVal, List.foldl_cons, List.foldl_nil] at this
  obtain ⟨h1, h2⟩ := hb
  simp only [digVal]
  simp only [List.cons_append, List.nil_append, List.foldl_cons] at this ⊢
  omega
/-- a numeral without a leading zero is what is written of its number -/
theorem dec_digVal : ∀ (n : Nat) (l : List UInt8), l.length = n + 1 → allDig l → (∀ b t, l = b :: t → b.toNat = 48 → t = []) → decDigits (digVal l) = l
  | 0, l, hl, hd, _ => by
    obtain ⟨b, rfl⟩ : ∃ b, l = [b] := List.length_eq_one_iff.1 hl
    obtain ⟨h1, h2⟩ := hd b (by simp)
    have hv : digVal [b] = b.toNat - 48 := by simp [digVal]
    rw [hv, dec_small (by omega)]
    congr 1
    apply UInt8.toNat_inj.1
    rw [nat_dig (by omega)]; omega
  | n + 1, l, hl, hd, hz => by
    have hne : l ≠ [] := by intro e; simp [e] at hl
    obtain ⟨m, c, rfl⟩ : ∃ m c, l = m ++ [c] := ⟨l.dropLast, l.getLast hne, (List.dropLast_concat_getLast hne).symm⟩
    have hml : m.length = n + 1 := by simp at hl; omega
    have hm : allDig m := fun x hx => hd x (by simp [hx])
    obtain ⟨b, t, hbt⟩ : ∃ b t, m = b :: t := by
      cases m with
      | nil => simp at hml
      | cons b t => exact ⟨b, t, rfl⟩
    have hb48 : b.toNat ≠ 48 := by
      intro e
      have := hz b (t ++ [c]) (by rw [hbt]; rfl) e
      simp at this
    have ih := dec_digVal n m hml hm (fun x s hx he => by
      rw [hbt] at hx
      have hxb : x = b := by simpa using (List.cons.inj hx).1.symm
      rw [hxb] at he; exact absurd he hb48)
    have hpos : 0 < digVal m := by rw [hbt]; exact digVal_pos_of (hm b (by rw [hbt]; simp)) hb48
    obtain ⟨c1, c2⟩ := hd c (by simp)
    rw [digVal_snoc, dec_big (by omega)]
    have e1 : (10 * digVal m + (c.toNat - 48)) / 10 = digVal m := by omega
    have e2 : (10 * digVal m + (c.toNat - 48)) % 10 = c.toNat - 48 := by omega
    rw [e1, e2, ih]
    congr 2
    apply UInt8.toNat_inj.1
    rw [nat_dig (by omega)]; omega
theorem dec_len (k : Nat) : ∀ u, u < 10 ^ (k + 1) → (decDigits u).length ≤ k + 1 := by
  induction k with
  | zero => intro u h; rw [dec_small (by omega)]; simp
  | succ k ih =>
    intro u h
    by_cases hu : u < 10
    · rw [dec_small hu]; simp
    · rw [dec_big hu]
      have := ih (u / 10) (by rw [Nat.div_lt_iff_lt_mul (by omega)]; rw [← Nat.pow_succ]; exact h)
      simp; omega

/-- s is what is written of n -/
def Num (s : List UInt8) (n : Nat) : Prop := n ≤ 9223372036854775807 ∧ decDigits n = s
theorem Num.val {s : List UInt8} {n : Nat} (h : Num s n) : n = digVal s := by rw [← h.2, (dec_shape n).2.1]
theorem Num.uniq {s : List UInt8} {n m : Nat} (h : Num s n) (g : Num s m) : n = m := h.val.trans g.val.symm
theorem Num.dig {s : List UInt8} {n : Nat} (h : Num s n) : allDig s := h.2 ▸ (dec_shape n).1
theorem Num.ne {s : List UInt8} {n : Nat} (h : Num s n) : s ≠ [] := by
  obtain ⟨b, t, e, _⟩ := (dec_shape n).2.2
  rw [← h.2, e]; simp
theorem Num.len {s : List UInt8} {n : Nat} (h : Num s n) : s.length ≤ 19 := by rw [← h.2]; exact dec_len 18 n (by have := h.1; omega)
theorem Num.lead {s t : List UInt8} {n : Nat} {b : UInt8} (h : Num s n) (e : s = b :: t) (hb : b.toNat = 48) : t = [] := by
  obtain ⟨c, t2, e2, h0⟩ := (dec_shape n).2.2
  rw [h.2, e] at e2
  have hc : b = c := (List.cons.inj e2).1
  have hn := h0 (hc ▸ hb)
  have h3 := h.2
  rw [hn, dec_small (by omega), e] at h3
  exact (List.cons.inj h3).2.symm
theorem Num.le {s : List UInt8} {n : Nat} (h : Num s n) (k : Nat) : digVal (s.take k) ≤ 9223372036854775807 := by
  have := digVal_take s k; rw [← h.val] at this; have := h.1; omega
theorem num_of {s : List UInt8} (hne : s ≠ []) (hd : allDig s) (hv : digVal s ≤ 9223372036854775807) (hz : ∀ b t, s = b :: t → b.toNat = 48 → t = []) : Num s (digVal s) :=
  ⟨hv, dec_digVal (s.length - 1) s (by have := List.length_pos_iff.2 hne; omega) hd hz⟩
theorem allDig_snoc {l : List UInt8} {b : UInt8} (h : allDig l) (hb : isDig b) : allDig (l ++ [b]) := by
  intro c hc
  rcases List.mem_append.1 hc with hc | hc
  · exact h c hc
  · have : c = b := by simpa using hc
    rw [this]; exact hb
end Go.Proofs.Ytgihklohhjhjbaa
