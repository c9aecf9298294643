/- Plain facts on the variable-length encoding: what stands at the head of a list of bytes. -/
import Derived.Test.YtojafonpfcpmjaaVarMath
namespace Go.Proofs.Ytojafonpfcpmjaa

/-- what groups of seven bits stand for, whatever the high bits -/
def valL : List UInt8 → Nat
  | [] => 0
  | b :: l => b.toNat % 128 + 128 * valL l
/-- every byte has the high bit -/
def highs (l : List UInt8) : Prop := ∀ b ∈ l, 128 ≤ b.toNat

theorem valL_snoc (l : List UInt8) (b : UInt8) : valL (l ++ [b]) = valL l + b.toNat % 128 * 128 ^ l.length := by
  induction l with
  | nil => simp [valL]
  | cons c l ih => simp only [List.cons_append, valL, ih, List.length_cons, Nat.pow_succ, Nat.mul_add]; rw [Nat.mul_comm 128 (_ * _), Nat.mul_assoc]; omega
theorem valL_lt (l : List UInt8) : valL l < 128 ^ l.length := by
  induction l with
  | nil => simp [valL]
  | cons b l ih => simp only [valL, List.length_cons, Nat.pow_succ]; have := Nat.mod_lt b.toNat (show 128 > 0 by omega); omega
theorem valL_varL (u : Nat) : valL (varL u) = u := by
  fun_induction varL u with
  | case1 u h => simp [valL]; omega
  | case2 u h ih => simp only [valL, ih]; have : (UInt8.ofNat (u % 128 + 128)).toNat = u % 128 + 128 := by simp; omega
                    rw [this]; omega
theorem varL_shape (u : Nat) : ∃ (pre : List UInt8) (b : UInt8), varL u = pre ++ [b] ∧ highs pre ∧ b.toNat < 128 ∧ (pre ≠ [] → b.toNat ≠ 0) := by
  fun_induction varL u with
  | case1 u h => exact ⟨[], UInt8.ofNat u, rfl, by simp [highs], by simp; omega, by simp⟩
  | case2 u h ih =>
    obtain ⟨pre, b, e, hp, hb, h0⟩ := ih
    refine ⟨UInt8.ofNat (u % 128 + 128) :: pre, b, by rw [e]; rfl, ?_, hb, ?_⟩
    · intro c hc
      rcases List.mem_cons.1 hc with rfl | hc
      · simp; omega
      · exact hp c hc
    · intro _ hz
      by_cases hpe : pre = []
      · subst hpe
        have hv := valL_varL (u / 128)
        rw [e] at hv
        simp [valL, hz] at hv
        omega
      · exact h0 hpe hz
theorem valL_pos (pre : List UInt8) (b : UInt8) (hb : b.toNat % 128 ≠ 0) : 0 < valL (pre ++ [b]) := by
  rw [valL_snoc]
  have : 0 < 128 ^ pre.length := Nat.pow_pos (by omega)
  have := Nat.mul_pos (show 0 < b.toNat % 128 by omega) this
  omega
theorem varL_valL (pre : List UInt8) (b : UInt8) (hp : highs pre) (hb : b.toNat < 128) (h0 : pre ≠ [] → b.toNat ≠ 0) : varL (valL (pre ++ [b])) = pre ++ [b] := by
  induction pre with
  | nil => simp only [List.nil_append, valL]; rw [varL_lt (by omega)]; congr 1; apply UInt8.toNat_inj.1; simp; omega
  | cons c p ih =>
    have hb0 := h0 (by simp)
    have ih := ih (fun x hx => hp x (List.mem_cons_of_mem _ hx)) (fun _ => hb0)
    have hpos := valL_pos p b (by omega)
    have hc : 128 ≤ c.toNat := hp c (by simp)
    have hc2 := c.toNat_lt
    simp only [List.cons_append, valL]
    rw [varL_ge (by omega)]
    have e1 : (c.toNat % 128 + 128 * valL (p ++ [b])) / 128 = valL (p ++ [b]) := by omega
    have e2 : (c.toNat % 128 + 128 * valL (p ++ [b])) % 128 + 128 = c.toNat := by omega
    rw [e1, e2, ih]
    congr 1
    simp
/-- two such heads of one list are one -/
theorem heads_eq : ∀ (p q rest : List UInt8) (b c : UInt8), highs p → highs q → b.toNat < 128 → c.toNat < 128 → p ++ [b] <+: rest → q ++ [c] <+: rest → p ++ [b] = q ++ [c]
  | [], [], rest, b, c, _, _, _, _, h1, h2 => by
    obtain ⟨t, rfl⟩ := h1; obtain ⟨t2, h⟩ := h2; simp at h; simp [h.1]
  | [], x :: q, rest, b, c, _, hq, hb, _, h1, h2 => by
    obtain ⟨t, rfl⟩ := h1; obtain ⟨t2, h⟩ := h2; simp at h
    have := hq x (by simp); rw [h.1] at this; omega
  | x :: p, [], rest, b, c, hp, _, _, hc, h1, h2 => by
    obtain ⟨t, rfl⟩ := h1; obtain ⟨t2, h⟩ := h2; simp at h
    have := hp x (by simp); rw [← h.1] at this; omega
  | x :: p, y :: q, rest, b, c, hp, hq, hb, hc, h1, h2 => by
    obtain ⟨t, rfl⟩ := h1; obtain ⟨t2, h⟩ := h2
    simp only [List.cons_append, List.cons.injEq] at h
    have := heads_eq p q (p ++ [b] ++ t) b c (fun z hz => hp z (by simp [hz])) (fun z hz => hq z (by simp [hz])) hb hc ⟨t, rfl⟩ ⟨t2, h.2⟩
    simp only [List.cons_append]
    rw [this, h.1]

/-- the encoding of u stands in l from place k on -/
def Got (l : List UInt8) (k : Int) (u : Nat) : Prop := 0 ≤ k ∧ u < 18446744073709551616 ∧ varL u <+: l.drop k.toNat

theorem Got.uniq {l : List UInt8} {k : Int} {u v : Nat} (h : Got l k u) (g : Got l k v) : u = v := by
  obtain ⟨p, b, e1, hp, hb, _⟩ := varL_shape u
  obtain ⟨q, c, e2, hq, hc, _⟩ := varL_shape v
  have := heads_eq p q _ b c hp hq hb hc (e1 ▸ h.2.2) (e2 ▸ g.2.2)
  rw [← valL_varL u, ← valL_varL v, e1, e2, this]
/-- where a head with a low last byte stands, it alone can be got -/
theorem Got.head {l : List UInt8} {k : Int} {u : Nat} (h : Got l k u) (p : List UInt8) (b : UInt8) (hp : highs p) (hb : b.toNat < 128) (hpre : p ++ [b] <+: l.drop k.toNat) :
    varL u = p ++ [b] ∧ u = valL (p ++ [b]) ∧ (p ≠ [] → b.toNat ≠ 0) ∧ u < 18446744073709551616 := by
  obtain ⟨q, c, e, hq, hc, h0⟩ := varL_shape u
  have := heads_eq q p _ c b hq hp hc hb (e ▸ h.2.2) hpre
  refine ⟨e.trans this, by rw [← this, ← e, valL_varL], ?_, h.2.1⟩
  have e2 := List.append_inj' this rfl
  have hbc : c = b := by simpa using e2.2
  rw [← hbc, ← e2.1]; exact h0
/-- behind a head of high bytes only what is longer can be got -/
theorem Got.longer {l : List UInt8} {k : Int} {u : Nat} (h : Got l k u) (p : List UInt8) (hp : highs p) (hpre : p <+: l.drop k.toNat) : p.length < (varL u).length := by
  obtain ⟨q, c, e, hq, hc, _⟩ := varL_shape u
  rcases Nat.lt_or_ge p.length (varL u).length with hlt | hge
  · exact hlt
  · exfalso
    have h3 := List.prefix_of_prefix_length_le h.2.2 hpre hge
    have hm : c ∈ p := h3.subset (by rw [e]; simp)
    have := hp c hm
    omega
theorem Got.len {l : List UInt8} {k : Int} {u : Nat} (h : Got l k u) : (varL u).length ≤ l.length - k.toNat := by
  have := h.2.2.length_le; simpa using this
theorem got_of {l : List UInt8} {k : Nat} {p : List UInt8} {b : UInt8} (hp : highs p) (hb : b.toNat < 128) (h0 : p ≠ [] → b.toNat ≠ 0) (hv : valL (p ++ [b]) < 18446744073709551616) (hpre : p ++ [b] <+: l.drop k) :
    Got l k (valL (p ++ [b])) := ⟨by omega, hv, by rw [varL_valL p b hp hb h0]; simpa using hpre⟩
end Go.Proofs.Ytojafonpfcpmjaa
