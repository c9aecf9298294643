/- Plain arithmetic: the variable-length encoding as a list of bytes. -/
import Derived.Test.YtojafonpfcpmjaaMath
namespace Go.Proofs.Ytojafonpfcpmjaa

/-- the encoding of a number: groups of seven bits, the lowest first -/
def varL (u : Nat) : List UInt8 := if u < 128 then [UInt8.ofNat u] else UInt8.ofNat (u % 128 + 128) :: varL (u / 128)
termination_by u
decreasing_by omega

theorem varL_lt {u : Nat} (h : u < 128) : varL u = [UInt8.ofNat u] := by rw [varL, if_pos h]
theorem varL_ge {u : Nat} (h : ¬ u < 128) : varL u = UInt8.ofNat (u % 128 + 128) :: varL (u / 128) := by rw [varL, if_neg h]
theorem varL_pos (u : Nat) : 0 < (varL u).length := by rw [varL]; split <;> simp
theorem varL_len (n u : Nat) (h : u < 128 ^ (n + 1)) : (varL u).length ≤ n + 1 := by
  induction n generalizing u with
  | zero => rw [varL_lt (by omega)]; simp
  | succ n ih =>
    by_cases hu : u < 128
    · rw [varL_lt hu]; simp
    · rw [varL_ge hu]
      have := ih (u / 128) (by rw [Nat.div_lt_iff_lt_mul (by omega)]; rw [← Nat.pow_succ]; exact h)
      simp; omega
theorem varL_ten (u : Nat) (h : u < 18446744073709551616) : (varL u).length ≤ 10 := varL_len 9 u (by omega)
theorem or128 (x : Int) (h0 : 0 ≤ x) (h1 : x < 256) : bits .or .u8 x 128 = x % 128 + 128 := by
  obtain ⟨a, rfl⟩ := Int.eq_ofNat_of_zero_le h0
  have ha : a < 256 := by omega
  have h := (bits_nat .u8 8 (by decide) wraps_u8 a 128 ha (by decide)).2
  refine h.trans ?_
  have h2 : a ||| 128 = a % 128 + 128 := by
    have : ∀ x : Fin 256, x.val ||| 128 = x.val % 128 + 128 := by decide +kernel
    exact this ⟨a, ha⟩
  rw [h2]; omega
end Go.Proofs.Ytojafonpfcpmjaa
