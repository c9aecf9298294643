
/- Plain arithmetic: the check sum step and the bit operations as operations on natural numbers. -/
import Derived.Laws.BitsLemmas
import Derived.Laws.Bits64
import Derived.Laws.Bits64b
namespace Go.Proofs.Ytgihklohhjhjbaa

theorem bits_xor_nat (k : IntKind) (j : Nat) (hj : j ≤ k.bits) (hk : ∀ n : Int, 0 ≤ n → n < 2 ^ j → k.wrap n = n) (a b : Nat) (ha : a < 2 ^ j) (hb : b < 2 ^ j) :
    bits .xor k a b = ((a ^^^ b : Nat) : Int) := by
  have hp : 2 ^ j ≤ 2 ^ k.bits := Nat.pow_le_pow_right (by decide) hj
  have ha' : a % 2 ^ k.bits = a := Nat.mod_eq_of_lt (Nat.lt_of_lt_of_le ha hp)
  have hb' : b % 2 ^ k.bits = b := Nat.mod_eq_of_lt (Nat.lt_of_lt_of_le hb hp)
  simp only [bits, BitVec.ofInt_natCast, BitVec.toNat_xor, BitVec.toNat_ofNat, ha', hb']
  exact hk _ (Int.natCast_nonneg _) (by exact_mod_cast Nat.xor_lt_two_pow ha hb)

theorem wraps_u32 (n : Int) (h₀ : 0 ≤ n) (h₁ : n < 2 ^ 32) : IntKind.u32.wrap n = n := by rw [IntKind.wrap_u32]; omega
theorem wraps_i64 (n : Int) (h₀ : 0 ≤ n) (h₁ : n < 2 ^ 63) : IntKind.i64.wrap n = n := by rw [IntKind.wrap_i64]; omega

theorem xor_u32 (a b : Nat) (ha : a < 4294967296) (hb : b < 4294967296) : bits .xor .u32 (a : Int) (b : Int) = ((a ^^^ b : Nat) : Int) :=
  bits_xor_nat .u32 32 (by decide) wraps_u32 a b ha hb
theorem xor_i64 (a b : Nat) (ha : a < 4294967296) (hb : b < 4294967296) : bits .xor .i64 (a : Int) (b : Int) = ((a ^^^ b : Nat) : Int) :=
  bits_xor_nat .i64 63 (by decide) wraps_i64 a b (by omega) (by omega)
theorem and1_u32 (a : Nat) (ha : a < 4294967296) : bits .and .u32 (a : Int) 1 = (a : Int) % 2 := by
  have := (bits_nat .u32 32 (by decide) wraps_u32 a 1 ha (by decide)).1
  rw [Nat.and_one_is_mod] at this
  exact this.trans (by omega)

/-- one turn of the check sum's register -/
def crcStep (x : Nat) : Nat := if x % 2 = 1 then (x / 2) ^^^ 3988292384 else x / 2
/-- n turns -/
def crcTurn : Nat → Nat → Nat
  | 0, x => x
  | n + 1, x => crcStep (crcTurn n x)
/-- a byte goes in -/
def crcByte (x b : Nat) : Nat := crcTurn 8 (x ^^^ b)
/-- the bytes of a list go in -/
def crcFold (x : Nat) (l : List UInt8) : Nat := l.foldl (fun x b => crcByte x b.toNat) x
/-- the check sum of the bytes of a list -/
def crcOf (l : List UInt8) : Nat := crcFold 4294967295 l ^^^ 4294967295

theorem crcStep_odd (x : Nat) (h : x % 2 = 1) : crcStep x = (x / 2) ^^^ 3988292384 := by rw [crcStep, if_pos h]
theorem crcStep_even (x : Nat) (h : ¬ x % 2 = 1) : crcStep x = x / 2 := by rw [crcStep, if_neg h]
theorem xor_lt32 {a b : Nat} (ha : a < 4294967296) (hb : b < 4294967296) : a ^^^ b < 4294967296 := by
  have := Nat.xor_lt_two_pow (n := 32) (x := a) (y := b) (by omega) (by omega); omega
theorem crcStep_lt {x : Nat} (h : x < 4294967296) : crcStep x < 4294967296 := by
  unfold crcStep
  split
  · exact xor_lt32 (by omega) (by omega)
  · omega
theorem crcTurn_lt {x : Nat} (h : x < 4294967296) : ∀ n, crcTurn n x < 4294967296
  | 0 => h
  | n + 1 => crcStep_lt (crcTurn_lt h n)
theorem crcByte_lt {x b : Nat} (h : x < 4294967296) (hb : b < 256) : crcByte x b < 4294967296 := crcTurn_lt (xor_lt32 h (by omega)) 8
theorem crcFold_lt {x : Nat} (h : x < 4294967296) (l : List UInt8) : crcFold x l < 4294967296 := by
  unfold crcFold
  induction l generalizing x with
  | nil => exact h
  | cons b l ih => exact ih (crcByte_lt h (by have := b.toNat_lt; omega))
theorem crcFold_snoc (x : Nat) (l : List UInt8) (b : UInt8) : crcFold x (l ++ [b]) = crcByte (crcFold x l) b.toNat := by
  simp [crcFold]
theorem crcOf_lt (l : List UInt8) : crcOf l < 4294967296 := xor_lt32 (crcFold_lt (by omega) l) (by omega)
theorem take_snoc (s : ByteArray) (k : Nat) (h : k < s.size) : s.data.toList.take (k + 1) = s.data.toList.take k ++ [s[k]] := by
  rw [List.take_succ_eq_append_getElem (by simpa using h)]; rfl
end Go.Proofs.Ytgihklohhjhjbaa
