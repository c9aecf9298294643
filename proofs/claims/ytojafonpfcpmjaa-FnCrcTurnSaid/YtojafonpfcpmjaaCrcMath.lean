/- Plain facts on the check sum: another byte, another sum. -/
import Derived.Test.YtojafonpfcpmjaaMath
namespace Go.Proofs.Ytojafonpfcpmjaa

theorem top_bit {a : Nat} (ha : a < 2147483648) : 2147483648 ≤ a ^^^ 3988292384 := by
  have h : (a ^^^ 3988292384) / 2 ^ 31 = a / 2 ^ 31 ^^^ 3988292384 / 2 ^ 31 := Nat.xor_div_two_pow
  have h1 : a / 2 ^ 31 = 0 := by omega
  rw [h1] at h
  simp at h
  omega
theorem xor_cancel {a b c : Nat} (h : a ^^^ c = b ^^^ c) : a = b := by
  have : (a ^^^ c) ^^^ c = (b ^^^ c) ^^^ c := by rw [h]
  rwa [Nat.xor_assoc, Nat.xor_assoc, Nat.xor_self, Nat.xor_zero, Nat.xor_zero] at this
theorem xor_cancel_left {a b c : Nat} (h : c ^^^ a = c ^^^ b) : a = b := by
  rw [Nat.xor_comm c a, Nat.xor_comm c b] at h; exact xor_cancel h
theorem crcStep_inj {x y : Nat} (hx : x < 4294967296) (hy : y < 4294967296) (h : crcStep x = crcStep y) : x = y := by
  unfold crcStep at h
  split at h <;> split at h
  · have := xor_cancel h; omega
  · have := top_bit (a := x / 2) (by omega); omega
  · have := top_bit (a := y / 2) (by omega); omega
  · omega
theorem crcTurn_inj {x y : Nat} (hx : x < 4294967296) (hy : y < 4294967296) : ∀ n, crcTurn n x = crcTurn n y → x = y
  | 0, h => h
  | n + 1, h => crcTurn_inj hx hy n (crcStep_inj (crcTurn_lt hx n) (crcTurn_lt hy n) h)
theorem crcByte_inj_left {x y b : Nat} (hx : x < 4294967296) (hy : y < 4294967296) (hb : b < 256) (h : crcByte x b = crcByte y b) : x = y :=
  xor_cancel (crcTurn_inj (xor_lt32 hx (by omega)) (xor_lt32 hy (by omega)) 8 h)
theorem crcByte_inj_right {x b c : Nat} (hx : x < 4294967296) (hb : b < 256) (hc : c < 256) (h : crcByte x b = crcByte x c) : b = c :=
  xor_cancel_left (crcTurn_inj (xor_lt32 hx (by omega)) (xor_lt32 hx (by omega)) 8 h)
theorem crcFold_inj : ∀ (l : List UInt8) {x y : Nat}, x < 4294967296 → y < 4294967296 → crcFold x l = crcFold y l → x = y
  | [], _, _, _, _, h => h
  | b :: l, x, y, hx, hy, h => by
    have hb : b.toNat < 256 := b.toNat_lt
    exact crcByte_inj_left hx hy hb (crcFold_inj l (crcByte_lt hx hb) (crcByte_lt hy hb) h)
/-- one byte turned, the sum is another -/
theorem crcOf_turn (p q : List UInt8) (b c : UInt8) (h : b ≠ c) : crcOf (p ++ b :: q) ≠ crcOf (p ++ c :: q) := by
  intro e
  have e1 := xor_cancel e
  unfold crcFold at e1
  rw [List.foldl_append, List.foldl_append, List.foldl_cons, List.foldl_cons] at e1
  have hx : crcFold 4294967295 p < 4294967296 := crcFold_lt (by omega) p
  have hb : b.toNat < 256 := b.toNat_lt
  have hc : c.toNat < 256 := c.toNat_lt
  have e2 := crcFold_inj q (crcByte_lt hx hb) (crcByte_lt hx hc) e1
  exact h (UInt8.toNat_inj.1 (crcByte_inj_right hx hb hc e2))
end Go.Proofs.Ytojafonpfcpmjaa
