
/- What it is that a string is the numeral of a number. -/
import Derived.Test.YtcadoplfgclbjaaDig
namespace Go.Proofs.Ytcadoplfgclbjaa
open Go.RowKit
open Go.Lib (decDigits itoa)

def NumE (s : List UInt8) (w : World) (e : Ending) (w' : World) : Prop :=
  ((∃ n : Nat, Num s n ∧ e = .returned (.tuple #[.int .i64 (n : Int), .bool true])) ∨ ((∀ n, ¬ Num s n) ∧ e = .returned (.tuple #[.int .i64 0, .bool false]))) ∧ Below w.heap.size w w'
theorem NumE.no {s : List UInt8} {w w' : World} {e : Ending} (h : ∀ n, ¬ Num s n) (he : e = .returned (.tuple #[.int .i64 0, .bool false])) (hb : Below w.heap.size w w') : NumE s w e w' := ⟨.inr ⟨h, he⟩, hb⟩
theorem itoa_nat (n : Nat) : itoa (n : Int) = decDigits n := by unfold itoa; rw [if_neg (by omega)]; rfl
theorem num_bad_dig {s : ByteArray} {k : Nat} (h : k < s.size) (hb : ¬ isDig s[k]) : ∀ n, ¬ Num s.data.toList n := fun n hn =>
  hb (hn.dig _ (List.getElem_mem (l := s.data.toList) (n := k) (by simpa using h)))
theorem num_bad_over {s : ByteArray} {k : Nat} (h : k < s.size) (hb : ¬ 10 * digVal (s.data.toList.take k) + ((s[k]).toNat - 48) ≤ 9223372036854775807) : ∀ n, ¬ Num s.data.toList n := fun n hn => by
  have := hn.le (k + 1)
  rw [take_snoc s k h, digVal_snoc] at this
  omega
end Go.Proofs.Ytcadoplfgclbjaa
