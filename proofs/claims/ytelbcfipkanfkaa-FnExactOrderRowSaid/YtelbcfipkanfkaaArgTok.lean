
/- Contracts of what the laws do with a slice of tokens that came in: its size, and a copy of it. -/
import Derived.Test.YtelbcfipkanfkaaTokArg
import Derived.Test.YtelbcfipkanfkaaTokSlDef
import Derived.Laws.MakeOwn
namespace Go.Proofs.Ytelbcfipkanfkaa
open Go.RowKit

/-- the slice at a that came in holds the tokens f 0, f 1, .. up to n -/
def ArgSl (w : World) (a : Option Addr) (n : Nat) (f : Nat → Int × ByteArray × Int) : Prop :=
  ∀ j, j < n → ∃ g o, a = some ⟨g, o, none⟩ ∧ g < w.heap.size ∧
    w.cell? ⟨g, o + j * 3, none⟩ = some (.int .i64 (f j).1) ∧ w.cell? ⟨g, o + j * 3 + 1, none⟩ = some (.string (f j).2.1) ∧ w.cell? ⟨g, o + j * 3 + 2, none⟩ = some (.int .i64 (f j).2.2) ∧ (f j).2.1.size ≤ 9223372036854775807
theorem ArgSl.below {w w' : World} {a : Option Addr} {n : Nat} {f : Nat → Int × ByteArray × Int} (H : ArgSl w a n f) (hb : Below w.heap.size w w') : ArgSl w' a n f := fun j hj => by
  obtain ⟨g, o, e, hg, c0, c1, c2, hz⟩ := H j hj
  exact ⟨g, o, e, Nat.lt_of_lt_of_le hg hb.size, (hb.cell (p := ⟨g, o + j * 3, none⟩) hg).trans c0, (hb.cell (p := ⟨g, o + j * 3 + 1, none⟩) hg).trans c1, (hb.cell (p := ⟨g, o + j * 3 + 2, none⟩) hg).trans c2, hz⟩

theorem leftOf_le {n z : Int} (h : 0 ≤ z) (h1 : n ≤ 1048576) : leftOf n z ≤ 1048576 := by unfold leftOf; split <;> omega
theorem leftOf_ge {n z : Int} (h : decide (leftOf n z < 0) = false) : 0 ≤ leftOf n z := by simpa using h

def zeroT : Nat → Int × ByteArray × Int := fun _ => (0, ⟨#[]⟩, 0)
/-- the first k of f, nothing behind -/
def mixA (k : Nat) (f : Nat → Int × ByteArray × Int) (j : Nat) : Int × ByteArray × Int := if j < k then f j else (0, ⟨#[]⟩, 0)
def zeroCells (n : Nat) : Array Value := madeCells #[.int .i64 0, .string ⟨#[]⟩, .int .i64 0] (n * 3)
theorem zeroCells_at {n i : Nat} (h : i < n * 3) : (zeroCells n)[i]? = (#[.int .i64 0, .string ⟨#[]⟩, .int .i64 0] : Array Value)[i % 3]? := by
  unfold zeroCells madeCells
  have hm : i % 3 < 3 := Nat.mod_lt _ (by omega)
  rw [Array.getElem?_map, Array.getElem?_range, if_pos h]
  rcases (show i % 3 = 0 ∨ i % 3 = 1 ∨ i % 3 = 2 by omega) with e | e | e <;> simp [e]
end Go.Proofs.Ytelbcfipkanfkaa
