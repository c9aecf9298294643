/- Joined texts: TokArg ArgTok ArgOpen. -/
import Derived.Test.YtcadoplfgclbjaaGreatDoorQF
import Derived.Test.YtcadoplfgclbjaaGreatDoorQA
import Derived.Test.YtcadoplfgclbjaaGreatDoorRows
import Derived.Deep.QuietTactic
import Derived.BigQuiet
import Derived.Laws.MakeOwn
import Derived.WalkKit
import Derived.ProofKit
import Derived.OpenShut
import Derived.ShutString
import Derived.Deep.Slices
import Derived.Deep.Strs
/- Contracts of what the laws do with a token that came in: its size, and a copy of it. -/
namespace Go.Proofs.YtcadoplfgclbjaaGreatDoor
open Go.RowKit

/-- what is left of n behind a text of z bytes, or -1 -/
def leftOf (n z : Int) : Int := if n - z < 0 then -1 else n - z
theorem leftOf_neg {n z : Int} (h : n - z < 0) : decide (leftOf n z < 0) = true := by unfold leftOf; rw [if_pos h]; rfl
theorem leftOf_nat {n z : Int} (h : ¬ n - z < 0) : decide (leftOf n z < 0) = false := by unfold leftOf; rw [if_neg h]; simpa using h

/-- a token comes back -/
def CopyE (k : Int) (t : ByteArray) (a : Int) (w : World) (e : Ending) (w' : World) : Prop := e = .returned (.agg #[.int .i64 k, .string t, .int .i64 a]) ∧ Below w.heap.size w w'

end Go.Proofs.YtcadoplfgclbjaaGreatDoor

/- Contracts of what the laws do with a slice of tokens that came in: its size, and a copy of it. -/
namespace Go.Proofs.YtcadoplfgclbjaaGreatDoor
open Go.RowKit

/-- the slice at a that came in holds the tokens f 0, f 1, .. up to n -/
def ArgSl (w : World) (a : Option Addr) (n : Nat) (f : Nat → Int × ByteArray × Int) : Prop :=
  ∀ j, j < n → ∃ g o, a = some ⟨g, o, none⟩ ∧ g < w.heap.size ∧
    w.cell? ⟨g, o + j * 3, none⟩ = some (.int .i64 (f j).1) ∧ w.cell? ⟨g, o + j * 3 + 1, none⟩ = some (.string (f j).2.1) ∧ w.cell? ⟨g, o + j * 3 + 2, none⟩ = some (.int .i64 (f j).2.2) ∧ (f j).2.1.size ≤ 9223372036854775807
theorem ArgSl.below {w w' : World} {a : Option Addr} {n : Nat} {f : Nat → Int × ByteArray × Int} (H : ArgSl w a n f) (hb : Below w.heap.size w w') : ArgSl w' a n f := fun j hj => by
  obtain ⟨g, o, e, hg, c0, c1, c2, hz⟩ := H j hj
  exact ⟨g, o, e, Nat.lt_of_lt_of_le hg hb.size, (hb.cell (p := ⟨g, o + j * 3, none⟩) hg).trans c0, (hb.cell (p := ⟨g, o + j * 3 + 1, none⟩) hg).trans c1, (hb.cell (p := ⟨g, o + j * 3 + 2, none⟩) hg).trans c2, hz⟩

theorem leftOf_le {n z : Int} (h : 0 ≤ z) (h1 : n ≤ 1048576) : leftOf n z ≤ 1048576 := by unfold leftOf; split <;> omega
theorem leftOf_ge {n z : Int} (h : decide (leftOf n z < 0) = false) : 0 ≤ leftOf n z := by simpa using h

theorem Tryz.infoTkA : (Tryz.prog.info? 40).map (fun i => (i.zero, i.size, i.bytes)) = some (some (.agg #[.int .i64 0, .string ByteArray.empty, .int .i64 0]), 3, 32) := by kernel_rfl
def zeroT : Nat → Int × ByteArray × Int := fun _ => (0, ⟨#[]⟩, 0)
/-- the first k of f, nothing behind -/
def mixA (k : Nat) (f : Nat → Int × ByteArray × Int) (j : Nat) : Int × ByteArray × Int := if j < k then f j else (0, ⟨#[]⟩, 0)
def zeroCells (n : Nat) : Array Value := madeCells #[.int .i64 0, .string ⟨#[]⟩, .int .i64 0] (n * 3)
theorem zeroCells_at {n i : Nat} (h : i < n * 3) : (zeroCells n)[i]? = (#[.int .i64 0, .string ⟨#[]⟩, .int .i64 0] : Array Value)[i % 3]? := by
  unfold zeroCells madeCells
  have hm : i % 3 < 3 := Nat.mod_lt _ (by omega)
  rw [Array.getElem?_map, Array.getElem?_range, if_pos h]
  rcases (show i % 3 = 0 ∨ i % 3 = 1 ∨ i % 3 = 2 by omega) with e | e | e <;> simp [e]
theorem made_toks (w : World) (n : Nat) : TokSl (w.alloc (.cells (zeroCells n) 40)) w.heap.size (some ⟨w.heap.size, 0, none⟩) n zeroT := fun j hj => by
  have hr := heap_alloc_new w (.cells (zeroCells n) 40)
  refine ⟨w.heap.size, rfl, Nat.le_refl _, by simp, ?_, ?_, ?_, frozen_of_row _ _ _ _ _ hr, frozen_of_row _ _ _ _ _ hr, frozen_of_row _ _ _ _ _ hr⟩
  · rw [cell_of_row _ w.heap.size (j * 3) _ 40 (0, 0) hr, zeroCells_at (by omega), show j * 3 % 3 = 0 by omega]; rfl
  · rw [cell_of_row _ w.heap.size (j * 3 + 1) _ 40 (0, 0) hr, zeroCells_at (by omega), show (j * 3 + 1) % 3 = 1 by omega]; rfl
  · rw [cell_of_row _ w.heap.size (j * 3 + 2) _ 40 (0, 0) hr, zeroCells_at (by omega), show (j * 3 + 2) % 3 = 2 by omega]; rfl
theorem make_toks (w : World) (n : Nat) (hn : n ≤ 1048576) : (Instr.makeSlice 24 (.int .i64 (n : Int)) (.int .i64 (n : Int))).run Tryz.prog w = .ok (.slice (some ⟨w.heap.size, 0, none⟩) n n) (w.alloc (.cells (zeroCells n) 40)) := by
  obtain ⟨i, hi, hz, hsize, hby⟩ := info_parts Tryz.infoTkA
  have h := run_make (P := Tryz.prog) w 24 40 i _ Tryz.underlying24 hi hz .i64 .i64 (n : Int) (n : Int) (by omega) (by omega) (by rw [hby]; omega) (by omega)
  rw [hsize, Int.toNat_natCast] at h
  exact h

end Go.Proofs.YtcadoplfgclbjaaGreatDoor

/- Tokens that came in, read out of the rows. -/
namespace Go.Proofs.YtcadoplfgclbjaaGreatDoor
open Go.ChangeShapes Go.WideShapes Go.ChangeAt Go.RowKit Go.Deep

end Go.Proofs.YtcadoplfgclbjaaGreatDoor
