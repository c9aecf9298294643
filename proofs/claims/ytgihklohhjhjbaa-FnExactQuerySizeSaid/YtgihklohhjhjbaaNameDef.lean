
/- What a plain name is; plain facts. -/
import Derived.Test.YtgihklohhjhjbaaPure
import Derived.Test.YtgihklohhjhjbaaKeyMath
namespace Go.Proofs.Ytgihklohhjhjbaa
open Go.RowKit

/-- all of l are letters, digits, underscores -/
def allWd (l : List UInt8) : Bool := l.all fun b => wd (b.toNat : Int)
theorem str_at {s : ByteArray} {k : Nat} (h : k < s.size) : s[k] = s.data.toList.getD k 0 := by
  have h' : k < s.data.size := h
  have e : s[k] = s.data[k] := rfl
  rw [e]
  simp [List.getD_eq_getElem?_getD, Array.getElem?_eq_getElem h']
theorem allWd_false {l : List UInt8} {k : Nat} (h : k < l.length) (hw : wd ((l.getD k 0).toNat : Int) = false) : allWd l = false := by
  unfold allWd
  rw [List.all_eq_false]
  refine ⟨l.getD k 0, ?_, by rw [hw]; simp⟩
  rw [List.getD_eq_getElem?_getD, List.getElem?_eq_getElem h]
  exact List.getElem_mem h
theorem allWd_true {l : List UInt8} (hw : ∀ k, k < l.length → wd ((l.getD k 0).toNat : Int) = true) : allWd l = true := by
  unfold allWd
  rw [List.all_eq_true]
  intro b hb
  obtain ⟨k, hk, rfl⟩ := List.getElem_of_mem hb
  have := hw k hk
  rwa [List.getD_eq_getElem?_getD, List.getElem?_eq_getElem hk] at this

theorem wd_more {l : List UInt8} {k : Nat} (H : Hid (∀ j, j < k → wd ((l.getD j 0).toNat : Int) = true)) (h : wd ((l.getD k 0).toNat : Int) = true) : Hid (∀ j, j < k + 1 → wd ((l.getD j 0).toNat : Int) = true) := fun j hj => by
  by_cases e : j = k
  · subst e; exact h
  · exact H.out j (by omega)
theorem wd_eq (n : Int) : wd n = (ltr n || n == 95 || dg n) := by unfold wd; rw [Bool.or_assoc, Bool.or_assoc, Bool.or_comm (dg n)]

/-- 1 to 20 bytes -/
def okLen (n : Nat) : Bool := decide (1 ≤ (n : Int)) && decide ((n : Int) ≤ 20)
/-- a plain name -/
def plainB (l : List UInt8) : Bool := okLen l.length && !dg ((l.getD 0 0).toNat : Int) && allWd l && decide (numOf (upL l) = 0)
end Go.Proofs.Ytgihklohhjhjbaa
