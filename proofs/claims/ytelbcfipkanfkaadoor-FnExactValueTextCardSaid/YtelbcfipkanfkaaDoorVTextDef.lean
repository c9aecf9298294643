
/- The text of a value, as a plain function. No program. -/
import Derived.Test.YtelbcfipkanfkaaDoorValS
import Derived.Test.YtelbcfipkanfkaaDoorQuoteMath
import Derived.Lib.ItoaNum
namespace Go.Proofs.YtelbcfipkanfkaaDoor
open Go.Lib (itoa)

/-- the document's text of a value -/
def valText (k n : Int) (t : List UInt8) : List UInt8 :=
  if valOk k n t = true then
    if k = 1 then itoa n else if k = 2 then quoted 39 t else if k = 3 then (if n = 1 then [84, 82, 85, 69] else [70, 65, 76, 83, 69]) else [78, 85, 76, 76]
  else [63]
theorem valOk_kind {k n : Int} {t : List UInt8} (h : valOk k n t = true) : k = 0 ∨ k = 1 ∨ k = 2 ∨ k = 3 := by
  unfold valOk at h
  by_cases h0 : k = 0
  · exact .inl h0
  by_cases h1 : k = 1
  · exact .inr (.inl h1)
  by_cases h2 : k = 2
  · exact .inr (.inr (.inl h2))
  by_cases h3 : k = 3
  · exact .inr (.inr (.inr h3))
  rw [if_neg h0, if_neg h1, if_neg h2, if_neg h3] at h
  cases h
theorem valOk_bool {n : Int} {t : List UInt8} (h : valOk 3 n t = true) : (n = 0 ∨ n = 1) ∧ t = [] := by
  unfold valOk at h
  rw [if_neg (by decide), if_neg (by decide), if_neg (by decide), if_pos rfl] at h
  simp only [Bool.and_eq_true, decide_eq_true_eq] at h
  exact ⟨by omega, h.2⟩
theorem valOk_null {n : Int} {t : List UInt8} (h : valOk 0 n t = true) : n = 0 ∧ t = [] := by
  unfold valOk at h
  rw [if_pos rfl] at h
  simpa only [Bool.and_eq_true, decide_eq_true_eq] using h
end Go.Proofs.YtelbcfipkanfkaaDoor
