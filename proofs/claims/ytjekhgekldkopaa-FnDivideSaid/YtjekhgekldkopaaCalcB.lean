
/- What Calc gives, case by case. -/
import Derived.Test.YtjekhgekldkopaaCalcDef
namespace Go.Proofs.Ytjekhgekldkopaa
open Go.RowKit

theorem calc_bad {op k a : Int} {t : ByteArray} {k' a' : Int} {t' : ByteArray} (h : (decide (1 ≤ op) && decide (op ≤ 14)) = false ∨ valOk k a t.data.toList = false ∨ valOk k' a' t'.data.toList = false ∨ fitsOp op k k' = false) : calcC op k a t k' a' t' = errC 1 := by
  unfold calcC
  rw [if_neg]
  rcases h with h | h | h | h <;> rw [h] <;> simp
theorem calc_good {op k a : Int} {t : ByteArray} {k' a' : Int} {t' : ByteArray} (h0 : 1 ≤ op) (h1 : op ≤ 14) (h2 : valOk k a t.data.toList = true) (h3 : valOk k' a' t'.data.toList = true) (h4 : fitsOp op k k' = true) : calcC op k a t k' a' t' =
    if op ≤ 2 then logicC op k a k' a'
    else if (k == 0) || (k' == 0) then nullC
    else if op ≤ 8 then boolC (holdsB op (ordV (k, a, t.data.toList) (k', a', t'.data.toList)))
    else if op = 9 then catC t t'
    else numOpC op a a' := by
  unfold calcC
  rw [if_pos (by rw [h2, h3, h4, decide_eq_true h0, decide_eq_true h1]; rfl)]
theorem text_small {k a : Int} {t : ByteArray} (h : valOk k a t.data.toList = true) : t.size ≤ 200 := by
  have hs : t.size = t.data.toList.length := rfl
  unfold valOk at h
  split at h
  · simp only [Bool.and_eq_true, decide_eq_true_eq] at h; rw [hs, h.2]; simp
  · split at h
    · simp only [decide_eq_true_eq] at h; rw [hs, h]; simp
    · split at h
      · simp only [Bool.and_eq_true, decide_eq_true_eq] at h; omega
      · split at h
        · simp only [Bool.and_eq_true, decide_eq_true_eq] at h; rw [hs, h.2]; simp
        · cases h
end Go.Proofs.Ytjekhgekldkopaa
