
/- What the unary operators give. -/
import Derived.Test.YtjekhgekldkopaaCalcB
namespace Go.Proofs.Ytjekhgekldkopaa
open Go.RowKit

def unC (op k a : Int) (t : ByteArray) : CR :=
  if op = 15 then calcC 3 k a t 3 0 ⟨#[]⟩ else if op = 16 then calcC 11 1 0 ⟨#[]⟩ k a t else errC 1
theorem valOk_false : valOk 3 0 ((⟨#[]⟩ : ByteArray).data.toList) = true := by decide
theorem valOk_zero : valOk 1 0 ((⟨#[]⟩ : ByteArray).data.toList) = true := by decide
theorem un_bad {op k a : Int} {t : ByteArray} (h : valOk k a t.data.toList = false) : unC op k a t = errC 1 := by
  unfold unC
  split
  · exact calc_bad (.inr (.inl h))
  · split
    · exact calc_bad (.inr (.inr (.inl h)))
    · rfl
theorem not_kind {k a : Int} {t : ByteArray} (h : valOk k a t.data.toList = true) (hk : kindIn k 3 = false) : unC 15 k a t = errC 1 := by
  have hk0 : (k == 0) = false := by unfold kindIn at hk; rw [Bool.or_eq_false_iff] at hk; exact hk.2
  have hk3 : (k == 3) = false := by unfold kindIn at hk; rw [Bool.or_eq_false_iff] at hk; exact hk.1
  show calcC 3 k a t 3 0 ⟨#[]⟩ = _
  refine calc_bad (.inr (.inr (.inr ?_)))
  unfold fitsOp
  rw [if_neg (by decide), if_pos (by decide), hk3, hk0]
  rfl
theorem not_null {a : Int} {t : ByteArray} (h : valOk 0 a t.data.toList = true) : unC 15 0 a t = nullC ∧ a = 0 ∧ t = ⟨#[]⟩ := by
  have e : a = 0 ∧ t = ⟨#[]⟩ := by
    unfold valOk at h
    simp only [if_true, Bool.and_eq_true, decide_eq_true_eq] at h
    exact ⟨h.1, ba_of (by rw [h.2])⟩
  refine ⟨?_, e⟩
  show calcC 3 0 a t 3 0 ⟨#[]⟩ = _
  rw [calc_good (by decide) (by decide) h valOk_false (by rfl)]
  rfl
theorem not_bool {a : Int} {t : ByteArray} (h : valOk 3 a t.data.toList = true) : unC 15 3 a t = boolC (a == 0) := by
  have e : (a = 0 ∨ a = 1) ∧ t = ⟨#[]⟩ := by
    unfold valOk at h
    simp only [Int.reduceEq, if_false, if_true, Bool.and_eq_true, decide_eq_true_eq] at h
    exact ⟨by omega, ba_of (by rw [h.2])⟩
  show calcC 3 3 a t 3 0 ⟨#[]⟩ = _
  rw [calc_good (by decide) (by decide) h valOk_false (by rfl), if_neg (by decide), if_neg (by decide), if_pos (by decide)]
  obtain ⟨rfl | rfl, rfl⟩ := e
  · have : ordV (3, 0, (⟨#[]⟩ : ByteArray).data.toList) (3, 0, (⟨#[]⟩ : ByteArray).data.toList) = 0 := ordV_self _
    rw [this]; rfl
  · have : ordV (3, 1, (⟨#[]⟩ : ByteArray).data.toList) (3, 0, (⟨#[]⟩ : ByteArray).data.toList) = 1 := by decide
    rw [this]; rfl
theorem neg_kind {k a : Int} {t : ByteArray} (hk : kindIn k 1 = false) : unC 16 k a t = errC 1 := by
  show calcC 11 1 0 ⟨#[]⟩ k a t = _
  refine calc_bad (.inr (.inr (.inr ?_)))
  unfold fitsOp
  rw [if_neg (by decide), if_neg (by decide), if_neg (by decide), hk]
  rfl
theorem neg_null {a : Int} {t : ByteArray} (h : valOk 0 a t.data.toList = true) : unC 16 0 a t = nullC := by
  show calcC 11 1 0 ⟨#[]⟩ 0 a t = _
  rw [calc_good (by decide) (by decide) valOk_zero h (by rfl)]
  rfl
theorem neg_num {a : Int} {t : ByteArray} (h : valOk 1 a t.data.toList = true) : unC 16 1 a t = numC (0 - a) := by
  show calcC 11 1 0 ⟨#[]⟩ 1 a t = _
  rw [calc_good (by decide) (by decide) valOk_zero h (by rfl)]
  rfl
end Go.Proofs.Ytjekhgekldkopaa
