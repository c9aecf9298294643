
/- The text of a token, as a plain function. No program. -/
import Derived.Test.YtcadoplfgclbjaaLexMath2
import Derived.Test.YtcadoplfgclbjaaTextDef
namespace Go.Proofs.Ytcadoplfgclbjaa
open Go.RowKit

/-- the text of a token -/
def tokTextL (k : Int) (t : List UInt8) : List UInt8 := if tokOk k t then (if k = 2 then nameL t else if k = 4 then quoted 39 t else t) else []
theorem tokOk_small {k : Int} {t : List UInt8} (h : tokOk k t = true) : t.length ≤ 40 := by
  unfold tokOk at h
  split at h
  · have h0 := h
    simp only [Bool.and_eq_true, decide_eq_true_eq, beq_iff_eq] at h0
    rcases Nat.lt_or_ge 8 t.length with h8 | h8
    · have := num_long (l := upL t) (by rw [upL_len]; exact h8)
      omega
    · omega
  · split at h
    · unfold okLen at h; simp at h; omega
    · split at h
      · obtain ⟨n, hn⟩ := (numB_iff _).1 h
        have := hn.len; omega
      · split at h
        · simpa using h
        · split at h
          · rcases signB_cases h with h | h | h | h | h | h | h | h | h | h | h | h | h | h | h | h <;> (subst h; decide)
          · cases h
end Go.Proofs.Ytcadoplfgclbjaa
