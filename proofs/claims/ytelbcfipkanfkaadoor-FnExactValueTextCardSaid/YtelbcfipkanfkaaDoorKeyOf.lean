
/- Contracts of KeyOf, program and model, and of the list of keywords. -/
import Derived.Test.YtelbcfipkanfkaaDoorKey
import Derived.Test.YtelbcfipkanfkaaDoorFold
import Derived.Test.YtelbcfipkanfkaaDoorPure
namespace Go.Proofs.YtelbcfipkanfkaaDoor
open Go.RowKit Go.Maps

theorem ownsMap_below {H : Type} {P : Program} {k : TypeId} {R : Value → Option (DataW H × List MemPlace)} {w w' : World} {b n B : Nat} {D : DataW H} (h : w.ownsMap P k R b n D) (hb : Below B w w') (hB : b < B) : w'.ownsMap P k R b n D := by
  obtain ⟨es, clock, h1, F, hs, hD⟩ := h
  exact ⟨es, clock, (hb.block b hB).trans h1, F, hs, hD⟩

theorem word_eq {k : Nat} {F : ByteArray} {l : List UInt8} (hF : F = ⟨l.toArray⟩) : ((wordB k).toList == F.toList) = decide (word k = l) := by
  subst hF
  by_cases h : word k = l
  · rw [decide_eq_true h, Lib.bytes_beq_iff]
    unfold wordB; rw [h]
  · rw [decide_eq_false h, Lib.bytes_beq_false_iff]
    intro e
    exact h (by have := congrArg (fun b : ByteArray => b.data.toList) e; simpa [wordB] using this)

end Go.Proofs.YtelbcfipkanfkaaDoor
