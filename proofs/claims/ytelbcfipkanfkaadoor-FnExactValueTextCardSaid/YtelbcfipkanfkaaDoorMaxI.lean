
/- What strings.Index and its callers read: internal/bytealg.MaxLen holds some number. -/
import Derived.Test.YtelbcfipkanfkaaDoorBase
import Derived.Test.YtelbcfipkanfkaaDoorOwn
namespace Go.Proofs.YtelbcfipkanfkaaDoor
open Go.RowKit
/-- internal/bytealg.MaxLen holds some number -/
def MaxI (w : World) : Prop := ∃ m : Int, w.cell? ⟨1, 0, none⟩ = some (.int .i64 m)
theorem MaxI.later {B : Nat} {w w' : World} (h : MaxI w) (g : Below B w w') (hB : 1 < B) : MaxI w' := by
  obtain ⟨m, hm⟩ := h
  exact ⟨m, (World.cell?_of_block (w := w) (w' := w') (a := ⟨1, 0, none⟩) (g.block 1 hB)).trans hm⟩
theorem MaxI.two {w : World} (h : MaxI w) : 1 < w.heap.size := by
  obtain ⟨m, hm⟩ := h
  rcases Nat.lt_or_ge 1 w.heap.size with e | e
  · exact e
  · have : w.heap[1]? = none := Array.getElem?_eq_none e
    simp [World.cell?, this] at hm
end Go.Proofs.YtelbcfipkanfkaaDoor
