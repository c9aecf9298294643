/- Joined texts: Lat. -/
import Derived.WalkKit
import Derived.Below
import Derived.BigQuiet
namespace Go.Proofs.YtcliijfdlcagoaaGreat
set_option linter.unusedVariables false
set_option linter.unusedSimpArgs false
open Go.RowKit
open Classical in
noncomputable def lat (wr w : World) : World := if Below wr.heap.size wr w then w else wr
theorem lat_below (wr v : World) : Below wr.heap.size wr (lat wr v) := by
  unfold lat
  split
  · assumption
  · exact Below.refl _ _
theorem lat_of {wr w : World} (h : Below wr.heap.size wr w) : lat wr w = w := if_pos h
theorem lat_to {wr v w : World} (h : Below (lat wr v).heap.size (lat wr v) w) : ∃ m, w = lat wr m :=
  ⟨w, (lat_of ((lat_below wr v).trans (h.mono (lat_below wr v).size))).symm⟩
theorem cell_block {w : World} {p : Addr} {x : Value} (h : w.cell? p = some x) : p.block < w.heap.size := by
  rcases Nat.lt_or_ge p.block w.heap.size with h1 | h1
  · exact h1
  · have h2 : w.heap[p.block]? = none := Array.getElem?_eq_none h1
    simp [World.cell?, h2] at h
theorem lat_cell {wr : World} {p : Addr} {x : Value} (h : wr.cell? p = some x) (v : World) : (lat wr v).cell? p = some x :=
  ((lat_below wr v).cell (cell_block h)).trans h
theorem region_lat {P : Program} {id : Nat} {Q : Exit → Act → World → Prop} {a : Act} {w : World} {l : List Oper} (hm : P.follows .mixedOrders = true) (hB : Region.lexB .any l.toArray = true)
    (h : wpQuiet P l.toArray (fun w' => ∃ n, w' = lat w n) (fun a' => ∀ w', (∃ n, w' = lat w n) → Q .normal a' w') l a) : (Code.region id l.toArray true).wp P Q a w :=
  wp_region_quiet (C := fun w' => ∃ n, w' = lat w n) hm hB ⟨{ w with drawn := w.drawn + 1 }, (lat_of (wr := w) (w := { w with drawn := w.drawn + 1 }) ⟨rfl, rfl, rfl, Nat.le_refl _, fun _ _ => rfl⟩).symm⟩ (by simpa using h)
end Go.Proofs.YtcliijfdlcagoaaGreat
