
/- Slices of values: what it is that one holds, and what keeps it. -/
import Derived.Test.YtjekhgekldkopaaTokSlDef
namespace Go.Proofs.Ytjekhgekldkopaa
open Go.RowKit

/-- the slice at a holds the values f 0, f 1, .. up to n; its block is new since B -/
def ValSl (w : World) (B : Nat) (a : Option Addr) (n : Nat) (f : Nat → Int × Int × ByteArray) : Prop :=
  ∀ j, j < n → ∃ g, a = some ⟨g, 0, none⟩ ∧ B ≤ g ∧ g < w.heap.size ∧
    w.cell? ⟨g, j * 3, none⟩ = some (.int .i64 (f j).1) ∧ w.cell? ⟨g, j * 3 + 1, none⟩ = some (.int .i64 (f j).2.1) ∧ w.cell? ⟨g, j * 3 + 2, none⟩ = some (.string (f j).2.2) ∧
    w.frozen? ⟨g, j * 3, none⟩ = false ∧ w.frozen? ⟨g, j * 3 + 1, none⟩ = false ∧ w.frozen? ⟨g, j * 3 + 2, none⟩ = false

def updV (f : Nat → Int × Int × ByteArray) (k : Nat) (v : Int × Int × ByteArray) (j : Nat) : Int × Int × ByteArray := if j = k then v else f j
theorem updV_same {f : Nat → Int × Int × ByteArray} {k : Nat} {v : Int × Int × ByteArray} : updV f k v k = v := if_pos rfl
theorem updV_other {f : Nat → Int × Int × ByteArray} {k j : Nat} {v : Int × Int × ByteArray} (h : ¬ j = k) : updV f k v j = f j := if_neg h
theorem ValSl.put0 {w : World} {B n k g : Nat} {a : Option Addr} {f : Nat → Int × Int × ByteArray} (x : Int) (H : ValSl w B a n f) (ha : a = some ⟨g, 0, none⟩) :
    ValSl (w.setCell ⟨g, k * 3, none⟩ (.int .i64 x)) B a n (updV f k (x, (f k).2.1, (f k).2.2)) := fun j hj => by
  obtain ⟨g', e, h1, h2, c0, c1, c2, z0, z1, z2⟩ := H j hj
  obtain rfl : g' = g := by rw [e] at ha; simpa using ha
  have hsz : (w.setCell ⟨g', k * 3, none⟩ (.int .i64 x)).heap.size = w.heap.size := by simp
  refine ⟨g', e, h1, by rw [hsz]; exact h2, ?_, ?_, ?_, by rw [World.frozen?_setCell]; exact z0, by rw [World.frozen?_setCell]; exact z1, by rw [World.frozen?_setCell]; exact z2⟩
  all_goals
    by_cases ej : j = k
    · subst ej
      rw [updV_same]
      first
        | exact World.cell?_setCell_same _ _ _ (by assumption)
        | (rw [World.cell?_setCell_other _ _ _ _ (fun x => by have := (Addr.mk.inj x).2.1; omega)]; assumption)
    · rw [updV_other ej, World.cell?_setCell_other _ _ _ _ (fun x => by have := (Addr.mk.inj x).2.1; omega)]; assumption
theorem ValSl.put1 {w : World} {B n k g : Nat} {a : Option Addr} {f : Nat → Int × Int × ByteArray} (x : Int) (H : ValSl w B a n f) (ha : a = some ⟨g, 0, none⟩) :
    ValSl (w.setCell ⟨g, k * 3 + 1, none⟩ (.int .i64 x)) B a n (updV f k ((f k).1, x, (f k).2.2)) := fun j hj => by
  obtain ⟨g', e, h1, h2, c0, c1, c2, z0, z1, z2⟩ := H j hj
  obtain rfl : g' = g := by rw [e] at ha; simpa using ha
  have hsz : (w.setCell ⟨g', k * 3 + 1, none⟩ (.int .i64 x)).heap.size = w.heap.size := by simp
  refine ⟨g', e, h1, by rw [hsz]; exact h2, ?_, ?_, ?_, by rw [World.frozen?_setCell]; exact z0, by rw [World.frozen?_setCell]; exact z1, by rw [World.frozen?_setCell]; exact z2⟩
  all_goals
    by_cases ej : j = k
    · subst ej
      rw [updV_same]
      first
        | exact World.cell?_setCell_same _ _ _ (by assumption)
        | (rw [World.cell?_setCell_other _ _ _ _ (fun x => by have := (Addr.mk.inj x).2.1; omega)]; assumption)
    · rw [updV_other ej, World.cell?_setCell_other _ _ _ _ (fun x => by have := (Addr.mk.inj x).2.1; omega)]; assumption
theorem ValSl.put2 {w : World} {B n k g : Nat} {a : Option Addr} {f : Nat → Int × Int × ByteArray} (x : ByteArray) (H : ValSl w B a n f) (ha : a = some ⟨g, 0, none⟩) :
    ValSl (w.setCell ⟨g, k * 3 + 2, none⟩ (.string x)) B a n (updV f k ((f k).1, (f k).2.1, x)) := fun j hj => by
  obtain ⟨g', e, h1, h2, c0, c1, c2, z0, z1, z2⟩ := H j hj
  obtain rfl : g' = g := by rw [e] at ha; simpa using ha
  have hsz : (w.setCell ⟨g', k * 3 + 2, none⟩ (.string x)).heap.size = w.heap.size := by simp
  refine ⟨g', e, h1, by rw [hsz]; exact h2, ?_, ?_, ?_, by rw [World.frozen?_setCell]; exact z0, by rw [World.frozen?_setCell]; exact z1, by rw [World.frozen?_setCell]; exact z2⟩
  all_goals
    by_cases ej : j = k
    · subst ej
      rw [updV_same]
      first
        | exact World.cell?_setCell_same _ _ _ (by assumption)
        | (rw [World.cell?_setCell_other _ _ _ _ (fun x => by have := (Addr.mk.inj x).2.1; omega)]; assumption)
    · rw [updV_other ej, World.cell?_setCell_other _ _ _ _ (fun x => by have := (Addr.mk.inj x).2.1; omega)]; assumption
theorem ValSl.congr {w : World} {B n : Nat} {a : Option Addr} {f f' : Nat → Int × Int × ByteArray} (H : ValSl w B a n f) (h : ∀ j, j < n → f j = f' j) : ValSl w B a n f' := fun j hj => by
  rw [← h j hj]; exact H j hj
theorem ValSl.keep {w w' : World} {B n : Nat} {a : Option Addr} {f : Nat → Int × Int × ByteArray} (H : ValSl w B a n f) (hs : w.heap.size ≤ w'.heap.size) (hb : ∀ g, a = some ⟨g, 0, none⟩ → B ≤ g → g < w.heap.size → w'.heap[g]? = w.heap[g]?) : ValSl w' B a n f := fun j hj => by
  obtain ⟨g, e, h1, h2, c0, c1, c2, z0, z1, z2⟩ := H j hj
  have hk := hb g e h1 h2
  have hc : ∀ o, w'.cell? ⟨g, o, none⟩ = w.cell? ⟨g, o, none⟩ := fun o => World.cell?_of_block (w := w) (w' := w') (a := ⟨g, o, none⟩) hk
  have hz : ∀ o, w'.frozen? ⟨g, o, none⟩ = w.frozen? ⟨g, o, none⟩ := fun o => World.frozen?_of_block (w := w) (w' := w') (a := ⟨g, o, none⟩) hk
  exact ⟨g, e, h1, by omega, by rw [hc]; exact c0, by rw [hc]; exact c1, by rw [hc]; exact c2, by rw [hz]; exact z0, by rw [hz]; exact z1, by rw [hz]; exact z2⟩
theorem ValSl.below {w w' : World} {B n : Nat} {a : Option Addr} {f : Nat → Int × Int × ByteArray} (H : ValSl w B a n f) (hb : Below w.heap.size w w') : ValSl w' B a n f :=
  H.keep hb.size fun g _ _ h => hb.block g h

/-- the cells of value k, in any later world -/
theorem ValSl.at_k {w w' : World} {B n k g : Nat} {f : Nat → Int × Int × ByteArray} (H : ValSl w B (some ⟨g, 0, none⟩) n f) (hb : Below w.heap.size w w') (hk : k < n) :
    w'.cell? ⟨g, k * 3, none⟩ = some (.int .i64 (f k).1) ∧ w'.cell? ⟨g, k * 3 + 1, none⟩ = some (.int .i64 (f k).2.1) ∧ w'.cell? ⟨g, k * 3 + 2, none⟩ = some (.string (f k).2.2) := by
  obtain ⟨g', e, _, _, c0, c1, c2, _⟩ := H.below hb k hk
  obtain rfl : g = g' := by simpa using e
  exact ⟨c0, c1, c2⟩

end Go.Proofs.Ytjekhgekldkopaa
