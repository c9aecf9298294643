/- Joined texts: TokSlDef ValSlDef Lat OrdS. -/
import Derived.Test.YtjekhgekldkopaaQF
import Derived.Test.YtjekhgekldkopaaQC
import Derived.WalkKit
import Derived.Below
import Derived.BigQuiet
import Derived.Laws.Cover1
/- Slices of tokens: what it is that one holds, and what keeps it. -/
namespace Go.Proofs.Ytjekhgekldkopaa
open Go.RowKit

/-- the slice at a holds the tokens f 0, f 1, .. up to n; its block is new since B -/
def TokSl (w : World) (B : Nat) (a : Option Addr) (n : Nat) (f : Nat → Int × ByteArray × Int) : Prop :=
  ∀ j, j < n → ∃ g, a = some ⟨g, 0, none⟩ ∧ B ≤ g ∧ g < w.heap.size ∧
    w.cell? ⟨g, j * 3, none⟩ = some (.int .i64 (f j).1) ∧ w.cell? ⟨g, j * 3 + 1, none⟩ = some (.string (f j).2.1) ∧ w.cell? ⟨g, j * 3 + 2, none⟩ = some (.int .i64 (f j).2.2) ∧
    w.frozen? ⟨g, j * 3, none⟩ = false ∧ w.frozen? ⟨g, j * 3 + 1, none⟩ = false ∧ w.frozen? ⟨g, j * 3 + 2, none⟩ = false

def upd (f : Nat → Int × ByteArray × Int) (k : Nat) (v : Int × ByteArray × Int) (j : Nat) : Int × ByteArray × Int := if j = k then v else f j
theorem upd_same {f : Nat → Int × ByteArray × Int} {k : Nat} {v : Int × ByteArray × Int} : upd f k v k = v := if_pos rfl
theorem upd_other {f : Nat → Int × ByteArray × Int} {k j : Nat} {v : Int × ByteArray × Int} (h : ¬ j = k) : upd f k v j = f j := if_neg h
theorem TokSl.put0 {w : World} {B n k g : Nat} {a : Option Addr} {f : Nat → Int × ByteArray × Int} (x : Int) (H : TokSl w B a n f) (ha : a = some ⟨g, 0, none⟩) :
    TokSl (w.setCell ⟨g, k * 3, none⟩ (.int .i64 x)) B a n (upd f k (x, (f k).2.1, (f k).2.2)) := fun j hj => by
  obtain ⟨g', e, h1, h2, c0, c1, c2, z0, z1, z2⟩ := H j hj
  obtain rfl : g' = g := by rw [e] at ha; simpa using ha
  have hsz : (w.setCell ⟨g', k * 3, none⟩ (.int .i64 x)).heap.size = w.heap.size := by simp
  refine ⟨g', e, h1, by rw [hsz]; exact h2, ?_, ?_, ?_, by rw [World.frozen?_setCell]; exact z0, by rw [World.frozen?_setCell]; exact z1, by rw [World.frozen?_setCell]; exact z2⟩
  all_goals
    by_cases ej : j = k
    · subst ej
      rw [upd_same]
      first
        | exact World.cell?_setCell_same _ _ _ (by assumption)
        | (rw [World.cell?_setCell_other _ _ _ _ (fun x => by have := (Addr.mk.inj x).2.1; omega)]; assumption)
    · rw [upd_other ej, World.cell?_setCell_other _ _ _ _ (fun x => by have := (Addr.mk.inj x).2.1; omega)]; assumption
theorem TokSl.put1 {w : World} {B n k g : Nat} {a : Option Addr} {f : Nat → Int × ByteArray × Int} (x : ByteArray) (H : TokSl w B a n f) (ha : a = some ⟨g, 0, none⟩) :
    TokSl (w.setCell ⟨g, k * 3 + 1, none⟩ (.string x)) B a n (upd f k ((f k).1, x, (f k).2.2)) := fun j hj => by
  obtain ⟨g', e, h1, h2, c0, c1, c2, z0, z1, z2⟩ := H j hj
  obtain rfl : g' = g := by rw [e] at ha; simpa using ha
  have hsz : (w.setCell ⟨g', k * 3 + 1, none⟩ (.string x)).heap.size = w.heap.size := by simp
  refine ⟨g', e, h1, by rw [hsz]; exact h2, ?_, ?_, ?_, by rw [World.frozen?_setCell]; exact z0, by rw [World.frozen?_setCell]; exact z1, by rw [World.frozen?_setCell]; exact z2⟩
  all_goals
    by_cases ej : j = k
    · subst ej
      rw [upd_same]
      first
        | exact World.cell?_setCell_same _ _ _ (by assumption)
        | (rw [World.cell?_setCell_other _ _ _ _ (fun x => by have := (Addr.mk.inj x).2.1; omega)]; assumption)
    · rw [upd_other ej, World.cell?_setCell_other _ _ _ _ (fun x => by have := (Addr.mk.inj x).2.1; omega)]; assumption
theorem TokSl.put2 {w : World} {B n k g : Nat} {a : Option Addr} {f : Nat → Int × ByteArray × Int} (x : Int) (H : TokSl w B a n f) (ha : a = some ⟨g, 0, none⟩) :
    TokSl (w.setCell ⟨g, k * 3 + 2, none⟩ (.int .i64 x)) B a n (upd f k ((f k).1, (f k).2.1, x)) := fun j hj => by
  obtain ⟨g', e, h1, h2, c0, c1, c2, z0, z1, z2⟩ := H j hj
  obtain rfl : g' = g := by rw [e] at ha; simpa using ha
  have hsz : (w.setCell ⟨g', k * 3 + 2, none⟩ (.int .i64 x)).heap.size = w.heap.size := by simp
  refine ⟨g', e, h1, by rw [hsz]; exact h2, ?_, ?_, ?_, by rw [World.frozen?_setCell]; exact z0, by rw [World.frozen?_setCell]; exact z1, by rw [World.frozen?_setCell]; exact z2⟩
  all_goals
    by_cases ej : j = k
    · subst ej
      rw [upd_same]
      first
        | exact World.cell?_setCell_same _ _ _ (by assumption)
        | (rw [World.cell?_setCell_other _ _ _ _ (fun x => by have := (Addr.mk.inj x).2.1; omega)]; assumption)
    · rw [upd_other ej, World.cell?_setCell_other _ _ _ _ (fun x => by have := (Addr.mk.inj x).2.1; omega)]; assumption
theorem TokSl.congr {w : World} {B n : Nat} {a : Option Addr} {f f' : Nat → Int × ByteArray × Int} (H : TokSl w B a n f) (h : ∀ j, j < n → f j = f' j) : TokSl w B a n f' := fun j hj => by
  rw [← h j hj]; exact H j hj
theorem TokSl.keep {w w' : World} {B n : Nat} {a : Option Addr} {f : Nat → Int × ByteArray × Int} (H : TokSl w B a n f) (hs : w.heap.size ≤ w'.heap.size) (hb : ∀ g, a = some ⟨g, 0, none⟩ → B ≤ g → g < w.heap.size → w'.heap[g]? = w.heap[g]?) : TokSl w' B a n f := fun j hj => by
  obtain ⟨g, e, h1, h2, c0, c1, c2, z0, z1, z2⟩ := H j hj
  have hk := hb g e h1 h2
  have hc : ∀ o, w'.cell? ⟨g, o, none⟩ = w.cell? ⟨g, o, none⟩ := fun o => World.cell?_of_block (w := w) (w' := w') (a := ⟨g, o, none⟩) hk
  have hz : ∀ o, w'.frozen? ⟨g, o, none⟩ = w.frozen? ⟨g, o, none⟩ := fun o => World.frozen?_of_block (w := w) (w' := w') (a := ⟨g, o, none⟩) hk
  exact ⟨g, e, h1, by omega, by rw [hc]; exact c0, by rw [hc]; exact c1, by rw [hc]; exact c2, by rw [hz]; exact z0, by rw [hz]; exact z1, by rw [hz]; exact z2⟩
theorem TokSl.below {w w' : World} {B n : Nat} {a : Option Addr} {f : Nat → Int × ByteArray × Int} (H : TokSl w B a n f) (hb : Below w.heap.size w w') : TokSl w' B a n f :=
  H.keep hb.size fun g _ _ h => hb.block g h

/-- the cells of token k, in any later world -/
theorem TokSl.at_k {w w' : World} {B n k g : Nat} {f : Nat → Int × ByteArray × Int} (H : TokSl w B (some ⟨g, 0, none⟩) n f) (hb : Below w.heap.size w w') (hk : k < n) :
    w'.cell? ⟨g, k * 3, none⟩ = some (.int .i64 (f k).1) ∧ w'.cell? ⟨g, k * 3 + 1, none⟩ = some (.string (f k).2.1) ∧ w'.cell? ⟨g, k * 3 + 2, none⟩ = some (.int .i64 (f k).2.2) := by
  obtain ⟨g', e, _, _, c0, c1, c2, _⟩ := H.below hb k hk
  obtain rfl : g = g' := by simpa using e
  exact ⟨c0, c1, c2⟩

/-- nothing that was there has turned but the slice's own block -/
def Turns (a : Option Addr) (w w' : World) : Prop := w.grownBy w' (a.map (·.block))
theorem turns_refl (a : Option Addr) (w : World) : Turns a w w := ⟨rfl, rfl, rfl, Nat.le_refl _, fun _ _ _ => rfl⟩
theorem turns_set {a : Option Addr} {w w1 : World} {g o : Nat} {v : Value} (h : Turns a w w1) (ha : a = some ⟨g, 0, none⟩) : Turns a w (w1.setCell ⟨g, o, none⟩ v) := by
  subst ha
  exact ⟨h.os, h.tape, h.output, by simpa using h.size, fun k hk hr => (heap_setCell_other w1 ⟨g, o, none⟩ k v (fun e => hr (by simp [e]))).trans (h.block k hk hr)⟩
theorem turns_below {a : Option Addr} {w w1 w2 : World} (h : Turns a w w1) (g : Below w1.heap.size w1 w2) : Turns a w w2 :=
  ⟨g.os.trans h.os, g.tape.trans h.tape, g.output.trans h.output, Nat.le_trans h.size g.size, fun k hk hr => (g.block k (by have := h.size; omega)).trans (h.block k hk hr)⟩
end Go.Proofs.Ytjekhgekldkopaa

/- Slices of values: what it is that one holds, and what keeps it. -/
namespace Go.Proofs.Ytjekhgekldkopaa
open Go.RowKit

/-- the slice at a holds the values f 0, f 1, .. up to n; its block is new since B -/
def ValSl (w : World) (B : Nat) (a : Option Addr) (n : Nat) (f : Nat → Int × Int × ByteArray) : Prop :=
  ∀ j, j < n → ∃ g, a = some ⟨g, 0, none⟩ ∧ B ≤ g ∧ g < w.heap.size ∧
    w.cell? ⟨g, j * 3, none⟩ = some (.int .i64 (f j).1) ∧ w.cell? ⟨g, j * 3 + 1, none⟩ = some (.int .i64 (f j).2.1) ∧ w.cell? ⟨g, j * 3 + 2, none⟩ = some (.string (f j).2.2) ∧
    w.frozen? ⟨g, j * 3, none⟩ = false ∧ w.frozen? ⟨g, j * 3 + 1, none⟩ = false ∧ w.frozen? ⟨g, j * 3 + 2, none⟩ = false

def updV (f : Nat → Int × Int × ByteArray) (k : Nat) (v : Int × Int × ByteArray) (j : Nat) : Int × Int × ByteArray := if j = k then v else f j
theorem updV_same {f : Nat → Int × Int × ByteArray} {k : Nat} {v : Int × Int × ByteArray} : updV f k v k = v := if_pos rfl
theorem updV_other {f : Nat → Int × Int × ByteArray} {k j : Nat} {v : Int × Int × ByteArray} (h : ¬ j = k) : updV f k v j = f j := if_neg h
theorem ValSl.put0 {w : World} {B n k g : Nat} {a : Option Addr} {f : Nat → Int × Int × ByteArray} (x : Int) (H : ValSl w B a n f) (ha : a = some ⟨g, 0, none⟩) :
    ValSl (w.setCell ⟨g, k * 3, none⟩ (.int .i64 x)) B a n (updV f k (x, (f k).2.1, (f k).2.2)) := fun j hj => by
  obtain ⟨g', e, h1, h2, c0, c1, c2, z0, z1, z2⟩ := H j hj
  obtain rfl : g' = g := by rw [e] at ha; simpa using ha
  have hsz : (w.setCell ⟨g', k * 3, none⟩ (.int .i64 x)).heap.size = w.heap.size := by simp
  refine ⟨g', e, h1, by rw [hsz]; exact h2, ?_, ?_, ?_, by rw [World.frozen?_setCell]; exact z0, by rw [World.frozen?_setCell]; exact z1, by rw [World.frozen?_setCell]; exact z2⟩
  all_goals
    by_cases ej : j = k
    · subst ej
      rw [updV_same]
      first
        | exact World.cell?_setCell_same _ _ _ (by assumption)
        | (rw [World.cell?_setCell_other _ _ _ _ (fun x => by have := (Addr.mk.inj x).2.1; omega)]; assumption)
    · rw [updV_other ej, World.cell?_setCell_other _ _ _ _ (fun x => by have := (Addr.mk.inj x).2.1; omega)]; assumption
theorem ValSl.put1 {w : World} {B n k g : Nat} {a : Option Addr} {f : Nat → Int × Int × ByteArray} (x : Int) (H : ValSl w B a n f) (ha : a = some ⟨g, 0, none⟩) :
    ValSl (w.setCell ⟨g, k * 3 + 1, none⟩ (.int .i64 x)) B a n (updV f k ((f k).1, x, (f k).2.2)) := fun j hj => by
  obtain ⟨g', e, h1, h2, c0, c1, c2, z0, z1, z2⟩ := H j hj
  obtain rfl : g' = g := by rw [e] at ha; simpa using ha
  have hsz : (w.setCell ⟨g', k * 3 + 1, none⟩ (.int .i64 x)).heap.size = w.heap.size := by simp
  refine ⟨g', e, h1, by rw [hsz]; exact h2, ?_, ?_, ?_, by rw [World.frozen?_setCell]; exact z0, by rw [World.frozen?_setCell]; exact z1, by rw [World.frozen?_setCell]; exact z2⟩
  all_goals
    by_cases ej : j = k
    · subst ej
      rw [updV_same]
      first
        | exact World.cell?_setCell_same _ _ _ (by assumption)
        | (rw [World.cell?_setCell_other _ _ _ _ (fun x => by have := (Addr.mk.inj x).2.1; omega)]; assumption)
    · rw [updV_other ej, World.cell?_setCell_other _ _ _ _ (fun x => by have := (Addr.mk.inj x).2.1; omega)]; assumption
theorem ValSl.put2 {w : World} {B n k g : Nat} {a : Option Addr} {f : Nat → Int × Int × ByteArray} (x : ByteArray) (H : ValSl w B a n f) (ha : a = some ⟨g, 0, none⟩) :
    ValSl (w.setCell ⟨g, k * 3 + 2, none⟩ (.string x)) B a n (updV f k ((f k).1, (f k).2.1, x)) := fun j hj => by
  obtain ⟨g', e, h1, h2, c0, c1, c2, z0, z1, z2⟩ := H j hj
  obtain rfl : g' = g := by rw [e] at ha; simpa using ha
  have hsz : (w.setCell ⟨g', k * 3 + 2, none⟩ (.string x)).heap.size = w.heap.size := by simp
  refine ⟨g', e, h1, by rw [hsz]; exact h2, ?_, ?_, ?_, by rw [World.frozen?_setCell]; exact z0, by rw [World.frozen?_setCell]; exact z1, by rw [World.frozen?_setCell]; exact z2⟩
  all_goals
    by_cases ej : j = k
    · subst ej
      rw [updV_same]
      first
        | exact World.cell?_setCell_same _ _ _ (by assumption)
        | (rw [World.cell?_setCell_other _ _ _ _ (fun x => by have := (Addr.mk.inj x).2.1; omega)]; assumption)
    · rw [updV_other ej, World.cell?_setCell_other _ _ _ _ (fun x => by have := (Addr.mk.inj x).2.1; omega)]; assumption
theorem ValSl.congr {w : World} {B n : Nat} {a : Option Addr} {f f' : Nat → Int × Int × ByteArray} (H : ValSl w B a n f) (h : ∀ j, j < n → f j = f' j) : ValSl w B a n f' := fun j hj => by
  rw [← h j hj]; exact H j hj
theorem ValSl.keep {w w' : World} {B n : Nat} {a : Option Addr} {f : Nat → Int × Int × ByteArray} (H : ValSl w B a n f) (hs : w.heap.size ≤ w'.heap.size) (hb : ∀ g, a = some ⟨g, 0, none⟩ → B ≤ g → g < w.heap.size → w'.heap[g]? = w.heap[g]?) : ValSl w' B a n f := fun j hj => by
  obtain ⟨g, e, h1, h2, c0, c1, c2, z0, z1, z2⟩ := H j hj
  have hk := hb g e h1 h2
  have hc : ∀ o, w'.cell? ⟨g, o, none⟩ = w.cell? ⟨g, o, none⟩ := fun o => World.cell?_of_block (w := w) (w' := w') (a := ⟨g, o, none⟩) hk
  have hz : ∀ o, w'.frozen? ⟨g, o, none⟩ = w.frozen? ⟨g, o, none⟩ := fun o => World.frozen?_of_block (w := w) (w' := w') (a := ⟨g, o, none⟩) hk
  exact ⟨g, e, h1, by omega, by rw [hc]; exact c0, by rw [hc]; exact c1, by rw [hc]; exact c2, by rw [hz]; exact z0, by rw [hz]; exact z1, by rw [hz]; exact z2⟩
theorem ValSl.below {w w' : World} {B n : Nat} {a : Option Addr} {f : Nat → Int × Int × ByteArray} (H : ValSl w B a n f) (hb : Below w.heap.size w w') : ValSl w' B a n f :=
  H.keep hb.size fun g _ _ h => hb.block g h

/-- the cells of value k, in any later world -/
theorem ValSl.at_k {w w' : World} {B n k g : Nat} {f : Nat → Int × Int × ByteArray} (H : ValSl w B (some ⟨g, 0, none⟩) n f) (hb : Below w.heap.size w w') (hk : k < n) :
    w'.cell? ⟨g, k * 3, none⟩ = some (.int .i64 (f k).1) ∧ w'.cell? ⟨g, k * 3 + 1, none⟩ = some (.int .i64 (f k).2.1) ∧ w'.cell? ⟨g, k * 3 + 2, none⟩ = some (.string (f k).2.2) := by
  obtain ⟨g', e, _, _, c0, c1, c2, _⟩ := H.below hb k hk
  obtain rfl : g = g' := by simpa using e
  exact ⟨c0, c1, c2⟩

end Go.Proofs.Ytjekhgekldkopaa

/- A region that draws its order and in which a callee makes memory: one walk, in the order of the text, over all worlds in which what was there stands as it was. -/
namespace Go.Proofs.Ytjekhgekldkopaa
open Go.RowKit

open Classical in
/-- w where all that lay in wr stands as it was; wr else -/
noncomputable def lat (wr w : World) : World := if Below wr.heap.size wr w then w else wr
theorem lat_below (wr v : World) : Below wr.heap.size wr (lat wr v) := by
  unfold lat
  split
  · assumption
  · exact Below.refl _ _
theorem lat_of {wr w : World} (h : Below wr.heap.size wr w) : lat wr w = w := if_pos h
theorem lat_to {wr v w : World} (h : Below (lat wr v).heap.size (lat wr v) w) : ∃ m, w = lat wr m :=
  ⟨w, (lat_of ((lat_below wr v).trans (h.mono (lat_below wr v).size))).symm⟩
theorem cell_block {w : World} {p : Addr} {x : Value} (h : w.cell? p = some x) : p.block < w.heap.size := by
  rcases Nat.lt_or_ge p.block w.heap.size with h1 | h1
  · exact h1
  · have h2 : w.heap[p.block]? = none := Array.getElem?_eq_none h1
    simp [World.cell?, h2] at h
theorem lat_cell {wr : World} {p : Addr} {x : Value} (h : wr.cell? p = some x) (v : World) : (lat wr v).cell? p = some x :=
  ((lat_below wr v).cell (cell_block h)).trans h
theorem region_lat {P : Program} {id : Nat} {Q : Exit → Act → World → Prop} {a : Act} {w : World} {l : List Oper} (hm : P.follows .mixedOrders = true) (hB : Region.lexB .any l.toArray = true)
    (h : wpQuiet P l.toArray (fun w' => ∃ n, w' = lat w n) (fun a' => ∀ w', (∃ n, w' = lat w n) → Q .normal a' w') l a) : (Code.region id l.toArray true).wp P Q a w :=
  wp_region_quiet (C := fun w' => ∃ n, w' = lat w n) hm hB ⟨{ w with drawn := w.drawn + 1 }, (lat_of (wr := w) (w := { w with drawn := w.drawn + 1 }) ⟨rfl, rfl, rfl, Nat.le_refl _, fun _ _ => rfl⟩).symm⟩ (by simpa using h)
end Go.Proofs.Ytjekhgekldkopaa

/- Contracts of the model's order of values and of rows. -/
namespace Go.Proofs.Ytjekhgekldkopaa
open Go.RowKit

/-- a value as its kind, its number and its bytes -/
def vl (v : Int × Int × ByteArray) : VL := (v.1, v.2.1, v.2.2.data.toList)
theorem ba_toList (t : ByteArray) : t.toList = t.data.toList := ByteArray.toList_eq t

set_option maxRecDepth 100000 in
set_option maxHeartbeats 4000000 in
theorem order_spec (k a : Int) (t : ByteArray) (k' a' : Int) (t' : ByteArray) (w : World) :
    Calls Try.prog 61 #[.agg #[.int .i64 k, .int .i64 a, .string t], .agg #[.int .i64 k', .int .i64 a', .string t']] w (IntE (ordV (k, a, t.data.toList) (k', a', t'.data.toList)) w) := by
  have hbb : Below w.heap.size w ((w.alloc (.cells #[.int .i64 k, .int .i64 a, .string t] 27)).alloc (.cells #[.int .i64 k', .int .i64 a', .string t'] 27)) :=
    ((Below.refl w.heap.size w).alloc (Nat.le_refl _) _).alloc (by simp) _
  have hO : ordV (k, a, t.data.toList) (k', a', t'.data.toList) = (if k < k' then -1 else if k' < k then 1 else if a < a' then -1 else if a' < a then 1 else if Op.bytesLess t.data.toList t'.data.toList then -1 else if Op.bytesLess t'.data.toList t.data.toList then 1 else 0) := rfl
  generalize ordV (k, a, t.data.toList) (k', a', t'.data.toList) = X at hO ⊢
  rw [← ba_toList t, ← ba_toList t'] at hO
  by_cases h0 : k < k'
  · have d0 : decide (k < k') = true := by simpa using h0
    rw [if_pos h0] at hO
    have HO := Lib.hid hO; clear hO
    go_enter Try.func61, Try.ntmps61
    go_wp2_with fail
    go_ret
    exact ⟨by rw [HO.out]; rfl, hbb⟩
  have d0 : decide (k < k') = false := by simpa using h0
  rw [if_neg h0] at hO
  by_cases h1 : k' < k
  · have d1 : decide (k' < k) = true := by simpa using h1
    rw [if_pos h1] at hO
    have HO := Lib.hid hO; clear hO
    go_enter Try.func61, Try.ntmps61
    go_wp2_with fail
    go_ret
    exact ⟨by rw [HO.out]; rfl, hbb⟩
  have d1 : decide (k' < k) = false := by simpa using h1
  rw [if_neg h1] at hO
  by_cases h2 : a < a'
  · have d2 : decide (a < a') = true := by simpa using h2
    rw [if_pos h2] at hO
    have HO := Lib.hid hO; clear hO
    go_enter Try.func61, Try.ntmps61
    go_wp2_with fail
    go_ret
    exact ⟨by rw [HO.out]; rfl, hbb⟩
  have d2 : decide (a < a') = false := by simpa using h2
  rw [if_neg h2] at hO
  by_cases h3 : a' < a
  · have d3 : decide (a' < a) = true := by simpa using h3
    rw [if_pos h3] at hO
    have HO := Lib.hid hO; clear hO
    go_enter Try.func61, Try.ntmps61
    go_wp2_with fail
    go_ret
    exact ⟨by rw [HO.out]; rfl, hbb⟩
  have d3 : decide (a' < a) = false := by simpa using h3
  rw [if_neg h3] at hO
  have htri := bl_tri t.toList t'.toList
  have hirr := bl_irrefl t.toList
  cases h4 : Op.bytesLess t.toList t'.toList
  · rw [h4, if_no rfl] at hO
    cases h5 : (t.toList == t'.toList)
    · have h6 : Op.bytesLess t'.toList t.toList = true := by
        cases h6 : Op.bytesLess t'.toList t.toList
        · have := htri h4 h6
          rw [this] at h5
          simp at h5
        · rfl
      have h7 : (t.toList != t'.toList) = true := by unfold bne; rw [h5]; rfl
      rw [h6, if_pos rfl] at hO
      have HO := Lib.hid hO; clear hO htri hirr
      go_enter Try.func61, Try.ntmps61
      go_wp2_with fail
      go_ret
      exact ⟨by rw [HO.out]; rfl, hbb⟩
    · have e : t.toList = t'.toList := by simpa using h5
      have h7 : (t.toList != t'.toList) = false := by unfold bne; rw [h5]; rfl
      rw [← e, hirr, if_no rfl] at hO
      have HO := Lib.hid hO; clear hO htri hirr e
      go_enter Try.func61, Try.ntmps61
      go_wp2_with fail
      go_ret
      exact ⟨by rw [HO.out]; rfl, hbb⟩
  · rw [h4, if_pos rfl] at hO
    have HO := Lib.hid hO; clear hO htri hirr
    go_enter Try.func61, Try.ntmps61
    go_wp2_with fail
    go_ret
    exact ⟨by rw [HO.out]; rfl, hbb⟩

/-- the first n values of f -/
def rowF (n : Nat) (f : Nat → Int × Int × ByteArray) : List VL := (List.range n).map fun j => vl (f j)
theorem rowF_drop {n k : Nat} {f : Nat → Int × Int × ByteArray} (h : k < n) : (rowF n f).drop k = vl (f k) :: (rowF n f).drop (k + 1) := by
  have hl : k < (rowF n f).length := by simpa [rowF] using h
  rw [List.drop_eq_getElem_cons hl]
  congr 1
  simp [rowF]
theorem rowF_end {n k : Nat} {f : Nat → Int × Int × ByteArray} (h : ¬ k < n) : (rowF n f).drop k = [] := by
  apply List.drop_eq_nil_iff.2
  simp [rowF]; omega
theorem ordR_nil_cons (b : VL) (y : List VL) : ordR [] (b :: y) = -1 := rfl
theorem ordR_cons_nil (a : VL) (x : List VL) : ordR (a :: x) [] = 1 := rfl

end Go.Proofs.Ytjekhgekldkopaa
