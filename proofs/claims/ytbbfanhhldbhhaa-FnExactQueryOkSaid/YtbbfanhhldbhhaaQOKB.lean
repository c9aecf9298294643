/- Joined texts: TokSlDef ValSlDef ValSl ValLaws. -/
import Derived.Test.YtbbfanhhldbhhaaQOKA
import Derived.Deep.RegionWith
/- Slices of tokens: what it is that one holds, and what keeps it. -/
namespace Go.Proofs.Ytbbfanhhldbhhaa
open Go.RowKit

/-- the slice at a holds the tokens f 0, f 1, .. up to n; its block is new since B -/
def TokSl (w : World) (B : Nat) (a : Option Addr) (n : Nat) (f : Nat → Int × ByteArray × Int) : Prop :=
  ∀ j, j < n → ∃ g, a = some ⟨g, 0, none⟩ ∧ B ≤ g ∧ g < w.heap.size ∧
    w.cell? ⟨g, j * 3, none⟩ = some (.int .i64 (f j).1) ∧ w.cell? ⟨g, j * 3 + 1, none⟩ = some (.string (f j).2.1) ∧ w.cell? ⟨g, j * 3 + 2, none⟩ = some (.int .i64 (f j).2.2) ∧
    w.frozen? ⟨g, j * 3, none⟩ = false ∧ w.frozen? ⟨g, j * 3 + 1, none⟩ = false ∧ w.frozen? ⟨g, j * 3 + 2, none⟩ = false

def upd (f : Nat → Int × ByteArray × Int) (k : Nat) (v : Int × ByteArray × Int) (j : Nat) : Int × ByteArray × Int := if j = k then v else f j
theorem upd_same {f : Nat → Int × ByteArray × Int} {k : Nat} {v : Int × ByteArray × Int} : upd f k v k = v := if_pos rfl
theorem upd_other {f : Nat → Int × ByteArray × Int} {k j : Nat} {v : Int × ByteArray × Int} (h : ¬ j = k) : upd f k v j = f j := if_neg h
theorem TokSl.put0 {w : World} {B n k g : Nat} {a : Option Addr} {f : Nat → Int × ByteArray × Int} (x : Int) (H : TokSl w B a n f) (ha : a = some ⟨g, 0, none⟩) :
    TokSl (w.setCell ⟨g, k * 3, none⟩ (.int .i64 x)) B a n (upd f k (x, (f k).2.1, (f k).2.2)) := fun j hj => by
  obtain ⟨g', e, h1, h2, c0, c1, c2, z0, z1, z2⟩ := H j hj
  obtain rfl : g' = g := by rw [e] at ha; simpa using ha
  have hsz : (w.setCell ⟨g', k * 3, none⟩ (.int .i64 x)).heap.size = w.heap.size := by simp
  refine ⟨g', e, h1, by rw [hsz]; exact h2, ?_, ?_, ?_, by rw [World.frozen?_setCell]; exact z0, by rw [World.frozen?_setCell]; exact z1, by rw [World.frozen?_setCell]; exact z2⟩
  all_goals
    by_cases ej : j = k
    · subst ej
      rw [upd_same]
      first
        | exact World.cell?_setCell_same _ _ _ (by assumption)
        | (rw [World.cell?_setCell_other _ _ _ _ (fun x => by have := (Addr.mk.inj x).2.1; omega)]; assumption)
    · rw [upd_other ej, World.cell?_setCell_other _ _ _ _ (fun x => by have := (Addr.mk.inj x).2.1; omega)]; assumption
theorem TokSl.put1 {w : World} {B n k g : Nat} {a : Option Addr} {f : Nat → Int × ByteArray × Int} (x : ByteArray) (H : TokSl w B a n f) (ha : a = some ⟨g, 0, none⟩) :
    TokSl (w.setCell ⟨g, k * 3 + 1, none⟩ (.string x)) B a n (upd f k ((f k).1, x, (f k).2.2)) := fun j hj => by
  obtain ⟨g', e, h1, h2, c0, c1, c2, z0, z1, z2⟩ := H j hj
  obtain rfl : g' = g := by rw [e] at ha; simpa using ha
  have hsz : (w.setCell ⟨g', k * 3 + 1, none⟩ (.string x)).heap.size = w.heap.size := by simp
  refine ⟨g', e, h1, by rw [hsz]; exact h2, ?_, ?_, ?_, by rw [World.frozen?_setCell]; exact z0, by rw [World.frozen?_setCell]; exact z1, by rw [World.frozen?_setCell]; exact z2⟩
  all_goals
    by_cases ej : j = k
    · subst ej
      rw [upd_same]
      first
        | exact World.cell?_setCell_same _ _ _ (by assumption)
        | (rw [World.cell?_setCell_other _ _ _ _ (fun x => by have := (Addr.mk.inj x).2.1; omega)]; assumption)
    · rw [upd_other ej, World.cell?_setCell_other _ _ _ _ (fun x => by have := (Addr.mk.inj x).2.1; omega)]; assumption
theorem TokSl.put2 {w : World} {B n k g : Nat} {a : Option Addr} {f : Nat → Int × ByteArray × Int} (x : Int) (H : TokSl w B a n f) (ha : a = some ⟨g, 0, none⟩) :
    TokSl (w.setCell ⟨g, k * 3 + 2, none⟩ (.int .i64 x)) B a n (upd f k ((f k).1, (f k).2.1, x)) := fun j hj => by
  obtain ⟨g', e, h1, h2, c0, c1, c2, z0, z1, z2⟩ := H j hj
  obtain rfl : g' = g := by rw [e] at ha; simpa using ha
  have hsz : (w.setCell ⟨g', k * 3 + 2, none⟩ (.int .i64 x)).heap.size = w.heap.size := by simp
  refine ⟨g', e, h1, by rw [hsz]; exact h2, ?_, ?_, ?_, by rw [World.frozen?_setCell]; exact z0, by rw [World.frozen?_setCell]; exact z1, by rw [World.frozen?_setCell]; exact z2⟩
  all_goals
    by_cases ej : j = k
    · subst ej
      rw [upd_same]
      first
        | exact World.cell?_setCell_same _ _ _ (by assumption)
        | (rw [World.cell?_setCell_other _ _ _ _ (fun x => by have := (Addr.mk.inj x).2.1; omega)]; assumption)
    · rw [upd_other ej, World.cell?_setCell_other _ _ _ _ (fun x => by have := (Addr.mk.inj x).2.1; omega)]; assumption
theorem TokSl.congr {w : World} {B n : Nat} {a : Option Addr} {f f' : Nat → Int × ByteArray × Int} (H : TokSl w B a n f) (h : ∀ j, j < n → f j = f' j) : TokSl w B a n f' := fun j hj => by
  rw [← h j hj]; exact H j hj
theorem TokSl.keep {w w' : World} {B n : Nat} {a : Option Addr} {f : Nat → Int × ByteArray × Int} (H : TokSl w B a n f) (hs : w.heap.size ≤ w'.heap.size) (hb : ∀ g, a = some ⟨g, 0, none⟩ → B ≤ g → g < w.heap.size → w'.heap[g]? = w.heap[g]?) : TokSl w' B a n f := fun j hj => by
  obtain ⟨g, e, h1, h2, c0, c1, c2, z0, z1, z2⟩ := H j hj
  have hk := hb g e h1 h2
  have hc : ∀ o, w'.cell? ⟨g, o, none⟩ = w.cell? ⟨g, o, none⟩ := fun o => World.cell?_of_block (w := w) (w' := w') (a := ⟨g, o, none⟩) hk
  have hz : ∀ o, w'.frozen? ⟨g, o, none⟩ = w.frozen? ⟨g, o, none⟩ := fun o => World.frozen?_of_block (w := w) (w' := w') (a := ⟨g, o, none⟩) hk
  exact ⟨g, e, h1, by omega, by rw [hc]; exact c0, by rw [hc]; exact c1, by rw [hc]; exact c2, by rw [hz]; exact z0, by rw [hz]; exact z1, by rw [hz]; exact z2⟩
theorem TokSl.below {w w' : World} {B n : Nat} {a : Option Addr} {f : Nat → Int × ByteArray × Int} (H : TokSl w B a n f) (hb : Below w.heap.size w w') : TokSl w' B a n f :=
  H.keep hb.size fun g _ _ h => hb.block g h

/-- the cells of token k, in any later world -/
theorem TokSl.at_k {w w' : World} {B n k g : Nat} {f : Nat → Int × ByteArray × Int} (H : TokSl w B (some ⟨g, 0, none⟩) n f) (hb : Below w.heap.size w w') (hk : k < n) :
    w'.cell? ⟨g, k * 3, none⟩ = some (.int .i64 (f k).1) ∧ w'.cell? ⟨g, k * 3 + 1, none⟩ = some (.string (f k).2.1) ∧ w'.cell? ⟨g, k * 3 + 2, none⟩ = some (.int .i64 (f k).2.2) := by
  obtain ⟨g', e, _, _, c0, c1, c2, _⟩ := H.below hb k hk
  obtain rfl : g = g' := by simpa using e
  exact ⟨c0, c1, c2⟩

/-- nothing that was there has turned but the slice's own block -/
def Turns (a : Option Addr) (w w' : World) : Prop := w.grownBy w' (a.map (·.block))
theorem turns_refl (a : Option Addr) (w : World) : Turns a w w := ⟨rfl, rfl, rfl, Nat.le_refl _, fun _ _ _ => rfl⟩
theorem turns_set {a : Option Addr} {w w1 : World} {g o : Nat} {v : Value} (h : Turns a w w1) (ha : a = some ⟨g, 0, none⟩) : Turns a w (w1.setCell ⟨g, o, none⟩ v) := by
  subst ha
  exact ⟨h.os, h.tape, h.output, by simpa using h.size, fun k hk hr => (heap_setCell_other w1 ⟨g, o, none⟩ k v (fun e => hr (by simp [e]))).trans (h.block k hk hr)⟩
theorem turns_below {a : Option Addr} {w w1 w2 : World} (h : Turns a w w1) (g : Below w1.heap.size w1 w2) : Turns a w w2 :=
  ⟨g.os.trans h.os, g.tape.trans h.tape, g.output.trans h.output, Nat.le_trans h.size g.size, fun k hk hr => (g.block k (by have := h.size; omega)).trans (h.block k hk hr)⟩
end Go.Proofs.Ytbbfanhhldbhhaa

/- Slices of values: what it is that one holds, and what keeps it. -/
namespace Go.Proofs.Ytbbfanhhldbhhaa
open Go.RowKit

/-- the slice at a holds the values f 0, f 1, .. up to n; its block is new since B -/
def ValSl (w : World) (B : Nat) (a : Option Addr) (n : Nat) (f : Nat → Int × Int × ByteArray) : Prop :=
  ∀ j, j < n → ∃ g, a = some ⟨g, 0, none⟩ ∧ B ≤ g ∧ g < w.heap.size ∧
    w.cell? ⟨g, j * 3, none⟩ = some (.int .i64 (f j).1) ∧ w.cell? ⟨g, j * 3 + 1, none⟩ = some (.int .i64 (f j).2.1) ∧ w.cell? ⟨g, j * 3 + 2, none⟩ = some (.string (f j).2.2) ∧
    w.frozen? ⟨g, j * 3, none⟩ = false ∧ w.frozen? ⟨g, j * 3 + 1, none⟩ = false ∧ w.frozen? ⟨g, j * 3 + 2, none⟩ = false

def updV (f : Nat → Int × Int × ByteArray) (k : Nat) (v : Int × Int × ByteArray) (j : Nat) : Int × Int × ByteArray := if j = k then v else f j
theorem updV_same {f : Nat → Int × Int × ByteArray} {k : Nat} {v : Int × Int × ByteArray} : updV f k v k = v := if_pos rfl
theorem updV_other {f : Nat → Int × Int × ByteArray} {k j : Nat} {v : Int × Int × ByteArray} (h : ¬ j = k) : updV f k v j = f j := if_neg h
theorem ValSl.put0 {w : World} {B n k g : Nat} {a : Option Addr} {f : Nat → Int × Int × ByteArray} (x : Int) (H : ValSl w B a n f) (ha : a = some ⟨g, 0, none⟩) :
    ValSl (w.setCell ⟨g, k * 3, none⟩ (.int .i64 x)) B a n (updV f k (x, (f k).2.1, (f k).2.2)) := fun j hj => by
  obtain ⟨g', e, h1, h2, c0, c1, c2, z0, z1, z2⟩ := H j hj
  obtain rfl : g' = g := by rw [e] at ha; simpa using ha
  have hsz : (w.setCell ⟨g', k * 3, none⟩ (.int .i64 x)).heap.size = w.heap.size := by simp
  refine ⟨g', e, h1, by rw [hsz]; exact h2, ?_, ?_, ?_, by rw [World.frozen?_setCell]; exact z0, by rw [World.frozen?_setCell]; exact z1, by rw [World.frozen?_setCell]; exact z2⟩
  all_goals
    by_cases ej : j = k
    · subst ej
      rw [updV_same]
      first
        | exact World.cell?_setCell_same _ _ _ (by assumption)
        | (rw [World.cell?_setCell_other _ _ _ _ (fun x => by have := (Addr.mk.inj x).2.1; omega)]; assumption)
    · rw [updV_other ej, World.cell?_setCell_other _ _ _ _ (fun x => by have := (Addr.mk.inj x).2.1; omega)]; assumption
theorem ValSl.put1 {w : World} {B n k g : Nat} {a : Option Addr} {f : Nat → Int × Int × ByteArray} (x : Int) (H : ValSl w B a n f) (ha : a = some ⟨g, 0, none⟩) :
    ValSl (w.setCell ⟨g, k * 3 + 1, none⟩ (.int .i64 x)) B a n (updV f k ((f k).1, x, (f k).2.2)) := fun j hj => by
  obtain ⟨g', e, h1, h2, c0, c1, c2, z0, z1, z2⟩ := H j hj
  obtain rfl : g' = g := by rw [e] at ha; simpa using ha
  have hsz : (w.setCell ⟨g', k * 3 + 1, none⟩ (.int .i64 x)).heap.size = w.heap.size := by simp
  refine ⟨g', e, h1, by rw [hsz]; exact h2, ?_, ?_, ?_, by rw [World.frozen?_setCell]; exact z0, by rw [World.frozen?_setCell]; exact z1, by rw [World.frozen?_setCell]; exact z2⟩
  all_goals
    by_cases ej : j = k
    · subst ej
      rw [updV_same]
      first
        | exact World.cell?_setCell_same _ _ _ (by assumption)
        | (rw [World.cell?_setCell_other _ _ _ _ (fun x => by have := (Addr.mk.inj x).2.1; omega)]; assumption)
    · rw [updV_other ej, World.cell?_setCell_other _ _ _ _ (fun x => by have := (Addr.mk.inj x).2.1; omega)]; assumption
theorem ValSl.put2 {w : World} {B n k g : Nat} {a : Option Addr} {f : Nat → Int × Int × ByteArray} (x : ByteArray) (H : ValSl w B a n f) (ha : a = some ⟨g, 0, none⟩) :
    ValSl (w.setCell ⟨g, k * 3 + 2, none⟩ (.string x)) B a n (updV f k ((f k).1, (f k).2.1, x)) := fun j hj => by
  obtain ⟨g', e, h1, h2, c0, c1, c2, z0, z1, z2⟩ := H j hj
  obtain rfl : g' = g := by rw [e] at ha; simpa using ha
  have hsz : (w.setCell ⟨g', k * 3 + 2, none⟩ (.string x)).heap.size = w.heap.size := by simp
  refine ⟨g', e, h1, by rw [hsz]; exact h2, ?_, ?_, ?_, by rw [World.frozen?_setCell]; exact z0, by rw [World.frozen?_setCell]; exact z1, by rw [World.frozen?_setCell]; exact z2⟩
  all_goals
    by_cases ej : j = k
    · subst ej
      rw [updV_same]
      first
        | exact World.cell?_setCell_same _ _ _ (by assumption)
        | (rw [World.cell?_setCell_other _ _ _ _ (fun x => by have := (Addr.mk.inj x).2.1; omega)]; assumption)
    · rw [updV_other ej, World.cell?_setCell_other _ _ _ _ (fun x => by have := (Addr.mk.inj x).2.1; omega)]; assumption
theorem ValSl.congr {w : World} {B n : Nat} {a : Option Addr} {f f' : Nat → Int × Int × ByteArray} (H : ValSl w B a n f) (h : ∀ j, j < n → f j = f' j) : ValSl w B a n f' := fun j hj => by
  rw [← h j hj]; exact H j hj
theorem ValSl.keep {w w' : World} {B n : Nat} {a : Option Addr} {f : Nat → Int × Int × ByteArray} (H : ValSl w B a n f) (hs : w.heap.size ≤ w'.heap.size) (hb : ∀ g, a = some ⟨g, 0, none⟩ → B ≤ g → g < w.heap.size → w'.heap[g]? = w.heap[g]?) : ValSl w' B a n f := fun j hj => by
  obtain ⟨g, e, h1, h2, c0, c1, c2, z0, z1, z2⟩ := H j hj
  have hk := hb g e h1 h2
  have hc : ∀ o, w'.cell? ⟨g, o, none⟩ = w.cell? ⟨g, o, none⟩ := fun o => World.cell?_of_block (w := w) (w' := w') (a := ⟨g, o, none⟩) hk
  have hz : ∀ o, w'.frozen? ⟨g, o, none⟩ = w.frozen? ⟨g, o, none⟩ := fun o => World.frozen?_of_block (w := w) (w' := w') (a := ⟨g, o, none⟩) hk
  exact ⟨g, e, h1, by omega, by rw [hc]; exact c0, by rw [hc]; exact c1, by rw [hc]; exact c2, by rw [hz]; exact z0, by rw [hz]; exact z1, by rw [hz]; exact z2⟩
theorem ValSl.below {w w' : World} {B n : Nat} {a : Option Addr} {f : Nat → Int × Int × ByteArray} (H : ValSl w B a n f) (hb : Below w.heap.size w w') : ValSl w' B a n f :=
  H.keep hb.size fun g _ _ h => hb.block g h

/-- the cells of value k, in any later world -/
theorem ValSl.at_k {w w' : World} {B n k g : Nat} {f : Nat → Int × Int × ByteArray} (H : ValSl w B (some ⟨g, 0, none⟩) n f) (hb : Below w.heap.size w w') (hk : k < n) :
    w'.cell? ⟨g, k * 3, none⟩ = some (.int .i64 (f k).1) ∧ w'.cell? ⟨g, k * 3 + 1, none⟩ = some (.int .i64 (f k).2.1) ∧ w'.cell? ⟨g, k * 3 + 2, none⟩ = some (.string (f k).2.2) := by
  obtain ⟨g', e, _, _, c0, c1, c2, _⟩ := H.below hb k hk
  obtain rfl : g = g' := by simpa using e
  exact ⟨c0, c1, c2⟩

end Go.Proofs.Ytbbfanhhldbhhaa

/- The laws' comparison of slices of values. -/
namespace Go.Proofs.Ytbbfanhhldbhhaa
open Go.RowKit

set_option maxRecDepth 100000 in
set_option maxHeartbeats 400000 in
theorem eqValue_yes (k a : Int) (t : ByteArray) (w : World) :
    Calls Try.prog 75 #[.agg #[.int .i64 k, .int .i64 a, .string t], .agg #[.int .i64 k, .int .i64 a, .string t]] w (BoolE true w) := by
  go_enter Try.func75, Try.ntmps75
  go_wp2_with fail
  go_ret
  exact ⟨rfl, ((Below.refl _ _).alloc (Nat.le_refl _) _).alloc (by simp) _⟩

end Go.Proofs.Ytbbfanhhldbhhaa

/- The walks of the exact laws on the test on values and on the makers of values. -/
namespace Go.Proofs.Ytbbfanhhldbhhaa
open Go.RowKit

/-- what the program's functions are known to do -/
def ValueOkI : Prop := ∀ (k n : Int) (t : ByteArray) (w : World), t.size ≤ 9223372036854775807 → Calls Try.prog 250 #[.agg #[.int .i64 k, .int .i64 n, .string t]] w (BoolE (valOk k n t.data.toList) w)
def IntValueI : Prop := ∀ (n : Int) (w : World), Calls Try.prog 251 #[.int .i64 n] w (CopyV 1 n ⟨#[]⟩ w)
def TextValueI : Prop := ∀ (s : ByteArray) (w : World), Calls Try.prog 252 #[.string s] w (CopyV 2 0 s w)
def BoolValueI : Prop := ∀ (b : Bool) (w : World), Calls Try.prog 253 #[.bool b] w (CopyV 3 (if b then 1 else 0) ⟨#[]⟩ w)

end Go.Proofs.Ytbbfanhhldbhhaa
