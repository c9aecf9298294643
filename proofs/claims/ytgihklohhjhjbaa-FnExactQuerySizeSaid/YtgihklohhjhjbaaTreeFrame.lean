
/- Frames of the laws' copies: the argument's box, the result's block, and the block of the variable that is filled. -/
import Derived.Test.YtgihklohhjhjbaaRowAt
namespace Go.Proofs.Ytgihklohhjhjbaa
open Go.RowKit

structure TF (w V : World) (TA TR : TypeId) (a r o : Array Value) : Prop where
  ra : RowAt V w.heap.size TA a
  rr : RowAt V (w.heap.size + 1) TR r
  ro : RowAt V (w.heap.size + 2) TR o
  b : Below w.heap.size w V
theorem RowAt.new1 (w : World) (x : Obj) (T : TypeId) (cs : Array Value) : RowAt ((w.alloc x).alloc (.cells cs T)) (w.heap.size + 1) T cs := by
  have h := RowAt.new (w.alloc x) T cs
  have e : (w.alloc x).heap.size = w.heap.size + 1 := by simp
  rw [e] at h
  exact h
theorem RowAt.new2 (w : World) (x y : Obj) (T : TypeId) (cs : Array Value) : RowAt (((w.alloc x).alloc y).alloc (.cells cs T)) (w.heap.size + 2) T cs := by
  have h := RowAt.new ((w.alloc x).alloc y) T cs
  have e : ((w.alloc x).alloc y).heap.size = w.heap.size + 2 := by simp
  rw [e] at h
  exact h
theorem RowAt.alloc {W : World} {B : Nat} {T : TypeId} {cs : Array Value} (h : RowAt W B T cs) (x : Obj) : RowAt (W.alloc x) B T cs := (Below.heap_alloc W x B h.lt).trans h
theorem TF.new (w : World) (TA TR : TypeId) (a r o : Array Value) : TF w (((w.alloc (.cells a TA)).alloc (.cells r TR)).alloc (.cells o TR)) TA TR a r o :=
  ⟨((RowAt.new w TA a).alloc _).alloc _, (RowAt.new1 w _ TR r).alloc _, RowAt.new2 w _ _ TR o, (((Below.refl w.heap.size w).alloc (Nat.le_refl _) _).alloc (by simp) _).alloc (by simp; omega) _⟩
theorem TF.next {w V V' : World} {TA TR : TypeId} {a r o : Array Value} (H : TF w V TA TR a r o) (h : Below V.heap.size V V') : TF w V' TA TR a r o :=
  ⟨H.ra.later h, H.rr.later h, H.ro.later h, H.b.trans (h.mono H.b.size)⟩
theorem TF.put {w V : World} {TA TR : TypeId} {a r o : Array Value} (H : TF w V TA TR a r o) (i : Nat) (v : Value) : TF w (V.setCell ⟨w.heap.size + 2, i, none⟩ v) TA TR a r (o.setIfInBounds i v) :=
  ⟨H.ra.other (by omega), H.rr.other (by omega), H.ro.set i v, H.b.setCell (by simp) v⟩
theorem TF.size {w V : World} {TA TR : TypeId} {a r o : Array Value} (H : TF w V TA TR a r o) : w.heap.size + 3 ≤ V.heap.size := H.ro.lt
/-- the result is put into its block -/
theorem TF.fin {w V : World} {TA TR : TypeId} {a r o : Array Value} (H : TF w V TA TR a r o) (ys : List Value) (hl : ys.length ≤ r.size) :
    (∀ (i : Nat) (v : Value), ys[i]? = some v → (puts (w.heap.size + 1) 0 ys V).cell? ⟨w.heap.size + 1, i, none⟩ = some v) ∧ Below w.heap.size w (puts (w.heap.size + 1) 0 ys V) ∧
    ∀ {x : Value} {d : Dat}, Rd V (w.heap.size + 3) x d → Rd (puts (w.heap.size + 1) 0 ys V) w.heap.size x d :=
  ⟨fun i v h => (puts_row ys 0 H.rr).cell (by have := putsA_in ys 0 r i (List.getElem?_eq_some_iff.1 h).1 (by omega); rw [Nat.zero_add] at this; rw [this]; exact h), puts_below (by omega) ys 0 H.b, fun h => (puts_rd (by omega) ys 0 h).low (by omega)⟩
end Go.Proofs.Ytgihklohhjhjbaa
