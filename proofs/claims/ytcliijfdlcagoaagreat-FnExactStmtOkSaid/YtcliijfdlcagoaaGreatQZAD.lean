/- Joined texts: ValArg ToDef TreeFrame. -/
import Derived.Test.YtcliijfdlcagoaaGreatQZAC
import Derived.Test.YtcliijfdlcagoaaGreatQZAB
import Derived.Test.YtcliijfdlcagoaaGreatQZAA
import Derived.Deep.QuietTactic
import Derived.BigQuiet
import Derived.Laws.MakeOwn
namespace Go.Proofs.YtcliijfdlcagoaaGreat
set_option linter.unusedVariables false
set_option linter.unusedSimpArgs false
open Go.RowKit
set_option maxRecDepth 100000 in
set_option maxHeartbeats 800000 in
theorem szValue_any (k a : Int) (t : ByteArray) (n : Int) (w : World) (ht : t.size ≤ 9223372036854775807) (h0 : 0 ≤ n) (h1 : n ≤ 1048576) :
    Calls Tryz.prog 67 #[.agg #[.int .i64 k, .int .i64 a, .string t], .int .i64 n] w (IntE (leftOf n t.size) w) := by
  unfold leftOf
  by_cases h : n - (t.size : Int) < 0
  · have d : decide (n - (t.size : Int) < 0) = true := by simpa using h
    rw [if_pos h]
    clear h
    go_enter Tryz.func67, Tryz.ntmps67
    go_wp2_with fail
    go_ret
    exact ⟨rfl, (Below.refl _ _).alloc (Nat.le_refl _) _⟩
  · have d : decide (n - (t.size : Int) < 0) = false := by simpa using h
    rw [if_neg h]
    clear h
    go_enter Tryz.func67, Tryz.ntmps67
    go_wp2_with fail
    go_ret
    exact ⟨by go_num, (Below.refl _ _).alloc (Nat.le_refl _) _⟩
def CopyV (k a : Int) (t : ByteArray) (w : World) (e : Ending) (w' : World) : Prop := e = .returned (.agg #[.int .i64 k, .int .i64 a, .string t]) ∧ Below w.heap.size w w'
set_option maxRecDepth 100000 in
set_option maxHeartbeats 1600000 in
theorem toValue_any (k a : Int) (t : ByteArray) (w : World) :
    Calls Tryz.prog 79 #[.agg #[.int .i64 k, .int .i64 a, .string t]] w (CopyV k a t w) := by
  go_enter Tryz.func79, Tryz.ntmps79
  go_wp2_with fail
  have hF : ValAt (((w.alloc (.cells #[.int .i64 k, .int .i64 a, .string t] 67)).alloc (.cells #[.int .i64 k, .int .i64 a, .string t] 76)).alloc (.cells #[.int .i64 k, .int .i64 a, .string t] 76)) (w.heap.size + 1) k a t :=
    (Below.heap_alloc _ _ (w.heap.size + 1) (by simp)).trans (val_new w _ k a t)
  have f0 := cell_of_row _ (w.heap.size + 1) 0 _ 76 (0, 0) hF
  have f1 := cell_of_row _ (w.heap.size + 1) 1 _ 76 (0, 0) hF
  have f2 := cell_of_row _ (w.heap.size + 1) 2 _ 76 (0, 0) hF
  have hBf : Below w.heap.size w (((w.alloc (.cells #[.int .i64 k, .int .i64 a, .string t] 67)).alloc (.cells #[.int .i64 k, .int .i64 a, .string t] 76)).alloc (.cells #[.int .i64 k, .int .i64 a, .string t] 76)) := (((Below.refl _ _).alloc (Nat.le_refl _) _).alloc (by simp) _).alloc (by simp; omega) _
  clear hF
  generalize ((w.alloc (.cells #[.int .i64 k, .int .i64 a, .string t] 67)).alloc (.cells #[.int .i64 k, .int .i64 a, .string t] 76)).alloc (.cells #[.int .i64 k, .int .i64 a, .string t] 76) = wf at f0 f1 f2 hBf ⊢
  refine bodyPost_ret (v := .agg #[.int .i64 k, .int .i64 a, .string t]) (by simp [results, Tryz.results79, go_sem, f0, f1, f2]) rfl ?_
  exact ⟨rfl, hBf⟩
def ToE (d : Dat) (w : World) (e : Ending) (w' : World) : Prop := ∃ y : Value, e = .returned y ∧ Rd w' w.heap.size y d ∧ Below w.heap.size w w'
def toFn : Ty → Nat
  | .exprs => 19
  | .items => 42
  | .sources => 43
  | .keys => 44
  | .queries => 80
  | _ => 0
def ToP (d : Dat) (ty : Ty) : Prop := ∀ (x : Value) (w : World), Rd w 0 x d → Fits d ty → msr d ≤ 1048576 → Calls Tryz.prog (toFn ty) #[x] w (ToE d w)
def ToAll (d : Dat) : Prop := ∀ ty, tree ty = true → ToP d ty
theorem msr_n (n k : Nat) (f : Nat → Nat → Dat) : n ≤ msr (.sl n k f) := by unfold msr; omega
theorem sum_le {α : Type} (g : α → Nat) : ∀ (l : List α) (a : α), a ∈ l → g a ≤ (l.map g).sum
  | b :: l, a, h => by
    rw [List.map_cons, List.sum_cons]
    rcases List.mem_cons.1 h with rfl | h
    · omega
    · have := sum_le g l a h; omega
theorem msr_el {n k : Nat} {f : Nat → Nat → Dat} {i j : Nat} (hi : i < n) (hj : j < k) : msr (f i j) ≤ msr (.sl n k f) := by
  have h1 := sum_le (fun j => msr (f i j)) (List.range k) j (List.mem_range.2 hj)
  have h2 := sum_le (fun i => ((List.range k).map fun j => msr (f i j)).sum) (List.range n) i (List.mem_range.2 hi)
  have h3 : msr (.sl n k f) = n + ((List.range n).map fun i => ((List.range k).map fun j => msr (f i j)).sum).sum := by rw [msr]
  omega
def ToExprE (c0 : Int) (c1 : Int) (c2 : Bool) (c3 : Int) (c4 : Int) (c5 : ByteArray) (c6 : ByteArray) (c7 : ByteArray) (d8 : Dat) (d9 : Dat) (w : World) (e : Ending) (w' : World) : Prop :=
  ∃ y8 y9 : Value, e = .returned (.agg #[.int .i64 c0, .int .i64 c1, .bool c2, .int .i64 c3, .int .i64 c4, .string c5, .string c6, .string c7, y8, y9]) ∧ Rd w' w.heap.size y8 d8 ∧ Rd w' w.heap.size y9 d9 ∧ Below w.heap.size w w'
def ToItemE (c0 : Bool) (c1 : ByteArray) (c2 : Int) (c3 : Int) (c4 : Bool) (c5 : Int) (c6 : Int) (c7 : ByteArray) (c8 : ByteArray) (c9 : ByteArray) (c12 : ByteArray) (d10 : Dat) (d11 : Dat) (w : World) (e : Ending) (w' : World) : Prop :=
  ∃ y10 y11 : Value, e = .returned (.agg #[.bool c0, .string c1, .int .i64 c2, .int .i64 c3, .bool c4, .int .i64 c5, .int .i64 c6, .string c7, .string c8, .string c9, y10, y11, .string c12]) ∧ Rd w' w.heap.size y10 d10 ∧ Rd w' w.heap.size y11 d11 ∧ Below w.heap.size w w'
def ToSourceE (c0 : ByteArray) (c1 : ByteArray) (d2 : Dat) (w : World) (e : Ending) (w' : World) : Prop :=
  ∃ y2 : Value, e = .returned (.agg #[.string c0, .string c1, y2]) ∧ Rd w' w.heap.size y2 d2 ∧ Below w.heap.size w w'
def ToSortKeyE (c0 : Int) (c1 : Int) (c2 : Bool) (c3 : Int) (c4 : Int) (c5 : ByteArray) (c6 : ByteArray) (c7 : ByteArray) (c10 : Bool) (d8 : Dat) (d9 : Dat) (w : World) (e : Ending) (w' : World) : Prop :=
  ∃ y8 y9 : Value, e = .returned (.agg #[.int .i64 c0, .int .i64 c1, .bool c2, .int .i64 c3, .int .i64 c4, .string c5, .string c6, .string c7, y8, y9, .bool c10]) ∧ Rd w' w.heap.size y8 d8 ∧ Rd w' w.heap.size y9 d9 ∧ Below w.heap.size w w'
def ToQueryE (c0 : Bool) (c5 : Int) (d1 : Dat) (d2 : Dat) (d3 : Dat) (d4 : Dat) (w : World) (e : Ending) (w' : World) : Prop :=
  ∃ y1 y2 y3 y4 : Value, e = .returned (.agg #[.bool c0, y1, y2, y3, y4, .int .i64 c5]) ∧ Rd w' w.heap.size y1 d1 ∧ Rd w' w.heap.size y2 d2 ∧ Rd w' w.heap.size y3 d3 ∧ Rd w' w.heap.size y4 d4 ∧ Below w.heap.size w w'
structure TF (w V : World) (TA TR : TypeId) (a r o : Array Value) : Prop where
  ra : RowAt V w.heap.size TA a
  rr : RowAt V (w.heap.size + 1) TR r
  ro : RowAt V (w.heap.size + 2) TR o
  b : Below w.heap.size w V
theorem RowAt.new1 (w : World) (x : Obj) (T : TypeId) (cs : Array Value) : RowAt ((w.alloc x).alloc (.cells cs T)) (w.heap.size + 1) T cs := by
  have h := RowAt.new (w.alloc x) T cs
  have e : (w.alloc x).heap.size = w.heap.size + 1 := by simp
  rw [e] at h
  exact h
theorem RowAt.new2 (w : World) (x y : Obj) (T : TypeId) (cs : Array Value) : RowAt (((w.alloc x).alloc y).alloc (.cells cs T)) (w.heap.size + 2) T cs := by
  have h := RowAt.new ((w.alloc x).alloc y) T cs
  have e : ((w.alloc x).alloc y).heap.size = w.heap.size + 2 := by simp
  rw [e] at h
  exact h
theorem RowAt.alloc {W : World} {B : Nat} {T : TypeId} {cs : Array Value} (h : RowAt W B T cs) (x : Obj) : RowAt (W.alloc x) B T cs := (Below.heap_alloc W x B h.lt).trans h
theorem TF.new (w : World) (TA TR : TypeId) (a r o : Array Value) : TF w (((w.alloc (.cells a TA)).alloc (.cells r TR)).alloc (.cells o TR)) TA TR a r o :=
  ⟨((RowAt.new w TA a).alloc _).alloc _, (RowAt.new1 w _ TR r).alloc _, RowAt.new2 w _ _ TR o, (((Below.refl w.heap.size w).alloc (Nat.le_refl _) _).alloc (by simp) _).alloc (by simp; omega) _⟩
theorem TF.next {w V V' : World} {TA TR : TypeId} {a r o : Array Value} (H : TF w V TA TR a r o) (h : Below V.heap.size V V') : TF w V' TA TR a r o :=
  ⟨H.ra.later h, H.rr.later h, H.ro.later h, H.b.trans (h.mono H.b.size)⟩
theorem TF.put {w V : World} {TA TR : TypeId} {a r o : Array Value} (H : TF w V TA TR a r o) (i : Nat) (v : Value) : TF w (V.setCell ⟨w.heap.size + 2, i, none⟩ v) TA TR a r (o.setIfInBounds i v) :=
  ⟨H.ra.other (by omega), H.rr.other (by omega), H.ro.set i v, H.b.setCell (by simp) v⟩
theorem TF.size {w V : World} {TA TR : TypeId} {a r o : Array Value} (H : TF w V TA TR a r o) : w.heap.size + 3 ≤ V.heap.size := H.ro.lt
theorem TF.fin {w V : World} {TA TR : TypeId} {a r o : Array Value} (H : TF w V TA TR a r o) (ys : List Value) (hl : ys.length ≤ r.size) :
    (∀ (i : Nat) (v : Value), ys[i]? = some v → (puts (w.heap.size + 1) 0 ys V).cell? ⟨w.heap.size + 1, i, none⟩ = some v) ∧ Below w.heap.size w (puts (w.heap.size + 1) 0 ys V) ∧
    ∀ {x : Value} {d : Dat}, Rd V (w.heap.size + 3) x d → Rd (puts (w.heap.size + 1) 0 ys V) w.heap.size x d :=
  ⟨fun i v h => (puts_row ys 0 H.rr).cell (by have := putsA_in ys 0 r i (List.getElem?_eq_some_iff.1 h).1 (by omega); rw [Nat.zero_add] at this; rw [this]; exact h), puts_below (by omega) ys 0 H.b, fun h => (puts_rd (by omega) ys 0 h).low (by omega)⟩
end Go.Proofs.YtcliijfdlcagoaaGreat
