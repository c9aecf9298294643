/- Joined texts: Dat RowAt TreeRow Base Own. -/
import Derived.Test.YtcliijfdlcagoaaGreatProg
import Derived.WalkKit
import Derived.Below
import Derived.RowKit
import Derived.ProofKit
import Derived.Lib.Hide
import Derived.BigCall
import Derived.Maps.AppendAt
import Derived.Laws.IdiomStrings
namespace Go.Proofs.YtcliijfdlcagoaaGreat
set_option linter.unusedVariables false
set_option linter.unusedSimpArgs false
open Go.RowKit
inductive Dat where
  | v (x : Value)
  | sl (n k : Nat) (f : Nat → Nat → Dat)
def Rd (w : World) (L : Nat) : Value → Dat → Prop
  | x, .v y => x = y
  | x, .sl n k f => ∃ (a : Option Addr) (cap : Nat), x = .slice a n cap ∧ n ≤ cap ∧ (a = none → cap = 0) ∧ (n = 0 ∨ ∃ (g o : Nat), a = some ⟨g, o, none⟩ ∧ L ≤ g ∧ g < w.heap.size ∧
      ∀ i, i < n → ∀ j, j < k → ∃ y, w.cell? ⟨g, o + i * k + j, none⟩ = some y ∧ Rd w L y (f i j))
theorem Rd.keep {w w' : World} {L : Nat} : ∀ {d : Dat} {x : Value}, Rd w L x d → w.heap.size ≤ w'.heap.size → (∀ g, L ≤ g → g < w.heap.size → w'.heap[g]? = w.heap[g]?) → Rd w' L x d
  | .v _, _, h, _, _ => h
  | .sl n k f, x, h, hs, hk => by
    obtain ⟨a, cap, e, hc, hz, h⟩ := h
    refine ⟨a, cap, e, hc, hz, h.imp id ?_⟩
    rintro ⟨g, o, ea, hg, hlt, hc⟩
    refine ⟨g, o, ea, hg, Nat.lt_of_lt_of_le hlt hs, fun i hi j hj => ?_⟩
    obtain ⟨y, hy, hr⟩ := hc i hi j hj
    exact ⟨y, (World.cell?_of_block (w := w) (a := ⟨g, o + i * k + j, none⟩) (hk g hg hlt)).trans hy, hr.keep hs hk⟩
theorem Rd.later {w w' : World} {L : Nat} {d : Dat} {x : Value} (h : Rd w L x d) (g : Below w.heap.size w w') : Rd w' L x d := h.keep g.size fun i _ hi => g.block i hi
theorem Rd.set {w : World} {L : Nat} {d : Dat} {x : Value} (h : Rd w L x d) {p : Addr} (hp : p.block < L) (u : Value) : Rd (w.setCell p u) L x d :=
  h.keep (by simp) fun i hi _ => heap_setCell_other w p i u (by omega)
theorem Rd.low {w : World} {L L' : Nat} (hL : L' ≤ L) : ∀ {d : Dat} {x : Value}, Rd w L x d → Rd w L' x d
  | .v _, _, h => h
  | .sl n k f, x, h => by
    obtain ⟨a, cap, e, hc, hz, h⟩ := h
    refine ⟨a, cap, e, hc, hz, h.imp id ?_⟩
    rintro ⟨g, o, ea, hg, hlt, hc⟩
    refine ⟨g, o, ea, Nat.le_trans hL hg, hlt, fun i hi j hj => ?_⟩
    obtain ⟨y, hy, hr⟩ := hc i hi j hj
    exact ⟨y, hy, hr.low hL⟩
theorem Rd.elem {w : World} {L n k : Nat} {f : Nat → Nat → Dat} {a : Option Addr} {cap m : Nat} (h : Rd w L (.slice a m cap) (.sl n k f)) {i : Nat} (hi : i < n) :
    m = n ∧ ∃ (g o : Nat), a = some ⟨g, o, none⟩ ∧ L ≤ g ∧ g < w.heap.size ∧ ∀ j, j < k → ∃ y, w.cell? ⟨g, o + i * k + j, none⟩ = some y ∧ Rd w L y (f i j) := by
  obtain ⟨a', cap', e, _, _, h⟩ := h
  injection e with e1 e2 e3
  subst e1; subst e2
  rcases h with h | ⟨g, o, ea, hg, hlt, hc⟩
  · omega
  · exact ⟨rfl, g, o, ea, hg, hlt, fun j hj => hc i hi j hj⟩
theorem Rd.slice {w : World} {L n k : Nat} {f : Nat → Nat → Dat} {x : Value} (h : Rd w L x (.sl n k f)) : ∃ a cap, x = .slice a n cap := by
  obtain ⟨a, cap, e, _⟩ := h
  exact ⟨a, cap, e⟩
inductive Ty where
  | int | bool | str | exprs | items | sources | keys | queries | rows | names
def exprTy : List Ty := [.int, .int, .bool, .int, .int, .str, .str, .str, .exprs, .queries]
def rowTy : Ty → List Ty
  | .exprs => exprTy
  | .items => [.bool, .str] ++ exprTy ++ [.str]
  | .sources => [.str, .str, .exprs]
  | .keys => exprTy ++ [.bool]
  | .queries => [.bool, .items, .sources, .exprs, .keys, .int]
  | .rows => [.exprs]
  | .names => [.str]
  | _ => []
def tree : Ty → Bool
  | .exprs | .items | .sources | .keys | .queries => true
  | _ => false
def plainTy : Ty → Bool
  | .rows | .names => false
  | _ => true
theorem plain_row {ty : Ty} (h : tree ty = true) : (rowTy ty).all plainTy = true := by cases ty <;> first | (cases h; done) | rfl
def deep : Ty → Bool
  | .int | .bool | .str => false
  | _ => true
def Fits : Dat → Ty → Prop
  | .v x, ty => match ty with
    | .int => ∃ n : Int, x = .int .i64 n ∧ -9223372036854775808 ≤ n ∧ n ≤ 9223372036854775807
    | .bool => ∃ b, x = .bool b
    | .str => ∃ s : ByteArray, x = .string s ∧ s.size ≤ 9223372036854775807
    | _ => False
  | .sl n k f, ty => deep ty = true ∧ n ≤ 9223372036854775807 ∧ k = (rowTy ty).length ∧ ∀ i, i < n → ∀ j (h : j < (rowTy ty).length), Fits (f i j) ((rowTy ty)[j])
def msr : Dat → Nat
  | .v x => match x with
    | .string s => s.size
    | _ => 0
  | .sl n k f => n + ((List.range n).map fun i => ((List.range k).map fun j => msr (f i j)).sum).sum
def RowAt (W : World) (B : Nat) (T : TypeId) (cs : Array Value) : Prop := W.heap[B]? = some (.cells cs T (0, 0))
theorem RowAt.lt {W : World} {B : Nat} {T : TypeId} {cs : Array Value} (h : RowAt W B T cs) : B < W.heap.size := (Array.getElem?_eq_some_iff.1 h).1
theorem RowAt.cell {W : World} {B : Nat} {T : TypeId} {cs : Array Value} (h : RowAt W B T cs) {i : Nat} {v : Value} (hi : cs[i]? = some v) : W.cell? ⟨B, i, none⟩ = some v :=
  (cell_of_row W B i cs T (0, 0) h).trans hi
theorem RowAt.soft {W : World} {B : Nat} {T : TypeId} {cs : Array Value} (h : RowAt W B T cs) (i : Nat) : W.frozen? ⟨B, i, none⟩ = false := frozen_of_row W B i cs T h
theorem RowAt.new (w : World) (T : TypeId) (cs : Array Value) : RowAt (w.alloc (.cells cs T)) w.heap.size T cs := heap_alloc_new w _
theorem RowAt.later {W W' : World} {B : Nat} {T : TypeId} {cs : Array Value} (h : RowAt W B T cs) (g : Below W.heap.size W W') : RowAt W' B T cs := (g.block B h.lt).trans h
theorem RowAt.set {W : World} {B : Nat} {T : TypeId} {cs : Array Value} (h : RowAt W B T cs) (i : Nat) (v : Value) : RowAt (W.setCell ⟨B, i, none⟩ v) B T (cs.setIfInBounds i v) :=
  heap_setCell_same W B i cs T v h
theorem RowAt.other {W : World} {B C o : Nat} {T : TypeId} {cs : Array Value} {v : Value} (h : RowAt W B T cs) (hne : B ≠ C) : RowAt (W.setCell ⟨C, o, none⟩ v) B T cs :=
  (heap_setCell_other W ⟨C, o, none⟩ B v hne).trans h
def puts (B : Nat) : Nat → List Value → World → World
  | _, [], w => w
  | o, y :: ys, w => puts B (o + 1) ys (w.setCell ⟨B, o, none⟩ y)
def putsA : Nat → List Value → Array Value → Array Value
  | _, [], cs => cs
  | o, y :: ys, cs => putsA (o + 1) ys (cs.setIfInBounds o y)
theorem putsA_size : ∀ (ys : List Value) (o : Nat) (cs : Array Value), (putsA o ys cs).size = cs.size
  | [], _, _ => rfl
  | y :: ys, o, cs => by unfold putsA; rw [putsA_size ys]; simp
theorem putsA_low : ∀ (ys : List Value) (o : Nat) (cs : Array Value) (x : Nat), x < o → (putsA o ys cs)[x]? = cs[x]?
  | [], _, _, _, _ => rfl
  | y :: ys, o, cs, x, h => by unfold putsA; rw [putsA_low ys (o + 1) _ x (by omega), Array.getElem?_setIfInBounds_ne (by omega)]
theorem putsA_in : ∀ (ys : List Value) (o : Nat) (cs : Array Value) (m : Nat), m < ys.length → o + ys.length ≤ cs.size → (putsA o ys cs)[o + m]? = ys[m]?
  | [], _, _, _, h, _ => absurd h (by simp)
  | y :: ys, o, cs, m, h, hl => by
    simp only [List.length_cons] at h hl
    unfold putsA
    cases m with
    | zero =>
      show (putsA (o + 1) ys (cs.setIfInBounds o y))[o]? = some y
      rw [putsA_low ys (o + 1) _ o (by omega), Array.getElem?_setIfInBounds_self_of_lt (by omega)]
    | succ m =>
      rw [show o + (m + 1) = o + 1 + m by omega, putsA_in ys (o + 1) _ m (by omega) (by simp; omega)]
      rfl
theorem puts_row : ∀ (ys : List Value) {W : World} {B : Nat} {T : TypeId} {cs : Array Value} (o : Nat), RowAt W B T cs → RowAt (puts B o ys W) B T (putsA o ys cs)
  | [], _, _, _, _, _, h => h
  | _ :: ys, _, _, _, _, o, h => puts_row ys (o + 1) (h.set o _)
theorem puts_heap : ∀ (ys : List Value) (W : World) (B o k : Nat), k ≠ B → (puts B o ys W).heap[k]? = W.heap[k]?
  | [], _, _, _, _, _ => rfl
  | y :: ys, W, B, o, k, h => (puts_heap ys _ B (o + 1) k h).trans (heap_setCell_other W ⟨B, o, none⟩ k y h)
theorem puts_size : ∀ (ys : List Value) (W : World) (B o : Nat), (puts B o ys W).heap.size = W.heap.size
  | [], _, _, _ => rfl
  | y :: ys, W, B, o => (puts_size ys _ B (o + 1)).trans (by simp)
theorem puts_below {C B : Nat} {w : World} (hC : C ≤ B) : ∀ (ys : List Value) {W : World} (o : Nat), Below C w W → Below C w (puts B o ys W)
  | [], _, _, h => h
  | _ :: ys, _, o, h => puts_below hC ys (o + 1) (h.setCell hC _)
theorem puts_rd {L B : Nat} (hB : B < L) (ys : List Value) (o : Nat) {W : World} {x : Value} {d : Dat} (h : Rd W L x d) : Rd (puts B o ys W) L x d :=
  h.keep (by rw [puts_size]; exact Nat.le_refl _) fun g hg _ => puts_heap ys W B o g (by omega)
def Fill (w : World) (B : Nat) (T : TypeId) (n k : Nat) (f : Nat → Nat → Dat) (i : Nat) : Prop :=
  ∃ cs : Array Value, RowAt w B T cs ∧ cs.size = n * k ∧ ∀ j, j < i → ∀ m, m < k → ∃ y, cs[j * k + m]? = some y ∧ Rd w (B + 1) y (f j m)
theorem Fill.later {w w' : World} {B : Nat} {T : TypeId} {n k i : Nat} {f : Nat → Nat → Dat} (h : Fill w B T n k f i) (g : Below w.heap.size w w') : Fill w' B T n k f i := by
  obtain ⟨cs, h1, h2, h3⟩ := h
  refine ⟨cs, h1.later g, h2, fun j hj m hm => ?_⟩
  obtain ⟨y, hy, hr⟩ := h3 j hj m hm
  exact ⟨y, hy, hr.later g⟩
theorem Fill.new (w : World) (T : TypeId) (n k : Nat) (f : Nat → Nat → Dat) (cs : Array Value) (h : cs.size = n * k) : Fill (w.alloc (.cells cs T)) w.heap.size T n k f 0 :=
  ⟨cs, RowAt.new w T cs, h, fun j hj => absurd hj (Nat.not_lt_zero j)⟩
theorem Fill.at {w : World} {B : Nat} {T : TypeId} {n k i j m : Nat} {f : Nat → Nat → Dat} (h : Fill w B T n k f i) (hj : j < n) (hm : m < k) :
    ∃ u, w.cell? ⟨B, j * k + m, none⟩ = some u ∧ w.frozen? ⟨B, j * k + m, none⟩ = false := by
  obtain ⟨cs, h1, h2, _⟩ := h
  have hlt : j * k + m < cs.size := by
    rw [h2]
    have : (j + 1) * k ≤ n * k := Nat.mul_le_mul_right k hj
    rw [Nat.add_mul, Nat.one_mul] at this
    omega
  exact ⟨cs[j * k + m], h1.cell (Array.getElem?_eq_getElem hlt), h1.soft _⟩
theorem Fill.step {w : World} {B : Nat} {T : TypeId} {n k i : Nat} {f : Nat → Nat → Dat} (h : Fill w B T n k f i) (hi : i < n) (ys : List Value) (hl : ys.length = k)
    (hy : ∀ m, m < k → ∃ y, ys[m]? = some y ∧ Rd w (B + 1) y (f i m)) : Fill (puts B (i * k) ys w) B T n k f (i + 1) := by
  obtain ⟨cs, h1, h2, h3⟩ := h
  have hle : i * k + ys.length ≤ cs.size := by
    rw [h2, hl]
    have : (i + 1) * k ≤ n * k := Nat.mul_le_mul_right k hi
    rw [Nat.add_mul, Nat.one_mul] at this
    exact this
  refine ⟨putsA (i * k) ys cs, puts_row ys _ h1, by rw [putsA_size, h2], fun j hj m hm => ?_⟩
  by_cases e : j = i
  · subst e
    obtain ⟨y, hy1, hy2⟩ := hy m hm
    exact ⟨y, by rw [putsA_in ys _ cs m (by omega) hle]; exact hy1, puts_rd (Nat.lt_succ_self B) ys _ hy2⟩
  · obtain ⟨y, hy1, hy2⟩ := h3 j (by omega) m hm
    have hlo : j * k + m < i * k := by
      have : (j + 1) * k ≤ i * k := Nat.mul_le_mul_right k (by omega)
      rw [Nat.add_mul, Nat.one_mul] at this
      omega
    exact ⟨y, by rw [putsA_low ys _ cs _ hlo]; exact hy1, puts_rd (Nat.lt_succ_self B) ys _ hy2⟩
theorem Fill.rd {w : World} {B : Nat} {T : TypeId} {n k : Nat} {f : Nat → Nat → Dat} (h : Fill w B T n k f n) : Rd w B (.slice (some ⟨B, 0, none⟩) n n) (.sl n k f) := by
  obtain ⟨cs, h1, h2, h3⟩ := h
  refine ⟨_, n, rfl, Nat.le_refl _, (fun h => by cases h), .inr ⟨B, 0, rfl, Nat.le_refl _, h1.lt, fun i hi j hj => ?_⟩⟩
  obtain ⟨y, hy, hr⟩ := h3 i hi j hj
  exact ⟨y, by rw [Nat.zero_add]; exact h1.cell hy, hr.low (Nat.le_succ B)⟩
theorem Fits.int {d : Dat} (h : Fits d .int) : ∃ n : Int, d = .v (.int .i64 n) ∧ -9223372036854775808 ≤ n ∧ n ≤ 9223372036854775807 := by
  cases d with
  | v x => obtain ⟨n, rfl, h1⟩ := h; exact ⟨n, rfl, h1⟩
  | sl n k f => exact absurd h.1 (by decide)
theorem Fits.bool {d : Dat} (h : Fits d .bool) : ∃ b : Bool, d = .v (.bool b) := by
  cases d with
  | v x => obtain ⟨n, rfl⟩ := h; exact ⟨n, rfl⟩
  | sl n k f => exact absurd h.1 (by decide)
theorem Fits.str {d : Dat} (h : Fits d .str) : ∃ s : ByteArray, d = .v (.string s) ∧ s.size ≤ 9223372036854775807 := by
  cases d with
  | v x => obtain ⟨n, rfl, h1⟩ := h; exact ⟨n, rfl, h1⟩
  | sl n k f => exact absurd h.1 (by decide)
theorem Fits.deep {d : Dat} {ty : Ty} (h : Fits d ty) (hd : deep ty = true) : ∃ (n k : Nat) (f : Nat → Nat → Dat), d = .sl n k f := by
  cases d with
  | v x => cases ty <;> first | (cases hd; done) | exact h.elim
  | sl n k f => exact ⟨n, k, f, rfl⟩
theorem Rd.slice_of {w : World} {L : Nat} {d : Dat} {x : Value} {ty : Ty} (h : Rd w L x d) (hf : Fits d ty) (hd : Go.Proofs.YtcliijfdlcagoaaGreat.deep ty = true) : ∃ (a : Option Addr) (n cap : Nat), x = .slice a n cap := by
  obtain ⟨n, k, f, rfl⟩ := hf.deep hd
  obtain ⟨a, cap, e, _⟩ := h
  exact ⟨a, n, cap, e⟩
theorem row_exprs {w : World} {L n k m : Nat} {f : Nat → Nat → Dat} {a : Option Addr} {cap : Nat} (h : Rd w L (.slice a m cap) (.sl n k f)) (hf : Fits (.sl n k f) .exprs) {i : Nat} (hi : i < n) :
    ∃ (g o : Nat), a = some ⟨g, o, none⟩ ∧ L ≤ g ∧ g < w.heap.size ∧ ∃ (c0 : Int) (c1 : Int) (c2 : Bool) (c3 : Int) (c4 : Int) (c5 : ByteArray) (c6 : ByteArray) (c7 : ByteArray) (c8 : Value) (c9 : Value),
      (w.cell? ⟨g, o + i * 10, none⟩ = some (.int .i64 c0) ∧ w.cell? ⟨g, o + i * 10 + 1, none⟩ = some (.int .i64 c1) ∧ w.cell? ⟨g, o + i * 10 + 2, none⟩ = some (.bool c2) ∧ w.cell? ⟨g, o + i * 10 + 3, none⟩ = some (.int .i64 c3) ∧ w.cell? ⟨g, o + i * 10 + 4, none⟩ = some (.int .i64 c4) ∧ w.cell? ⟨g, o + i * 10 + 5, none⟩ = some (.string c5) ∧ w.cell? ⟨g, o + i * 10 + 6, none⟩ = some (.string c6) ∧ w.cell? ⟨g, o + i * 10 + 7, none⟩ = some (.string c7) ∧ w.cell? ⟨g, o + i * 10 + 8, none⟩ = some (c8) ∧ w.cell? ⟨g, o + i * 10 + 9, none⟩ = some (c9)) ∧
      ((f i 0 = .v (.int .i64 c0) ∧ -9223372036854775808 ≤ c0 ∧ c0 ≤ 9223372036854775807) ∧ (f i 1 = .v (.int .i64 c1) ∧ -9223372036854775808 ≤ c1 ∧ c1 ≤ 9223372036854775807) ∧ f i 2 = .v (.bool c2) ∧ (f i 3 = .v (.int .i64 c3) ∧ -9223372036854775808 ≤ c3 ∧ c3 ≤ 9223372036854775807) ∧ (f i 4 = .v (.int .i64 c4) ∧ -9223372036854775808 ≤ c4 ∧ c4 ≤ 9223372036854775807) ∧ (f i 5 = .v (.string c5) ∧ c5.size ≤ 9223372036854775807) ∧ (f i 6 = .v (.string c6) ∧ c6.size ≤ 9223372036854775807) ∧ (f i 7 = .v (.string c7) ∧ c7.size ≤ 9223372036854775807) ∧ (Rd w L c8 (f i 8) ∧ Fits (f i 8) .exprs) ∧ (Rd w L c9 (f i 9) ∧ Fits (f i 9) .queries)) := by
  obtain ⟨_, _, hk, hfit⟩ := hf
  obtain rfl : k = 10 := hk
  obtain ⟨_, g, o, ea, hL, hg, hc⟩ := h.elem hi
  obtain ⟨y0, z0, r0⟩ := hc 0 (by decide)
  have f0 : Fits (f i 0) .int := hfit i hi 0 (by decide)
  obtain ⟨c0, e0, b0⟩ := f0.int
  rw [e0] at r0
  obtain rfl : y0 = .int .i64 c0 := r0
  obtain ⟨y1, z1, r1⟩ := hc 1 (by decide)
  have f1 : Fits (f i 1) .int := hfit i hi 1 (by decide)
  obtain ⟨c1, e1, b1⟩ := f1.int
  rw [e1] at r1
  obtain rfl : y1 = .int .i64 c1 := r1
  obtain ⟨y2, z2, r2⟩ := hc 2 (by decide)
  have f2 : Fits (f i 2) .bool := hfit i hi 2 (by decide)
  obtain ⟨c2, e2⟩ := f2.bool
  rw [e2] at r2
  obtain rfl : y2 = .bool c2 := r2
  obtain ⟨y3, z3, r3⟩ := hc 3 (by decide)
  have f3 : Fits (f i 3) .int := hfit i hi 3 (by decide)
  obtain ⟨c3, e3, b3⟩ := f3.int
  rw [e3] at r3
  obtain rfl : y3 = .int .i64 c3 := r3
  obtain ⟨y4, z4, r4⟩ := hc 4 (by decide)
  have f4 : Fits (f i 4) .int := hfit i hi 4 (by decide)
  obtain ⟨c4, e4, b4⟩ := f4.int
  rw [e4] at r4
  obtain rfl : y4 = .int .i64 c4 := r4
  obtain ⟨y5, z5, r5⟩ := hc 5 (by decide)
  have f5 : Fits (f i 5) .str := hfit i hi 5 (by decide)
  obtain ⟨c5, e5, b5⟩ := f5.str
  rw [e5] at r5
  obtain rfl : y5 = .string c5 := r5
  obtain ⟨y6, z6, r6⟩ := hc 6 (by decide)
  have f6 : Fits (f i 6) .str := hfit i hi 6 (by decide)
  obtain ⟨c6, e6, b6⟩ := f6.str
  rw [e6] at r6
  obtain rfl : y6 = .string c6 := r6
  obtain ⟨y7, z7, r7⟩ := hc 7 (by decide)
  have f7 : Fits (f i 7) .str := hfit i hi 7 (by decide)
  obtain ⟨c7, e7, b7⟩ := f7.str
  rw [e7] at r7
  obtain rfl : y7 = .string c7 := r7
  obtain ⟨y8, z8, r8⟩ := hc 8 (by decide)
  have f8 : Fits (f i 8) .exprs := hfit i hi 8 (by decide)
  obtain ⟨y9, z9, r9⟩ := hc 9 (by decide)
  have f9 : Fits (f i 9) .queries := hfit i hi 9 (by decide)
  exact ⟨g, o, ea, hL, hg, c0, c1, c2, c3, c4, c5, c6, c7, y8, y9, ⟨z0, z1, z2, z3, z4, z5, z6, z7, z8, z9⟩, ⟨⟨e0, b0⟩, ⟨e1, b1⟩, e2, ⟨e3, b3⟩, ⟨e4, b4⟩, ⟨e5, b5⟩, ⟨e6, b6⟩, ⟨e7, b7⟩, ⟨r8, f8⟩, ⟨r9, f9⟩⟩⟩
theorem row_items {w : World} {L n k m : Nat} {f : Nat → Nat → Dat} {a : Option Addr} {cap : Nat} (h : Rd w L (.slice a m cap) (.sl n k f)) (hf : Fits (.sl n k f) .items) {i : Nat} (hi : i < n) :
    ∃ (g o : Nat), a = some ⟨g, o, none⟩ ∧ L ≤ g ∧ g < w.heap.size ∧ ∃ (c0 : Bool) (c1 : ByteArray) (c2 : Int) (c3 : Int) (c4 : Bool) (c5 : Int) (c6 : Int) (c7 : ByteArray) (c8 : ByteArray) (c9 : ByteArray) (c10 : Value) (c11 : Value) (c12 : ByteArray),
      (w.cell? ⟨g, o + i * 13, none⟩ = some (.bool c0) ∧ w.cell? ⟨g, o + i * 13 + 1, none⟩ = some (.string c1) ∧ w.cell? ⟨g, o + i * 13 + 2, none⟩ = some (.int .i64 c2) ∧ w.cell? ⟨g, o + i * 13 + 3, none⟩ = some (.int .i64 c3) ∧ w.cell? ⟨g, o + i * 13 + 4, none⟩ = some (.bool c4) ∧ w.cell? ⟨g, o + i * 13 + 5, none⟩ = some (.int .i64 c5) ∧ w.cell? ⟨g, o + i * 13 + 6, none⟩ = some (.int .i64 c6) ∧ w.cell? ⟨g, o + i * 13 + 7, none⟩ = some (.string c7) ∧ w.cell? ⟨g, o + i * 13 + 8, none⟩ = some (.string c8) ∧ w.cell? ⟨g, o + i * 13 + 9, none⟩ = some (.string c9) ∧ w.cell? ⟨g, o + i * 13 + 10, none⟩ = some (c10) ∧ w.cell? ⟨g, o + i * 13 + 11, none⟩ = some (c11) ∧ w.cell? ⟨g, o + i * 13 + 12, none⟩ = some (.string c12)) ∧
      (f i 0 = .v (.bool c0) ∧ (f i 1 = .v (.string c1) ∧ c1.size ≤ 9223372036854775807) ∧ (f i 2 = .v (.int .i64 c2) ∧ -9223372036854775808 ≤ c2 ∧ c2 ≤ 9223372036854775807) ∧ (f i 3 = .v (.int .i64 c3) ∧ -9223372036854775808 ≤ c3 ∧ c3 ≤ 9223372036854775807) ∧ f i 4 = .v (.bool c4) ∧ (f i 5 = .v (.int .i64 c5) ∧ -9223372036854775808 ≤ c5 ∧ c5 ≤ 9223372036854775807) ∧ (f i 6 = .v (.int .i64 c6) ∧ -9223372036854775808 ≤ c6 ∧ c6 ≤ 9223372036854775807) ∧ (f i 7 = .v (.string c7) ∧ c7.size ≤ 9223372036854775807) ∧ (f i 8 = .v (.string c8) ∧ c8.size ≤ 9223372036854775807) ∧ (f i 9 = .v (.string c9) ∧ c9.size ≤ 9223372036854775807) ∧ (Rd w L c10 (f i 10) ∧ Fits (f i 10) .exprs) ∧ (Rd w L c11 (f i 11) ∧ Fits (f i 11) .queries) ∧ (f i 12 = .v (.string c12) ∧ c12.size ≤ 9223372036854775807)) := by
  obtain ⟨_, _, hk, hfit⟩ := hf
  obtain rfl : k = 13 := hk
  obtain ⟨_, g, o, ea, hL, hg, hc⟩ := h.elem hi
  obtain ⟨y0, z0, r0⟩ := hc 0 (by decide)
  have f0 : Fits (f i 0) .bool := hfit i hi 0 (by decide)
  obtain ⟨c0, e0⟩ := f0.bool
  rw [e0] at r0
  obtain rfl : y0 = .bool c0 := r0
  obtain ⟨y1, z1, r1⟩ := hc 1 (by decide)
  have f1 : Fits (f i 1) .str := hfit i hi 1 (by decide)
  obtain ⟨c1, e1, b1⟩ := f1.str
  rw [e1] at r1
  obtain rfl : y1 = .string c1 := r1
  obtain ⟨y2, z2, r2⟩ := hc 2 (by decide)
  have f2 : Fits (f i 2) .int := hfit i hi 2 (by decide)
  obtain ⟨c2, e2, b2⟩ := f2.int
  rw [e2] at r2
  obtain rfl : y2 = .int .i64 c2 := r2
  obtain ⟨y3, z3, r3⟩ := hc 3 (by decide)
  have f3 : Fits (f i 3) .int := hfit i hi 3 (by decide)
  obtain ⟨c3, e3, b3⟩ := f3.int
  rw [e3] at r3
  obtain rfl : y3 = .int .i64 c3 := r3
  obtain ⟨y4, z4, r4⟩ := hc 4 (by decide)
  have f4 : Fits (f i 4) .bool := hfit i hi 4 (by decide)
  obtain ⟨c4, e4⟩ := f4.bool
  rw [e4] at r4
  obtain rfl : y4 = .bool c4 := r4
  obtain ⟨y5, z5, r5⟩ := hc 5 (by decide)
  have f5 : Fits (f i 5) .int := hfit i hi 5 (by decide)
  obtain ⟨c5, e5, b5⟩ := f5.int
  rw [e5] at r5
  obtain rfl : y5 = .int .i64 c5 := r5
  obtain ⟨y6, z6, r6⟩ := hc 6 (by decide)
  have f6 : Fits (f i 6) .int := hfit i hi 6 (by decide)
  obtain ⟨c6, e6, b6⟩ := f6.int
  rw [e6] at r6
  obtain rfl : y6 = .int .i64 c6 := r6
  obtain ⟨y7, z7, r7⟩ := hc 7 (by decide)
  have f7 : Fits (f i 7) .str := hfit i hi 7 (by decide)
  obtain ⟨c7, e7, b7⟩ := f7.str
  rw [e7] at r7
  obtain rfl : y7 = .string c7 := r7
  obtain ⟨y8, z8, r8⟩ := hc 8 (by decide)
  have f8 : Fits (f i 8) .str := hfit i hi 8 (by decide)
  obtain ⟨c8, e8, b8⟩ := f8.str
  rw [e8] at r8
  obtain rfl : y8 = .string c8 := r8
  obtain ⟨y9, z9, r9⟩ := hc 9 (by decide)
  have f9 : Fits (f i 9) .str := hfit i hi 9 (by decide)
  obtain ⟨c9, e9, b9⟩ := f9.str
  rw [e9] at r9
  obtain rfl : y9 = .string c9 := r9
  obtain ⟨y10, z10, r10⟩ := hc 10 (by decide)
  have f10 : Fits (f i 10) .exprs := hfit i hi 10 (by decide)
  obtain ⟨y11, z11, r11⟩ := hc 11 (by decide)
  have f11 : Fits (f i 11) .queries := hfit i hi 11 (by decide)
  obtain ⟨y12, z12, r12⟩ := hc 12 (by decide)
  have f12 : Fits (f i 12) .str := hfit i hi 12 (by decide)
  obtain ⟨c12, e12, b12⟩ := f12.str
  rw [e12] at r12
  obtain rfl : y12 = .string c12 := r12
  exact ⟨g, o, ea, hL, hg, c0, c1, c2, c3, c4, c5, c6, c7, c8, c9, y10, y11, c12, ⟨z0, z1, z2, z3, z4, z5, z6, z7, z8, z9, z10, z11, z12⟩, ⟨e0, ⟨e1, b1⟩, ⟨e2, b2⟩, ⟨e3, b3⟩, e4, ⟨e5, b5⟩, ⟨e6, b6⟩, ⟨e7, b7⟩, ⟨e8, b8⟩, ⟨e9, b9⟩, ⟨r10, f10⟩, ⟨r11, f11⟩, ⟨e12, b12⟩⟩⟩
theorem row_sources {w : World} {L n k m : Nat} {f : Nat → Nat → Dat} {a : Option Addr} {cap : Nat} (h : Rd w L (.slice a m cap) (.sl n k f)) (hf : Fits (.sl n k f) .sources) {i : Nat} (hi : i < n) :
    ∃ (g o : Nat), a = some ⟨g, o, none⟩ ∧ L ≤ g ∧ g < w.heap.size ∧ ∃ (c0 : ByteArray) (c1 : ByteArray) (c2 : Value),
      (w.cell? ⟨g, o + i * 3, none⟩ = some (.string c0) ∧ w.cell? ⟨g, o + i * 3 + 1, none⟩ = some (.string c1) ∧ w.cell? ⟨g, o + i * 3 + 2, none⟩ = some (c2)) ∧
      ((f i 0 = .v (.string c0) ∧ c0.size ≤ 9223372036854775807) ∧ (f i 1 = .v (.string c1) ∧ c1.size ≤ 9223372036854775807) ∧ (Rd w L c2 (f i 2) ∧ Fits (f i 2) .exprs)) := by
  obtain ⟨_, _, hk, hfit⟩ := hf
  obtain rfl : k = 3 := hk
  obtain ⟨_, g, o, ea, hL, hg, hc⟩ := h.elem hi
  obtain ⟨y0, z0, r0⟩ := hc 0 (by decide)
  have f0 : Fits (f i 0) .str := hfit i hi 0 (by decide)
  obtain ⟨c0, e0, b0⟩ := f0.str
  rw [e0] at r0
  obtain rfl : y0 = .string c0 := r0
  obtain ⟨y1, z1, r1⟩ := hc 1 (by decide)
  have f1 : Fits (f i 1) .str := hfit i hi 1 (by decide)
  obtain ⟨c1, e1, b1⟩ := f1.str
  rw [e1] at r1
  obtain rfl : y1 = .string c1 := r1
  obtain ⟨y2, z2, r2⟩ := hc 2 (by decide)
  have f2 : Fits (f i 2) .exprs := hfit i hi 2 (by decide)
  exact ⟨g, o, ea, hL, hg, c0, c1, y2, ⟨z0, z1, z2⟩, ⟨⟨e0, b0⟩, ⟨e1, b1⟩, ⟨r2, f2⟩⟩⟩
theorem row_keys {w : World} {L n k m : Nat} {f : Nat → Nat → Dat} {a : Option Addr} {cap : Nat} (h : Rd w L (.slice a m cap) (.sl n k f)) (hf : Fits (.sl n k f) .keys) {i : Nat} (hi : i < n) :
    ∃ (g o : Nat), a = some ⟨g, o, none⟩ ∧ L ≤ g ∧ g < w.heap.size ∧ ∃ (c0 : Int) (c1 : Int) (c2 : Bool) (c3 : Int) (c4 : Int) (c5 : ByteArray) (c6 : ByteArray) (c7 : ByteArray) (c8 : Value) (c9 : Value) (c10 : Bool),
      (w.cell? ⟨g, o + i * 11, none⟩ = some (.int .i64 c0) ∧ w.cell? ⟨g, o + i * 11 + 1, none⟩ = some (.int .i64 c1) ∧ w.cell? ⟨g, o + i * 11 + 2, none⟩ = some (.bool c2) ∧ w.cell? ⟨g, o + i * 11 + 3, none⟩ = some (.int .i64 c3) ∧ w.cell? ⟨g, o + i * 11 + 4, none⟩ = some (.int .i64 c4) ∧ w.cell? ⟨g, o + i * 11 + 5, none⟩ = some (.string c5) ∧ w.cell? ⟨g, o + i * 11 + 6, none⟩ = some (.string c6) ∧ w.cell? ⟨g, o + i * 11 + 7, none⟩ = some (.string c7) ∧ w.cell? ⟨g, o + i * 11 + 8, none⟩ = some (c8) ∧ w.cell? ⟨g, o + i * 11 + 9, none⟩ = some (c9) ∧ w.cell? ⟨g, o + i * 11 + 10, none⟩ = some (.bool c10)) ∧
      ((f i 0 = .v (.int .i64 c0) ∧ -9223372036854775808 ≤ c0 ∧ c0 ≤ 9223372036854775807) ∧ (f i 1 = .v (.int .i64 c1) ∧ -9223372036854775808 ≤ c1 ∧ c1 ≤ 9223372036854775807) ∧ f i 2 = .v (.bool c2) ∧ (f i 3 = .v (.int .i64 c3) ∧ -9223372036854775808 ≤ c3 ∧ c3 ≤ 9223372036854775807) ∧ (f i 4 = .v (.int .i64 c4) ∧ -9223372036854775808 ≤ c4 ∧ c4 ≤ 9223372036854775807) ∧ (f i 5 = .v (.string c5) ∧ c5.size ≤ 9223372036854775807) ∧ (f i 6 = .v (.string c6) ∧ c6.size ≤ 9223372036854775807) ∧ (f i 7 = .v (.string c7) ∧ c7.size ≤ 9223372036854775807) ∧ (Rd w L c8 (f i 8) ∧ Fits (f i 8) .exprs) ∧ (Rd w L c9 (f i 9) ∧ Fits (f i 9) .queries) ∧ f i 10 = .v (.bool c10)) := by
  obtain ⟨_, _, hk, hfit⟩ := hf
  obtain rfl : k = 11 := hk
  obtain ⟨_, g, o, ea, hL, hg, hc⟩ := h.elem hi
  obtain ⟨y0, z0, r0⟩ := hc 0 (by decide)
  have f0 : Fits (f i 0) .int := hfit i hi 0 (by decide)
  obtain ⟨c0, e0, b0⟩ := f0.int
  rw [e0] at r0
  obtain rfl : y0 = .int .i64 c0 := r0
  obtain ⟨y1, z1, r1⟩ := hc 1 (by decide)
  have f1 : Fits (f i 1) .int := hfit i hi 1 (by decide)
  obtain ⟨c1, e1, b1⟩ := f1.int
  rw [e1] at r1
  obtain rfl : y1 = .int .i64 c1 := r1
  obtain ⟨y2, z2, r2⟩ := hc 2 (by decide)
  have f2 : Fits (f i 2) .bool := hfit i hi 2 (by decide)
  obtain ⟨c2, e2⟩ := f2.bool
  rw [e2] at r2
  obtain rfl : y2 = .bool c2 := r2
  obtain ⟨y3, z3, r3⟩ := hc 3 (by decide)
  have f3 : Fits (f i 3) .int := hfit i hi 3 (by decide)
  obtain ⟨c3, e3, b3⟩ := f3.int
  rw [e3] at r3
  obtain rfl : y3 = .int .i64 c3 := r3
  obtain ⟨y4, z4, r4⟩ := hc 4 (by decide)
  have f4 : Fits (f i 4) .int := hfit i hi 4 (by decide)
  obtain ⟨c4, e4, b4⟩ := f4.int
  rw [e4] at r4
  obtain rfl : y4 = .int .i64 c4 := r4
  obtain ⟨y5, z5, r5⟩ := hc 5 (by decide)
  have f5 : Fits (f i 5) .str := hfit i hi 5 (by decide)
  obtain ⟨c5, e5, b5⟩ := f5.str
  rw [e5] at r5
  obtain rfl : y5 = .string c5 := r5
  obtain ⟨y6, z6, r6⟩ := hc 6 (by decide)
  have f6 : Fits (f i 6) .str := hfit i hi 6 (by decide)
  obtain ⟨c6, e6, b6⟩ := f6.str
  rw [e6] at r6
  obtain rfl : y6 = .string c6 := r6
  obtain ⟨y7, z7, r7⟩ := hc 7 (by decide)
  have f7 : Fits (f i 7) .str := hfit i hi 7 (by decide)
  obtain ⟨c7, e7, b7⟩ := f7.str
  rw [e7] at r7
  obtain rfl : y7 = .string c7 := r7
  obtain ⟨y8, z8, r8⟩ := hc 8 (by decide)
  have f8 : Fits (f i 8) .exprs := hfit i hi 8 (by decide)
  obtain ⟨y9, z9, r9⟩ := hc 9 (by decide)
  have f9 : Fits (f i 9) .queries := hfit i hi 9 (by decide)
  obtain ⟨y10, z10, r10⟩ := hc 10 (by decide)
  have f10 : Fits (f i 10) .bool := hfit i hi 10 (by decide)
  obtain ⟨c10, e10⟩ := f10.bool
  rw [e10] at r10
  obtain rfl : y10 = .bool c10 := r10
  exact ⟨g, o, ea, hL, hg, c0, c1, c2, c3, c4, c5, c6, c7, y8, y9, c10, ⟨z0, z1, z2, z3, z4, z5, z6, z7, z8, z9, z10⟩, ⟨⟨e0, b0⟩, ⟨e1, b1⟩, e2, ⟨e3, b3⟩, ⟨e4, b4⟩, ⟨e5, b5⟩, ⟨e6, b6⟩, ⟨e7, b7⟩, ⟨r8, f8⟩, ⟨r9, f9⟩, e10⟩⟩
theorem row_queries {w : World} {L n k m : Nat} {f : Nat → Nat → Dat} {a : Option Addr} {cap : Nat} (h : Rd w L (.slice a m cap) (.sl n k f)) (hf : Fits (.sl n k f) .queries) {i : Nat} (hi : i < n) :
    ∃ (g o : Nat), a = some ⟨g, o, none⟩ ∧ L ≤ g ∧ g < w.heap.size ∧ ∃ (c0 : Bool) (c1 : Value) (c2 : Value) (c3 : Value) (c4 : Value) (c5 : Int),
      (w.cell? ⟨g, o + i * 6, none⟩ = some (.bool c0) ∧ w.cell? ⟨g, o + i * 6 + 1, none⟩ = some (c1) ∧ w.cell? ⟨g, o + i * 6 + 2, none⟩ = some (c2) ∧ w.cell? ⟨g, o + i * 6 + 3, none⟩ = some (c3) ∧ w.cell? ⟨g, o + i * 6 + 4, none⟩ = some (c4) ∧ w.cell? ⟨g, o + i * 6 + 5, none⟩ = some (.int .i64 c5)) ∧
      (f i 0 = .v (.bool c0) ∧ (Rd w L c1 (f i 1) ∧ Fits (f i 1) .items) ∧ (Rd w L c2 (f i 2) ∧ Fits (f i 2) .sources) ∧ (Rd w L c3 (f i 3) ∧ Fits (f i 3) .exprs) ∧ (Rd w L c4 (f i 4) ∧ Fits (f i 4) .keys) ∧ (f i 5 = .v (.int .i64 c5) ∧ -9223372036854775808 ≤ c5 ∧ c5 ≤ 9223372036854775807)) := by
  obtain ⟨_, _, hk, hfit⟩ := hf
  obtain rfl : k = 6 := hk
  obtain ⟨_, g, o, ea, hL, hg, hc⟩ := h.elem hi
  obtain ⟨y0, z0, r0⟩ := hc 0 (by decide)
  have f0 : Fits (f i 0) .bool := hfit i hi 0 (by decide)
  obtain ⟨c0, e0⟩ := f0.bool
  rw [e0] at r0
  obtain rfl : y0 = .bool c0 := r0
  obtain ⟨y1, z1, r1⟩ := hc 1 (by decide)
  have f1 : Fits (f i 1) .items := hfit i hi 1 (by decide)
  obtain ⟨y2, z2, r2⟩ := hc 2 (by decide)
  have f2 : Fits (f i 2) .sources := hfit i hi 2 (by decide)
  obtain ⟨y3, z3, r3⟩ := hc 3 (by decide)
  have f3 : Fits (f i 3) .exprs := hfit i hi 3 (by decide)
  obtain ⟨y4, z4, r4⟩ := hc 4 (by decide)
  have f4 : Fits (f i 4) .keys := hfit i hi 4 (by decide)
  obtain ⟨y5, z5, r5⟩ := hc 5 (by decide)
  have f5 : Fits (f i 5) .int := hfit i hi 5 (by decide)
  obtain ⟨c5, e5, b5⟩ := f5.int
  rw [e5] at r5
  obtain rfl : y5 = .int .i64 c5 := r5
  exact ⟨g, o, ea, hL, hg, c0, y1, y2, y3, y4, c5, ⟨z0, z1, z2, z3, z4, z5⟩, ⟨e0, ⟨r1, f1⟩, ⟨r2, f2⟩, ⟨r3, f3⟩, ⟨r4, f4⟩, ⟨e5, b5⟩⟩⟩
theorem ret_i64 {a b : Int} (h : a = b) : Ending.returned (.int .i64 a) = .returned (.int .i64 b) := by rw [h]
theorem i64_bds {n : Int} (h : (Lit.int .i64 n).wf = true) : -9223372036854775808 ≤ n ∧ n ≤ 9223372036854775807 := by
  simp [Lit.wf, IntKind.min, IntKind.max, IntKind.signed, IntKind.bits] at h; omega
def cellsOf (l : List UInt8) : List Value := l.map fun b => .int .u8 (b.toNat : Int)
def OwnB (e : TypeId) (w : World) (B : Nat) (v : Value) (l : List UInt8) : Prop := w.ownsRow B e 1 v l.length (cellsOf l)
theorem OwnB.nil (e : TypeId) (w : World) (B : Nat) : OwnB e w B (.slice none 0 0) [] := World.ownsRow_nil _ _ _ _
theorem OwnB.string {P : Program} {e src dst : TypeId} {w : World} {B g cap n : Nat} {l : List UInt8} (h : OwnB e w B (.slice (some ⟨g, 0, none⟩) n cap) l) (hn : n = l.length)
    (hs : P.underlying src = some (.slice e)) (he : P.underlying e = some (.int .u8)) (hd : P.underlying dst = some .string) :
    (convert src dst (.slice (some ⟨g, 0, none⟩) n cap)).run P w = .ok (.string ⟨l.toArray⟩) w := by
  subst hn
  exact run_convert_bytes_back w src dst e ⟨g, 0, none⟩ cap l hs he hd fun j hj => by
    have := World.ownsRow.cellAt h j (by omega)
    have hp : (⟨g, 0, none⟩ : Addr).add j = ⟨g, j, none⟩ := by unfold Addr.add; split <;> simp_all
    rw [hp, this, cellsOf]
    simp [hj]
end Go.Proofs.YtcliijfdlcagoaaGreat
