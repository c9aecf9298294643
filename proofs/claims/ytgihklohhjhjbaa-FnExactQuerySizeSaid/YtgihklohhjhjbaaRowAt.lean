
/- Blocks known whole, and blocks that are filled element by element. -/
import Derived.Test.YtgihklohhjhjbaaDat
namespace Go.Proofs.Ytgihklohhjhjbaa
open Go.RowKit

/-- block B of the world is the array cs -/
def RowAt (W : World) (B : Nat) (T : TypeId) (cs : Array Value) : Prop := W.heap[B]? = some (.cells cs T (0, 0))
theorem RowAt.lt {W : World} {B : Nat} {T : TypeId} {cs : Array Value} (h : RowAt W B T cs) : B < W.heap.size := (Array.getElem?_eq_some_iff.1 h).1
theorem RowAt.cell {W : World} {B : Nat} {T : TypeId} {cs : Array Value} (h : RowAt W B T cs) {i : Nat} {v : Value} (hi : cs[i]? = some v) : W.cell? ⟨B, i, none⟩ = some v :=
  (cell_of_row W B i cs T (0, 0) h).trans hi
theorem RowAt.soft {W : World} {B : Nat} {T : TypeId} {cs : Array Value} (h : RowAt W B T cs) (i : Nat) : W.frozen? ⟨B, i, none⟩ = false := frozen_of_row W B i cs T h
theorem RowAt.new (w : World) (T : TypeId) (cs : Array Value) : RowAt (w.alloc (.cells cs T)) w.heap.size T cs := heap_alloc_new w _
theorem RowAt.later {W W' : World} {B : Nat} {T : TypeId} {cs : Array Value} (h : RowAt W B T cs) (g : Below W.heap.size W W') : RowAt W' B T cs := (g.block B h.lt).trans h
theorem RowAt.set {W : World} {B : Nat} {T : TypeId} {cs : Array Value} (h : RowAt W B T cs) (i : Nat) (v : Value) : RowAt (W.setCell ⟨B, i, none⟩ v) B T (cs.setIfInBounds i v) :=
  heap_setCell_same W B i cs T v h
theorem RowAt.other {W : World} {B C o : Nat} {T : TypeId} {cs : Array Value} {v : Value} (h : RowAt W B T cs) (hne : B ≠ C) : RowAt (W.setCell ⟨C, o, none⟩ v) B T cs :=
  (heap_setCell_other W ⟨C, o, none⟩ B v hne).trans h

/-- values put into block B from place o on -/
def puts (B : Nat) : Nat → List Value → World → World
  | _, [], w => w
  | o, y :: ys, w => puts B (o + 1) ys (w.setCell ⟨B, o, none⟩ y)
def putsA : Nat → List Value → Array Value → Array Value
  | _, [], cs => cs
  | o, y :: ys, cs => putsA (o + 1) ys (cs.setIfInBounds o y)
theorem putsA_size : ∀ (ys : List Value) (o : Nat) (cs : Array Value), (putsA o ys cs).size = cs.size
  | [], _, _ => rfl
  | y :: ys, o, cs => by unfold putsA; rw [putsA_size ys]; simp
theorem putsA_low : ∀ (ys : List Value) (o : Nat) (cs : Array Value) (x : Nat), x < o → (putsA o ys cs)[x]? = cs[x]?
  | [], _, _, _, _ => rfl
  | y :: ys, o, cs, x, h => by unfold putsA; rw [putsA_low ys (o + 1) _ x (by omega), Array.getElem?_setIfInBounds_ne (by omega)]
theorem putsA_in : ∀ (ys : List Value) (o : Nat) (cs : Array Value) (m : Nat), m < ys.length → o + ys.length ≤ cs.size → (putsA o ys cs)[o + m]? = ys[m]?
  | [], _, _, _, h, _ => absurd h (by simp)
  | y :: ys, o, cs, m, h, hl => by
    simp only [List.length_cons] at h hl
    unfold putsA
    cases m with
    | zero =>
      show (putsA (o + 1) ys (cs.setIfInBounds o y))[o]? = some y
      rw [putsA_low ys (o + 1) _ o (by omega), Array.getElem?_setIfInBounds_self_of_lt (by omega)]
    | succ m =>
      rw [show o + (m + 1) = o + 1 + m by omega, putsA_in ys (o + 1) _ m (by omega) (by simp; omega)]
      rfl
theorem puts_row : ∀ (ys : List Value) {W : World} {B : Nat} {T : TypeId} {cs : Array Value} (o : Nat), RowAt W B T cs → RowAt (puts B o ys W) B T (putsA o ys cs)
  | [], _, _, _, _, _, h => h
  | _ :: ys, _, _, _, _, o, h => puts_row ys (o + 1) (h.set o _)
theorem puts_heap : ∀ (ys : List Value) (W : World) (B o k : Nat), k ≠ B → (puts B o ys W).heap[k]? = W.heap[k]?
  | [], _, _, _, _, _ => rfl
  | y :: ys, W, B, o, k, h => (puts_heap ys _ B (o + 1) k h).trans (heap_setCell_other W ⟨B, o, none⟩ k y h)
theorem puts_size : ∀ (ys : List Value) (W : World) (B o : Nat), (puts B o ys W).heap.size = W.heap.size
  | [], _, _, _ => rfl
  | y :: ys, W, B, o => (puts_size ys _ B (o + 1)).trans (by simp)
theorem puts_below {C B : Nat} {w : World} (hC : C ≤ B) : ∀ (ys : List Value) {W : World} (o : Nat), Below C w W → Below C w (puts B o ys W)
  | [], _, _, h => h
  | _ :: ys, _, o, h => puts_below hC ys (o + 1) (h.setCell hC _)
theorem puts_rd {L B : Nat} (hB : B < L) (ys : List Value) (o : Nat) {W : World} {x : Value} {d : Dat} (h : Rd W L x d) : Rd (puts B o ys W) L x d :=
  h.keep (by rw [puts_size]; exact Nat.le_refl _) fun g hg _ => puts_heap ys W B o g (by omega)

/-- block B holds n elements of k cells; the first i of them read as f tells, through blocks behind B -/
def Fill (w : World) (B : Nat) (T : TypeId) (n k : Nat) (f : Nat → Nat → Dat) (i : Nat) : Prop :=
  ∃ cs : Array Value, RowAt w B T cs ∧ cs.size = n * k ∧ ∀ j, j < i → ∀ m, m < k → ∃ y, cs[j * k + m]? = some y ∧ Rd w (B + 1) y (f j m)
theorem Fill.later {w w' : World} {B : Nat} {T : TypeId} {n k i : Nat} {f : Nat → Nat → Dat} (h : Fill w B T n k f i) (g : Below w.heap.size w w') : Fill w' B T n k f i := by
  obtain ⟨cs, h1, h2, h3⟩ := h
  refine ⟨cs, h1.later g, h2, fun j hj m hm => ?_⟩
  obtain ⟨y, hy, hr⟩ := h3 j hj m hm
  exact ⟨y, hy, hr.later g⟩
theorem Fill.new (w : World) (T : TypeId) (n k : Nat) (f : Nat → Nat → Dat) (cs : Array Value) (h : cs.size = n * k) : Fill (w.alloc (.cells cs T)) w.heap.size T n k f 0 :=
  ⟨cs, RowAt.new w T cs, h, fun j hj => absurd hj (Nat.not_lt_zero j)⟩
/-- a cell of an element is there, and may be written -/
theorem Fill.at {w : World} {B : Nat} {T : TypeId} {n k i j m : Nat} {f : Nat → Nat → Dat} (h : Fill w B T n k f i) (hj : j < n) (hm : m < k) :
    ∃ u, w.cell? ⟨B, j * k + m, none⟩ = some u ∧ w.frozen? ⟨B, j * k + m, none⟩ = false := by
  obtain ⟨cs, h1, h2, _⟩ := h
  have hlt : j * k + m < cs.size := by
    rw [h2]
    have : (j + 1) * k ≤ n * k := Nat.mul_le_mul_right k hj
    rw [Nat.add_mul, Nat.one_mul] at this
    omega
  exact ⟨cs[j * k + m], h1.cell (Array.getElem?_eq_getElem hlt), h1.soft _⟩
/-- one more element -/
theorem Fill.step {w : World} {B : Nat} {T : TypeId} {n k i : Nat} {f : Nat → Nat → Dat} (h : Fill w B T n k f i) (hi : i < n) (ys : List Value) (hl : ys.length = k)
    (hy : ∀ m, m < k → ∃ y, ys[m]? = some y ∧ Rd w (B + 1) y (f i m)) : Fill (puts B (i * k) ys w) B T n k f (i + 1) := by
  obtain ⟨cs, h1, h2, h3⟩ := h
  have hle : i * k + ys.length ≤ cs.size := by
    rw [h2, hl]
    have : (i + 1) * k ≤ n * k := Nat.mul_le_mul_right k hi
    rw [Nat.add_mul, Nat.one_mul] at this
    exact this
  refine ⟨putsA (i * k) ys cs, puts_row ys _ h1, by rw [putsA_size, h2], fun j hj m hm => ?_⟩
  by_cases e : j = i
  · subst e
    obtain ⟨y, hy1, hy2⟩ := hy m hm
    exact ⟨y, by rw [putsA_in ys _ cs m (by omega) hle]; exact hy1, puts_rd (Nat.lt_succ_self B) ys _ hy2⟩
  · obtain ⟨y, hy1, hy2⟩ := h3 j (by omega) m hm
    have hlo : j * k + m < i * k := by
      have : (j + 1) * k ≤ i * k := Nat.mul_le_mul_right k (by omega)
      rw [Nat.add_mul, Nat.one_mul] at this
      omega
    exact ⟨y, by rw [putsA_low ys _ cs _ hlo]; exact hy1, puts_rd (Nat.lt_succ_self B) ys _ hy2⟩
theorem Fill.rd {w : World} {B : Nat} {T : TypeId} {n k : Nat} {f : Nat → Nat → Dat} (h : Fill w B T n k f n) : Rd w B (.slice (some ⟨B, 0, none⟩) n n) (.sl n k f) := by
  obtain ⟨cs, h1, h2, h3⟩ := h
  refine ⟨_, n, rfl, Nat.le_refl _, (fun h => by cases h), .inr ⟨B, 0, rfl, Nat.le_refl _, h1.lt, fun i hi j hj => ?_⟩⟩
  obtain ⟨y, hy, hr⟩ := h3 i hi j hj
  exact ⟨y, by rw [Nat.zero_add]; exact h1.cell hy, hr.low (Nat.le_succ B)⟩
end Go.Proofs.Ytgihklohhjhjbaa
