/- Joined texts: ArgStmt RowAt Own Pure. -/
import Derived.Test.YtfmgkinindkedaaQHArgTree
import Derived.Test.YtfmgkinindkedaaQSTA
import Derived.WalkKit
import Derived.ProofKit
import Derived.Below
import Derived.BigCall
import Derived.Maps.AppendAt
import Derived.Laws.IdiomStrings
/- A statement that came in as an argument, field by field. -/
namespace Go.Proofs.Ytfmgkinindkedaa
open Go.ChangeShapes Go.WideShapes Go.ChangeAt Go.RowKit Go.Deep

section
variable {H : Type} {enc : TypeId × Value → H} {W : World}
set_option maxRecDepth 100000 in
/-- a slice whose elements are one cell each: the elements' data make it up -/
theorem slice_dat {T e : TypeId} {ty ety : Ty} (hT : Try.prog.underlying T = some (.slice e)) (hk : Try.prog.cellsOf e = 1) (hd : deep ty = true) (hr : rowTy ty = [ety])
    (IH : ∀ (m : Nat) (x : Value) (y : DataW H × List MemPlace), DataW.trod enc Try.prog W 0 (fun _ => true) true m e [x] = some y → ∃ d, Rd W 0 x d ∧ Fits d ety)
    {n : Nat} {x : Value} {y : DataW H × List MemPlace} (h : DataW.trod enc Try.prog W 0 (fun _ => true) true n T [x] = some y) : ∃ d, Rd W 0 x d ∧ Fits d ty := by
  have hl1 : (rowTy ty).length = 1 := by rw [hr]; rfl
  rcases DataW.trod_slice hT h with ⟨hcs, _⟩ | ⟨ad, len, cap, elems, rest, n', rfl, hcs, _, _, hlc, hcm, hel, hi, _, _⟩
  · obtain rfl : x = .slice none 0 0 := by simpa using hcs
    refine ⟨.sl 0 1 fun _ _ => .v undef, ⟨none, 0, rfl, Nat.le_refl _, fun _ => rfl, .inl rfl⟩, ?_⟩
    exact ⟨hd, by omega, hl1.symm, fun i hi => by omega⟩
  · obtain rfl : x = .slice (some ad) len cap := by simpa using hcs
    obtain ⟨g, o, spot⟩ := ad
    have row : ∀ i, i < len → ∃ (c : Value) (y : DataW H × List MemPlace), W.cell? ((Addr.mk g o spot).add (i * 1)) = some c ∧ DataW.trod enc Try.prog W 0 (fun _ => true) true n' e [c] = some y := fun i hil => by
      have h1 := hi i hil
      rw [List.getElem?_eq_getElem (by omega), Option.bind_eq_some_iff, hk] at h1
      obtain ⟨cs', h2, h3⟩ := h1
      obtain ⟨_, hl, hat⟩ := World.cells?_some h2
      match cs', hl with
      | [c], _ =>
        have c0 := hat 0 (by decide)
        have e0 : ((Addr.mk g o spot).add (i * 1)).add 0 = (Addr.mk g o spot).add (i * 1) := by unfold Addr.add; split <;> simp_all
        rw [e0] at c0
        exact ⟨c, _, c0, h3⟩
    have hsp : 0 < len → spot = none := fun h0 => by
      obtain ⟨c, y, h2, h3⟩ := row 0 h0
      have e0 : (Addr.mk g o spot).add (0 * 1) = Addr.mk g o spot := by unfold Addr.add; simp
      rw [e0] at h2
      simpa using World.cell?_spot h2
    have key : ∀ i, i < len → ∃ d : Dat, ∃ c, W.cell? ⟨g, o + i, none⟩ = some c ∧ Rd W 0 c d ∧ Fits d ety := fun i hil => by
      obtain ⟨c, y, h2, h3⟩ := row i hil
      have hs := hsp (by omega)
      subst hs
      rw [add_none, Nat.mul_one] at h2
      obtain ⟨d, hr, hf⟩ := IH _ _ _ h3
      exact ⟨d, c, h2, hr, hf⟩
    refine ⟨.sl len 1 fun i _ => if hil : i < len then Classical.choose (key i hil) else .v undef, ?_, ?_⟩
    · refine ⟨some ⟨g, o, spot⟩, cap, rfl, hlc, (fun h => by cases h), ?_⟩
      by_cases h0 : len = 0
      · exact .inl h0
      · refine .inr ?_
        have hs := hsp (by omega)
        subst hs
        have lt : g < W.heap.size := by
          obtain ⟨c, hy, _⟩ := Classical.choose_spec (key 0 (by omega))
          rcases Nat.lt_or_ge g W.heap.size with hb | hb
          · exact hb
          · exfalso
            have : W.heap[g]? = none := Array.getElem?_eq_none hb
            simp [World.cell?, this] at hy
        refine ⟨g, o, rfl, Nat.zero_le _, lt, fun i hil j hj => ?_⟩
        obtain rfl : j = 0 := by omega
        obtain ⟨c, hy, hr, _⟩ := Classical.choose_spec (key i hil)
        exact ⟨c, by rw [Nat.mul_one]; exact hy, by simp only [dif_pos hil]; exact hr⟩
    · refine ⟨hd, by unfold maxLen at hcm; omega, hl1.symm, fun i hil j hj => ?_⟩
      obtain ⟨c, hy, _, hf⟩ := Classical.choose_spec (key i hil)
      have hj0 : j = 0 := by omega
      subst hj0
      simp only [dif_pos hil]
      have : (rowTy ty)[0] = ety := by simp [hr]
      rw [this]; exact hf
theorem rows_dat {n : Nat} {x : Value} {y : DataW H × List MemPlace} (h : DataW.trod enc Try.prog W 0 (fun _ => true) true n 28 [x] = some y) : ∃ d, Rd W 0 x d ∧ Fits d .rows :=
  slice_dat (ety := .exprs) Try.underlying28 (by kernel_rfl) rfl rfl (fun m x y h => cell_dat m .exprs x y rfl h) h
theorem names_dat {n : Nat} {x : Value} {y : DataW H × List MemPlace} (h : DataW.trod enc Try.prog W 0 (fun _ => true) true n 29 [x] = some y) : ∃ d, Rd W 0 x d ∧ Fits d .names :=
  slice_dat (ety := .str) Try.underlying29 (by kernel_rfl) rfl rfl (fun m x y h => cell_dat m .str x y rfl h) h
set_option maxRecDepth 100000 in
theorem arg_Stmt {r : Reach} {b0 : Nat} {v : Value} {d : DataW H} {p : List MemPlace} (hv : Value.okWide Try.prog W r b0 31 v) (h : DataW.Trod enc Try.prog W 0 (fun _ => true) true 31 v d p) :
    ∃ (c0 : Int) (c1 : Bool) (c2 : Value) (c3 : Value) (c4 : Value) (c5 : Value) (c6 : Int) (c7 : ByteArray) (c8 : Value) (c9 : Value) (c10 : Value) (c11 : Value) (d2 : Dat) (d3 : Dat) (d4 : Dat) (d5 : Dat) (d8 : Dat) (d9 : Dat) (d10 : Dat) (d11 : Dat), v = .agg #[.int .i64 c0, .bool c1, c2, c3, c4, c5, .int .i64 c6, .string c7, c8, c9, c10, c11] ∧ (-9223372036854775808 ≤ c0 ∧ c0 ≤ 9223372036854775807) ∧ (Rd W 0 c2 d2 ∧ Fits d2 .items) ∧ (Rd W 0 c3 d3 ∧ Fits d3 .sources) ∧ (Rd W 0 c4 d4 ∧ Fits d4 .exprs) ∧ (Rd W 0 c5 d5 ∧ Fits d5 .keys) ∧ (-9223372036854775808 ≤ c6 ∧ c6 ≤ 9223372036854775807) ∧ c7.size ≤ 9223372036854775807 ∧ (Rd W 0 c8 d8 ∧ Fits d8 .rows) ∧ (Rd W 0 c9 d9 ∧ Fits d9 .names) ∧ (Rd W 0 c10 d10 ∧ Fits d10 .exprs) ∧ (Rd W 0 c11 d11 ∧ Fits d11 .exprs) := by
  obtain ⟨cs, rfl, hsz⟩ := okWide_struct Try.underlying31 hv
  have hc : Try.prog.cellsOf 31 = 12 := by kernel_rfl
  obtain ⟨l⟩ := cs
  match l, hsz.trans hc with
  | [x0, x1, x2, x3, x4, x5, x6, x7, x8, x9, x10, x11], _ =>
    obtain ⟨fuel, hf⟩ := h
    have hf2 : DataW.trod enc Try.prog W 0 (fun _ => true) true fuel 31 [x0, x1, x2, x3, x4, x5, x6, x7, x8, x9, x10, x11] = some (d, p) := hf
    obtain ⟨xs, n', rfl, -, hl, hlen, hi⟩ := DataW.trod_struct Try.underlying31 hf2
    have k_Query : Try.prog.cellsOf 27 = 6 := by kernel_rfl
    have k___Expr : Try.prog.cellsOf 24 = 1 := by kernel_rfl
    have k_____Expr : Try.prog.cellsOf 28 = 1 := by kernel_rfl
    have k___string : Try.prog.cellsOf 29 = 1 := by kernel_rfl
    have k_int : Try.prog.cellsOf 3 = 1 := by kernel_rfl
    have k_string : Try.prog.cellsOf 9 = 1 := by kernel_rfl
    have hx : ∀ i, i < 7 → ∃ y, xs[i]? = some y := fun i hi => ⟨xs[i]'(by have : xs.length = 7 := hlen; omega), List.getElem?_eq_getElem _⟩
    obtain ⟨y0, hy0⟩ := hx 0 (by decide)
    have e0 : DataW.trod enc Try.prog W 0 (fun _ => true) true n' 3 [x0] = some y0 := by
      have h := hi 0 _ rfl
      rw [hy0] at h
      simpa [k_Query, k___Expr, k_____Expr, k___string, k_int, k_string] using h
    obtain ⟨y1, hy1⟩ := hx 1 (by decide)
    have e1 : DataW.trod enc Try.prog W 0 (fun _ => true) true n' 27 [x1, x2, x3, x4, x5, x6] = some y1 := by
      have h := hi 1 _ rfl
      rw [hy1] at h
      simpa [k_Query, k___Expr, k_____Expr, k___string, k_int, k_string] using h
    obtain ⟨y2, hy2⟩ := hx 2 (by decide)
    have e2 : DataW.trod enc Try.prog W 0 (fun _ => true) true n' 9 [x7] = some y2 := by
      have h := hi 2 _ rfl
      rw [hy2] at h
      simpa [k_Query, k___Expr, k_____Expr, k___string, k_int, k_string] using h
    obtain ⟨y3, hy3⟩ := hx 3 (by decide)
    have e3 : DataW.trod enc Try.prog W 0 (fun _ => true) true n' 28 [x8] = some y3 := by
      have h := hi 3 _ rfl
      rw [hy3] at h
      simpa [k_Query, k___Expr, k_____Expr, k___string, k_int, k_string] using h
    obtain ⟨y4, hy4⟩ := hx 4 (by decide)
    have e4 : DataW.trod enc Try.prog W 0 (fun _ => true) true n' 29 [x9] = some y4 := by
      have h := hi 4 _ rfl
      rw [hy4] at h
      simpa [k_Query, k___Expr, k_____Expr, k___string, k_int, k_string] using h
    obtain ⟨y5, hy5⟩ := hx 5 (by decide)
    have e5 : DataW.trod enc Try.prog W 0 (fun _ => true) true n' 24 [x10] = some y5 := by
      have h := hi 5 _ rfl
      rw [hy5] at h
      simpa [k_Query, k___Expr, k_____Expr, k___string, k_int, k_string] using h
    obtain ⟨y6, hy6⟩ := hx 6 (by decide)
    have e6 : DataW.trod enc Try.prog W 0 (fun _ => true) true n' 24 [x11] = some y6 := by
      have h := hi 6 _ rfl
      rw [hy6] at h
      simpa [k_Query, k___Expr, k_____Expr, k___string, k_int, k_string] using h
    obtain ⟨d0, r0, f0⟩ := cell_dat _ .int _ _ rfl e0
    obtain ⟨c0, rfl, b0⟩ := Fits.int (d := d0) f0
    obtain rfl : x0 = .int .i64 c0 := r0
    have hC := flat_Query (W := W) (cs := [x1, x2, x3, x4, x5, x6]) e1
    obtain ⟨d1, r1, f1⟩ := hC.dat 0 (by decide)
    obtain ⟨c1, rfl⟩ := Fits.bool (d := d1) f1
    obtain rfl : x1 = .bool c1 := r1
    obtain ⟨d2, r2, f2⟩ := hC.dat 1 (by decide)
    obtain ⟨d3, r3, f3⟩ := hC.dat 2 (by decide)
    obtain ⟨d4, r4, f4⟩ := hC.dat 3 (by decide)
    obtain ⟨d5, r5, f5⟩ := hC.dat 4 (by decide)
    obtain ⟨d6, r6, f6⟩ := hC.dat 5 (by decide)
    obtain ⟨c6, rfl, b6⟩ := Fits.int (d := d6) f6
    obtain rfl : x6 = .int .i64 c6 := r6
    obtain ⟨d7, r7, f7⟩ := cell_dat _ .str _ _ rfl e2
    obtain ⟨c7, rfl, b7⟩ := Fits.str (d := d7) f7
    obtain rfl : x7 = .string c7 := r7
    obtain ⟨d8, r8, f8⟩ := rows_dat e3
    obtain ⟨d9, r9, f9⟩ := names_dat e4
    obtain ⟨d10, r10, f10⟩ := cell_dat _ .exprs _ _ rfl e5
    obtain ⟨d11, r11, f11⟩ := cell_dat _ .exprs _ _ rfl e6
    exact ⟨c0, c1, x2, x3, x4, x5, c6, c7, x8, x9, x10, x11, d2, d3, d4, d5, d8, d9, d10, d11, rfl, b0, ⟨r2, f2⟩, ⟨r3, f3⟩, ⟨r4, f4⟩, ⟨r5, f5⟩, b6, b7, ⟨r8, f8⟩, ⟨r9, f9⟩, ⟨r10, f10⟩, ⟨r11, f11⟩⟩
end
end Go.Proofs.Ytfmgkinindkedaa

/- Blocks known whole, and blocks that are filled element by element. -/
namespace Go.Proofs.Ytfmgkinindkedaa
open Go.RowKit

/-- block B of the world is the array cs -/
def RowAt (W : World) (B : Nat) (T : TypeId) (cs : Array Value) : Prop := W.heap[B]? = some (.cells cs T (0, 0))
theorem RowAt.lt {W : World} {B : Nat} {T : TypeId} {cs : Array Value} (h : RowAt W B T cs) : B < W.heap.size := (Array.getElem?_eq_some_iff.1 h).1
theorem RowAt.cell {W : World} {B : Nat} {T : TypeId} {cs : Array Value} (h : RowAt W B T cs) {i : Nat} {v : Value} (hi : cs[i]? = some v) : W.cell? ⟨B, i, none⟩ = some v :=
  (cell_of_row W B i cs T (0, 0) h).trans hi
theorem RowAt.soft {W : World} {B : Nat} {T : TypeId} {cs : Array Value} (h : RowAt W B T cs) (i : Nat) : W.frozen? ⟨B, i, none⟩ = false := frozen_of_row W B i cs T h
theorem RowAt.new (w : World) (T : TypeId) (cs : Array Value) : RowAt (w.alloc (.cells cs T)) w.heap.size T cs := heap_alloc_new w _
theorem RowAt.later {W W' : World} {B : Nat} {T : TypeId} {cs : Array Value} (h : RowAt W B T cs) (g : Below W.heap.size W W') : RowAt W' B T cs := (g.block B h.lt).trans h
theorem RowAt.set {W : World} {B : Nat} {T : TypeId} {cs : Array Value} (h : RowAt W B T cs) (i : Nat) (v : Value) : RowAt (W.setCell ⟨B, i, none⟩ v) B T (cs.setIfInBounds i v) :=
  heap_setCell_same W B i cs T v h
theorem RowAt.other {W : World} {B C o : Nat} {T : TypeId} {cs : Array Value} {v : Value} (h : RowAt W B T cs) (hne : B ≠ C) : RowAt (W.setCell ⟨C, o, none⟩ v) B T cs :=
  (heap_setCell_other W ⟨C, o, none⟩ B v hne).trans h

/-- values put into block B from place o on -/
def puts (B : Nat) : Nat → List Value → World → World
  | _, [], w => w
  | o, y :: ys, w => puts B (o + 1) ys (w.setCell ⟨B, o, none⟩ y)
def putsA : Nat → List Value → Array Value → Array Value
  | _, [], cs => cs
  | o, y :: ys, cs => putsA (o + 1) ys (cs.setIfInBounds o y)
theorem putsA_size : ∀ (ys : List Value) (o : Nat) (cs : Array Value), (putsA o ys cs).size = cs.size
  | [], _, _ => rfl
  | y :: ys, o, cs => by unfold putsA; rw [putsA_size ys]; simp
theorem putsA_low : ∀ (ys : List Value) (o : Nat) (cs : Array Value) (x : Nat), x < o → (putsA o ys cs)[x]? = cs[x]?
  | [], _, _, _, _ => rfl
  | y :: ys, o, cs, x, h => by unfold putsA; rw [putsA_low ys (o + 1) _ x (by omega), Array.getElem?_setIfInBounds_ne (by omega)]
theorem putsA_in : ∀ (ys : List Value) (o : Nat) (cs : Array Value) (m : Nat), m < ys.length → o + ys.length ≤ cs.size → (putsA o ys cs)[o + m]? = ys[m]?
  | [], _, _, _, h, _ => absurd h (by simp)
  | y :: ys, o, cs, m, h, hl => by
    simp only [List.length_cons] at h hl
    unfold putsA
    cases m with
    | zero =>
      show (putsA (o + 1) ys (cs.setIfInBounds o y))[o]? = some y
      rw [putsA_low ys (o + 1) _ o (by omega), Array.getElem?_setIfInBounds_self_of_lt (by omega)]
    | succ m =>
      rw [show o + (m + 1) = o + 1 + m by omega, putsA_in ys (o + 1) _ m (by omega) (by simp; omega)]
      rfl
theorem puts_row : ∀ (ys : List Value) {W : World} {B : Nat} {T : TypeId} {cs : Array Value} (o : Nat), RowAt W B T cs → RowAt (puts B o ys W) B T (putsA o ys cs)
  | [], _, _, _, _, _, h => h
  | _ :: ys, _, _, _, _, o, h => puts_row ys (o + 1) (h.set o _)
theorem puts_heap : ∀ (ys : List Value) (W : World) (B o k : Nat), k ≠ B → (puts B o ys W).heap[k]? = W.heap[k]?
  | [], _, _, _, _, _ => rfl
  | y :: ys, W, B, o, k, h => (puts_heap ys _ B (o + 1) k h).trans (heap_setCell_other W ⟨B, o, none⟩ k y h)
theorem puts_size : ∀ (ys : List Value) (W : World) (B o : Nat), (puts B o ys W).heap.size = W.heap.size
  | [], _, _, _ => rfl
  | y :: ys, W, B, o => (puts_size ys _ B (o + 1)).trans (by simp)
theorem puts_below {C B : Nat} {w : World} (hC : C ≤ B) : ∀ (ys : List Value) {W : World} (o : Nat), Below C w W → Below C w (puts B o ys W)
  | [], _, _, h => h
  | _ :: ys, _, o, h => puts_below hC ys (o + 1) (h.setCell hC _)
theorem puts_rd {L B : Nat} (hB : B < L) (ys : List Value) (o : Nat) {W : World} {x : Value} {d : Dat} (h : Rd W L x d) : Rd (puts B o ys W) L x d :=
  h.keep (by rw [puts_size]; exact Nat.le_refl _) fun g hg _ => puts_heap ys W B o g (by omega)

/-- block B holds n elements of k cells; the first i of them read as f tells, through blocks behind B -/
def Fill (w : World) (B : Nat) (T : TypeId) (n k : Nat) (f : Nat → Nat → Dat) (i : Nat) : Prop :=
  ∃ cs : Array Value, RowAt w B T cs ∧ cs.size = n * k ∧ ∀ j, j < i → ∀ m, m < k → ∃ y, cs[j * k + m]? = some y ∧ Rd w (B + 1) y (f j m)
theorem Fill.later {w w' : World} {B : Nat} {T : TypeId} {n k i : Nat} {f : Nat → Nat → Dat} (h : Fill w B T n k f i) (g : Below w.heap.size w w') : Fill w' B T n k f i := by
  obtain ⟨cs, h1, h2, h3⟩ := h
  refine ⟨cs, h1.later g, h2, fun j hj m hm => ?_⟩
  obtain ⟨y, hy, hr⟩ := h3 j hj m hm
  exact ⟨y, hy, hr.later g⟩
theorem Fill.new (w : World) (T : TypeId) (n k : Nat) (f : Nat → Nat → Dat) (cs : Array Value) (h : cs.size = n * k) : Fill (w.alloc (.cells cs T)) w.heap.size T n k f 0 :=
  ⟨cs, RowAt.new w T cs, h, fun j hj => absurd hj (Nat.not_lt_zero j)⟩
/-- a cell of an element is there, and may be written -/
theorem Fill.at {w : World} {B : Nat} {T : TypeId} {n k i j m : Nat} {f : Nat → Nat → Dat} (h : Fill w B T n k f i) (hj : j < n) (hm : m < k) :
    ∃ u, w.cell? ⟨B, j * k + m, none⟩ = some u ∧ w.frozen? ⟨B, j * k + m, none⟩ = false := by
  obtain ⟨cs, h1, h2, _⟩ := h
  have hlt : j * k + m < cs.size := by
    rw [h2]
    have : (j + 1) * k ≤ n * k := Nat.mul_le_mul_right k hj
    rw [Nat.add_mul, Nat.one_mul] at this
    omega
  exact ⟨cs[j * k + m], h1.cell (Array.getElem?_eq_getElem hlt), h1.soft _⟩
/-- one more element -/
theorem Fill.step {w : World} {B : Nat} {T : TypeId} {n k i : Nat} {f : Nat → Nat → Dat} (h : Fill w B T n k f i) (hi : i < n) (ys : List Value) (hl : ys.length = k)
    (hy : ∀ m, m < k → ∃ y, ys[m]? = some y ∧ Rd w (B + 1) y (f i m)) : Fill (puts B (i * k) ys w) B T n k f (i + 1) := by
  obtain ⟨cs, h1, h2, h3⟩ := h
  have hle : i * k + ys.length ≤ cs.size := by
    rw [h2, hl]
    have : (i + 1) * k ≤ n * k := Nat.mul_le_mul_right k hi
    rw [Nat.add_mul, Nat.one_mul] at this
    exact this
  refine ⟨putsA (i * k) ys cs, puts_row ys _ h1, by rw [putsA_size, h2], fun j hj m hm => ?_⟩
  by_cases e : j = i
  · subst e
    obtain ⟨y, hy1, hy2⟩ := hy m hm
    exact ⟨y, by rw [putsA_in ys _ cs m (by omega) hle]; exact hy1, puts_rd (Nat.lt_succ_self B) ys _ hy2⟩
  · obtain ⟨y, hy1, hy2⟩ := h3 j (by omega) m hm
    have hlo : j * k + m < i * k := by
      have : (j + 1) * k ≤ i * k := Nat.mul_le_mul_right k (by omega)
      rw [Nat.add_mul, Nat.one_mul] at this
      omega
    exact ⟨y, by rw [putsA_low ys _ cs _ hlo]; exact hy1, puts_rd (Nat.lt_succ_self B) ys _ hy2⟩
theorem Fill.rd {w : World} {B : Nat} {T : TypeId} {n k : Nat} {f : Nat → Nat → Dat} (h : Fill w B T n k f n) : Rd w B (.slice (some ⟨B, 0, none⟩) n n) (.sl n k f) := by
  obtain ⟨cs, h1, h2, h3⟩ := h
  refine ⟨_, n, rfl, Nat.le_refl _, (fun h => by cases h), .inr ⟨B, 0, rfl, Nat.le_refl _, h1.lt, fun i hi j hj => ?_⟩⟩
  obtain ⟨y, hy, hr⟩ := h3 i hi j hj
  exact ⟨y, by rw [Nat.zero_add]; exact h1.cell hy, hr.low (Nat.le_succ B)⟩
end Go.Proofs.Ytfmgkinindkedaa

/- A slice of bytes that the call owns, and what an append of one byte does to it. Over any program. -/
namespace Go.Proofs.Ytfmgkinindkedaa
open Go.RowKit

/-- a list of bytes as cells -/
def cellsOf (l : List UInt8) : List Value := l.map fun b => .int .u8 (b.toNat : Int)
theorem cellsOf_snoc (l : List UInt8) (b : UInt8) : cellsOf (l ++ [b]) = cellsOf l ++ [.int .u8 (b.toNat : Int)] := by simp [cellsOf]
theorem cellsOf_len (l : List UInt8) : (cellsOf l).length = l.length := by simp [cellsOf]
/-- the slice value v of the call's own, its element type numbered e, holds the bytes l -/
def OwnB (e : TypeId) (w : World) (B : Nat) (v : Value) (l : List UInt8) : Prop := w.ownsRow B e 1 v l.length (cellsOf l)

theorem OwnB.nil (e : TypeId) (w : World) (B : Nat) : OwnB e w B (.slice none 0 0) [] := World.ownsRow_nil _ _ _ _

theorem appB {P : Program} {ops : Array Oper} {rest : List Oper} {o : Oper} {a : Act} {Q : Exit → Act → World → Prop} {t e : TypeId} {i : TypeInfo}
    (ht : P.underlying t = some (.slice e)) (hi : P.info? e = some i) (hz : i.zero = some (.int .u8 0)) (hsize : i.size = 1) (hby : i.bytes = 1)
    (hgd : o.guard = none) (s x : Operand) (ho : o.op = .call { callee := .builtin .append, args := #[s, x], argTypes := #[t, t] })
    (B : Nat) (v : Value) (l : List UInt8) (b : UInt8) (n : Int) (W : World) (hs : a.eval s = v) (hx : a.eval x = .slice (some ⟨W.heap.size, 0, none⟩) 1 1)
    (hown : OwnB e W B v l) (hn : n = (b.toNat : Int)) (hl : l.length ≤ 4398046511104) (hB : B ≤ W.heap.size)
    (h : ∀ (g cap : Nat) (w' : World), OwnB e w' B (.slice (some ⟨g, 0, none⟩) (l.length + 1) cap) (l ++ [b]) → Below B W w' → wpList P ops Q rest (a.put o.dst (.slice (some ⟨g, 0, none⟩) (l.length + 1) cap)) w') :
    wpList P ops Q (o :: rest) a (W.alloc (.cells #[.int .u8 n] e)) := by
  subst hn
  refine wpList_append_own _ hgd s x t ho B e i (.int .u8 0) 1 1 ht hi hz hsize hby rfl (by decide) v l.length (cellsOf l) hs (World.ownsRow.alloc hown _) ⟨W.heap.size, 0, none⟩ 1 1 [.int .u8 (b.toNat : Int)] hx rfl (cell_one_new _ _ _) (fun u hu => by simp at hu; subst hu; rfl) (by unfold maxLen; omega) (by omega) (by simp; omega) ?_
  intro v' w' hown' hgrow hnil
  have hb : Below B W w' := ((Below.refl B W).alloc hB _).grown hgrow (by simp; omega) (fun q hq => (World.ownsRow.lt hown q hq).1)
  obtain ⟨g, cap, rfl⟩ : ∃ g cap, v' = .slice (some ⟨g, 0, none⟩) (l.length + 1) cap := by
    rcases hown'.2 with ⟨_, h0⟩ | ⟨g, cap, _, h0, _⟩
    · omega
    · exact ⟨g, cap, h0⟩
  exact h g cap w' (by unfold OwnB; rw [cellsOf_snoc, List.length_append]; exact hown') hb

/-- such a slice as a string -/
theorem OwnB.string {P : Program} {e src dst : TypeId} {w : World} {B g cap n : Nat} {l : List UInt8} (h : OwnB e w B (.slice (some ⟨g, 0, none⟩) n cap) l) (hn : n = l.length)
    (hs : P.underlying src = some (.slice e)) (he : P.underlying e = some (.int .u8)) (hd : P.underlying dst = some .string) :
    (convert src dst (.slice (some ⟨g, 0, none⟩) n cap)).run P w = .ok (.string ⟨l.toArray⟩) w := by
  subst hn
  exact run_convert_bytes_back w src dst e ⟨g, 0, none⟩ cap l hs he hd fun j hj => by
    have := World.ownsRow.cellAt h j (by omega)
    have hp : (⟨g, 0, none⟩ : Addr).add j = ⟨g, j, none⟩ := by unfold Addr.add; split <;> simp_all
    rw [hp, this, cellsOf]
    simp [hj]

/-- a new slice of one byte as a string -/
theorem conv_one {P : Program} {src dst e : TypeId} (w : World) (b : UInt8) (n : Int) (hn : n = (b.toNat : Int)) (hs : P.underlying src = some (.slice e)) (he : P.underlying e = some (.int .u8)) (hd : P.underlying dst = some .string) :
    (convert src dst (.slice (some ⟨w.heap.size, 0, none⟩) 1 1)).run P (w.alloc (.cells #[.int .u8 n] e)) = .ok (.string ⟨#[b]⟩) (w.alloc (.cells #[.int .u8 n] e)) := by
  subst hn
  have h := run_convert_bytes_back (P := P) (w.alloc (.cells #[.int .u8 (b.toNat : Int)] e)) src dst e ⟨w.heap.size, 0, none⟩ 1 [b] hs he hd (fun j hj => cell_one_new w _ _ j _ (by simp at hj; subst hj; rfl))
  exact h

/-- a new slice of two bytes as a string -/
theorem conv_two {P : Program} {src dst e : TypeId} (w : World) (b c : UInt8) (n m : Int) (hn : n = (b.toNat : Int)) (hm : m = (c.toNat : Int)) (hs : P.underlying src = some (.slice e)) (he : P.underlying e = some (.int .u8)) (hd : P.underlying dst = some .string) :
    (convert src dst (.slice (some ⟨w.heap.size, 0, none⟩) 2 2)).run P (w.alloc (.cells #[.int .u8 n, .int .u8 m] e)) = .ok (.string ⟨#[b, c]⟩) (w.alloc (.cells #[.int .u8 n, .int .u8 m] e)) := by
  subst hn hm
  have h := run_convert_bytes_back (P := P) (w.alloc (.cells #[.int .u8 (b.toNat : Int), .int .u8 (c.toNat : Int)] e)) src dst e ⟨w.heap.size, 0, none⟩ 2 [b, c] hs he hd (fun j hj => by
    have hp : (⟨w.heap.size, 0, none⟩ : Addr).add j = ⟨w.heap.size, j, none⟩ := by unfold Addr.add; split <;> simp_all
    rw [hp, cell_of_row _ w.heap.size j _ e (0, 0) (heap_alloc_new w _)]
    rcases (show j = 0 ∨ j = 1 by simp at hj; omega) with rfl | rfl <;> rfl)
  exact h
/-- a string comes back; nothing that was there has turned -/
def StrE (l : List UInt8) (w : World) (e : Ending) (w' : World) : Prop := e = .returned (.string ⟨l.toArray⟩) ∧ Below w.heap.size w w'
theorem ret_ba' {a : ByteArray} {l : List UInt8} (h : l = a.data.toList) : Ending.returned (.string a) = .returned (.string ⟨l.toArray⟩) := by rw [h]
end Go.Proofs.Ytfmgkinindkedaa

/- Contracts of the small tests on bytes and lengths, program and model. They write nothing. -/
namespace Go.Proofs.Ytfmgkinindkedaa
open Go.RowKit

/-- that value comes back, the world is as it was -/
def PureE (v : Value) (w : World) (e : Ending) (w' : World) : Prop := e = .returned v ∧ w' = w
theorem pure_bool {a b : Bool} {w : World} (h : a = b) : PureE (.bool b) w (.returned (.bool a)) w := by subst h; exact ⟨rfl, rfl⟩
/-- a number comes back; nothing that was there has turned -/
def IntE (n : Int) (w : World) (e : Ending) (w' : World) : Prop := e = .returned (.int .i64 n) ∧ Below w.heap.size w w'
/-- a bool comes back; nothing that was there has turned -/
def BoolE (b : Bool) (w : World) (e : Ending) (w' : World) : Prop := e = .returned (.bool b) ∧ Below w.heap.size w w'

/-- a digit -/
def dg (n : Int) : Bool := decide (48 ≤ n) && decide (n ≤ 57)
/-- a letter -/
def ltr (n : Int) : Bool := decide (65 ≤ n) && decide (n ≤ 90) || decide (97 ≤ n) && decide (n ≤ 122)
/-- a letter, a digit or an underscore -/
def wd (n : Int) : Bool := ltr n || dg n || n == 95
theorem in_any (a lo hi : Int) (b : Bool) (w : World) (hb : b = decide (lo ≤ a ∧ a ≤ hi)) : Calls Try.prog 62 #[.int .i64 a, .int .i64 lo, .int .i64 hi] w (PureE (.bool b) w) := by
  subst hb
  by_cases h1 : lo ≤ a
  · have hd : decide (lo ≤ a) = true := by simpa using h1
    by_cases h2 : a ≤ hi
    · have hd2 : decide (a ≤ hi) = true := by simpa using h2
      go_enter Try.func62, Try.ntmps62
      go_wp2
      go_ret
      exact pure_bool (by first | rfl | (rw [Bool.decide_and, hd, hd2] <;> rfl))
    · have hd2 : decide (a ≤ hi) = false := by simpa using h2
      go_enter Try.func62, Try.ntmps62
      go_wp2
      go_ret
      exact pure_bool (by first | rfl | (rw [Bool.decide_and, hd, hd2] <;> rfl))
  · have hd : decide (lo ≤ a) = false := by simpa using h1
    go_enter Try.func62, Try.ntmps62
    go_wp2
    go_ret
    exact pure_bool (by first | rfl | (rw [Bool.decide_and, hd] <;> rfl))
end Go.Proofs.Ytfmgkinindkedaa
