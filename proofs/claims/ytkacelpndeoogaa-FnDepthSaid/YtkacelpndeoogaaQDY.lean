/- Joined texts: Marks DepthL. -/
import Derived.Test.YtkacelpndeoogaaQDX
import Derived.Test.YtkacelpndeoogaaQDB
import Derived.Test.YtkacelpndeoogaaQDW
/- Marks on data that may be written: leaves alone are turned, each into one of its kind. -/
namespace Go.Proofs.Ytkacelpndeoogaa
open Go.RowKit

/-- the same, or two leaves of one kind -/
inductive LeafEq : Value → Value → Prop
  | same (v : Value) : LeafEq v v
  | int (k : IntKind) (a b : Int) : LeafEq (.int k a) (.int k b)
  | bool (a b : Bool) : LeafEq (.bool a) (.bool b)
  | str (a b : ByteArray) : LeafEq (.string a) (.string b)
theorem LeafEq.trans {a b c : Value} (h : LeafEq a b) (k : LeafEq b c) : LeafEq a c := by
  cases h with
  | same => exact k
  | int i x y => cases k with
    | same => exact .int i x y
    | int _ _ z => exact .int i x z
  | bool x y => cases k with
    | same => exact .bool x y
    | bool _ z => exact .bool x z
  | str x y => cases k with
    | same => exact .str x y
    | str _ z => exact .str x z
theorem LeafEq.slice {a : Option Addr} {n c : Nat} {v : Value} (h : LeafEq (.slice a n c) v) : v = .slice a n c := by cases h; rfl
theorem LeafEq.ints {k : IntKind} {a : Int} {v : Value} (h : LeafEq (.int k a) v) : ∃ b, v = .int k b := by cases h with
  | same => exact ⟨a, rfl⟩
  | int _ _ b => exact ⟨b, rfl⟩
theorem LeafEq.bools {a : Bool} {v : Value} (h : LeafEq (.bool a) v) : ∃ b, v = .bool b := by cases h with
  | same => exact ⟨a, rfl⟩
  | bool _ b => exact ⟨b, rfl⟩
theorem LeafEq.strs {a : ByteArray} {v : Value} (h : LeafEq (.string a) v) : ∃ b, v = .string b := by cases h with
  | same => exact ⟨a, rfl⟩
  | str _ b => exact ⟨b, rfl⟩
/-- w is w0 later on, but for leaves in blocks from L on -/
structure Since (L : Nat) (w0 w : World) : Prop where
  size : w0.heap.size ≤ w.heap.size
  cell : ∀ g o v, L ≤ g → g < w0.heap.size → w0.cell? ⟨g, o, none⟩ = some v → ∃ v', w.cell? ⟨g, o, none⟩ = some v' ∧ LeafEq v v'
  soft : ∀ g o, L ≤ g → g < w0.heap.size → w.frozen? ⟨g, o, none⟩ = w0.frozen? ⟨g, o, none⟩
/-- leaves in the blocks from L to H are turned, and memory may come -/
structure Marks (L H : Nat) (w w' : World) : Prop where
  os : w'.os = w.os
  tape : w'.tape = w.tape
  output : w'.output = w.output
  size : w.heap.size ≤ w'.heap.size
  blk : ∀ k, k < w.heap.size → (k < L ∨ H ≤ k) → w'.heap[k]? = w.heap[k]?
  cell : ∀ g o v, L ≤ g → g < H → w.cell? ⟨g, o, none⟩ = some v → ∃ v', w'.cell? ⟨g, o, none⟩ = some v' ∧ LeafEq v v'
  soft : ∀ g o, L ≤ g → g < H → w'.frozen? ⟨g, o, none⟩ = w.frozen? ⟨g, o, none⟩
theorem Since.refl (L : Nat) (w : World) : Since L w w := ⟨Nat.le_refl _, fun _ _ v _ _ h => ⟨v, h, .same v⟩, fun _ _ _ _ => rfl⟩
theorem Marks.refl (L H : Nat) (w : World) : Marks L H w w := ⟨rfl, rfl, rfl, Nat.le_refl _, fun _ _ _ => rfl, fun _ _ v _ _ h => ⟨v, h, .same v⟩, fun _ _ _ _ => rfl⟩
theorem Marks.trans {L H : Nat} {a b c : World} (h : Marks L H a b) (k : Marks L H b c) : Marks L H a c :=
  ⟨k.os.trans h.os, k.tape.trans h.tape, k.output.trans h.output, Nat.le_trans h.size k.size, fun i hi hk => (k.blk i (Nat.lt_of_lt_of_le hi h.size) hk).trans (h.blk i hi hk), fun g o v h1 h2 hv => by
    obtain ⟨v1, e1, l1⟩ := h.cell g o v h1 h2 hv
    obtain ⟨v2, e2, l2⟩ := k.cell g o v1 h1 h2 e1
    exact ⟨v2, e2, l1.trans l2⟩, fun g o h1 h2 => (k.soft g o h1 h2).trans (h.soft g o h1 h2)⟩
theorem Marks.below {L H B : Nat} {w w' : World} (h : Below B w w') (hB : w.heap.size ≤ B) (hH : H ≤ w.heap.size) : Marks L H w w' :=
  ⟨h.os, h.tape, h.output, h.size, fun k hk _ => h.block k (by omega), fun g o v _ h2 hv => ⟨v, (World.cell?_of_block (w := w) (a := ⟨g, o, none⟩) (h.block g (by omega))).trans hv, .same v⟩, fun g o _ h2 => World.frozen?_of_block (w := w) (a := ⟨g, o, none⟩) (h.block g (by omega))⟩
theorem Marks.set {L H g o : Nat} {w : World} {v u : Value} (hL : L ≤ g) (hH : g < H) (hv : w.cell? ⟨g, o, none⟩ = some v) (hu : LeafEq v u) : Marks L H w (w.setCell ⟨g, o, none⟩ u) :=
  ⟨rfl, rfl, rfl, by simp, fun k _ hk => heap_setCell_other w ⟨g, o, none⟩ k u (by show k ≠ g; omega), fun g' o' v' _ _ hv' => by
    by_cases e : (⟨g, o, none⟩ : Addr) = ⟨g', o', none⟩
    · rw [← e] at hv' ⊢
      rw [hv] at hv'
      injection hv' with hv'
      subst hv'
      exact ⟨u, World.cell?_setCell_same w ⟨g, o, none⟩ u hv, hu⟩
    · exact ⟨v', (World.cell?_setCell_other w _ _ _ e).trans hv', .same v'⟩, fun _ _ _ _ => by simp⟩
theorem Since.marks {L : Nat} {w0 w w' : World} (h : Since L w0 w) (k : Marks L w0.heap.size w w') : Since L w0 w' :=
  ⟨Nat.le_trans h.size k.size, fun g o v h1 h2 hv => by
    obtain ⟨v1, e1, l1⟩ := h.cell g o v h1 h2 hv
    obtain ⟨v2, e2, l2⟩ := k.cell g o v1 h1 h2 e1
    exact ⟨v2, e2, l1.trans l2⟩, fun g o h1 h2 => (k.soft g o h1 h2).trans (h.soft g o h1 h2)⟩
theorem Since.below {L : Nat} {w0 w : World} (h : Below w0.heap.size w0 w) : Since L w0 w := (Since.refl L w0).marks (Marks.below h (Nat.le_refl _) (Nat.le_refl _))
/-- a cell that may be marked by leaves of one kind -/
def LeafAt (L : Nat) (w0 : World) (g o : Nat) (ty : Ty) : Prop := ∀ X, Since L w0 X → X.frozen? ⟨g, o, none⟩ = false ∧ ∃ v, X.cell? ⟨g, o, none⟩ = some v ∧
  match ty with
  | .int => ∀ u, LeafEq v (.int .i64 u)
  | .bool => ∀ u, LeafEq v (.bool u)
  | .str => ∀ u, LeafEq v (.string u)
  | _ => True
theorem LeafAt.of {L : Nat} {w0 : World} {g o : Nat} {ty : Ty} {y : Value} {d : Dat} (h1 : L ≤ g) (h2 : g < w0.heap.size) (hz : w0.frozen? ⟨g, o, none⟩ = false) (hy : w0.cell? ⟨g, o, none⟩ = some y) (hr : Rs w0 L y d) (hf : Fits d ty) : LeafAt L w0 g o ty := fun X hX => by
  obtain ⟨v, hv, hl⟩ := hX.cell g o y h1 h2 hy
  refine ⟨(hX.soft g o h1 h2).trans hz, v, hv, ?_⟩
  cases ty
  case int =>
    obtain ⟨n, rfl, _⟩ := hf.int
    obtain rfl : y = .int .i64 n := hr
    obtain ⟨b, rfl⟩ := hl.ints
    exact fun u => .int _ _ _
  case bool =>
    obtain ⟨n, rfl⟩ := hf.bool
    obtain rfl : y = .bool n := hr
    obtain ⟨b, rfl⟩ := hl.bools
    exact fun u => .bool _ _
  case str =>
    obtain ⟨n, rfl, _⟩ := hf.str
    obtain rfl : y = .string n := hr
    obtain ⟨b, rfl⟩ := hl.strs
    exact fun u => .str _ _
  all_goals trivial
theorem LeafAt.int {L : Nat} {w0 X : World} {g o : Nat} (h : LeafAt L w0 g o .int) (hX : Since L w0 X) (h1 : L ≤ g) (h2 : g < w0.heap.size) (u : Int) : Marks L w0.heap.size X (X.setCell ⟨g, o, none⟩ (.int .i64 u)) := by
  obtain ⟨_, v, hv, hl⟩ := h X hX
  exact Marks.set h1 h2 hv (hl u)
theorem LeafAt.bool {L : Nat} {w0 X : World} {g o : Nat} (h : LeafAt L w0 g o .bool) (hX : Since L w0 X) (h1 : L ≤ g) (h2 : g < w0.heap.size) (u : Bool) : Marks L w0.heap.size X (X.setCell ⟨g, o, none⟩ (.bool u)) := by
  obtain ⟨_, v, hv, hl⟩ := h X hX
  exact Marks.set h1 h2 hv (hl u)
theorem LeafAt.str {L : Nat} {w0 X : World} {g o : Nat} (h : LeafAt L w0 g o .str) (hX : Since L w0 X) (h1 : L ≤ g) (h2 : g < w0.heap.size) (u : ByteArray) : Marks L w0.heap.size X (X.setCell ⟨g, o, none⟩ (.string u)) := by
  obtain ⟨_, v, hv, hl⟩ := h X hX
  exact Marks.set h1 h2 hv (hl u)
theorem LeafAt.pre_int {L : Nat} {w0 X Y : World} {g o : Nat} {u : Int} (h : LeafAt L w0 g o .int) (h1 : L ≤ g) (h2 : g < w0.heap.size) (hX : Since L w0 X) (k : Since L w0 (X.setCell ⟨g, o, none⟩ (.int .i64 u)) → Marks L w0.heap.size (X.setCell ⟨g, o, none⟩ (.int .i64 u)) Y) : Marks L w0.heap.size X Y :=
  (h.int hX h1 h2 u).trans (k (hX.marks (h.int hX h1 h2 u)))
theorem LeafAt.pre_bool {L : Nat} {w0 X Y : World} {g o : Nat} {u : Bool} (h : LeafAt L w0 g o .bool) (h1 : L ≤ g) (h2 : g < w0.heap.size) (hX : Since L w0 X) (k : Since L w0 (X.setCell ⟨g, o, none⟩ (.bool u)) → Marks L w0.heap.size (X.setCell ⟨g, o, none⟩ (.bool u)) Y) : Marks L w0.heap.size X Y :=
  (h.bool hX h1 h2 u).trans (k (hX.marks (h.bool hX h1 h2 u)))
theorem LeafAt.pre_str {L : Nat} {w0 X Y : World} {g o : Nat} {u : ByteArray} (h : LeafAt L w0 g o .str) (h1 : L ≤ g) (h2 : g < w0.heap.size) (hX : Since L w0 X) (k : Since L w0 (X.setCell ⟨g, o, none⟩ (.string u)) → Marks L w0.heap.size (X.setCell ⟨g, o, none⟩ (.string u)) Y) : Marks L w0.heap.size X Y :=
  (h.str hX h1 h2 u).trans (k (hX.marks (h.str hX h1 h2 u)))
/-- an element -/
theorem Rs.row {w0 : World} {L n k m : Nat} {f : Nat → Nat → Dat} {a : Option Addr} {cap : Nat} (h : Rs w0 L (.slice a m cap) (.sl n k f)) {i : Nat} (hi : i < n) :
    ∃ (g o : Nat), a = some ⟨g, o, none⟩ ∧ L ≤ g ∧ g < w0.heap.size ∧ ∀ j, j < k → w0.frozen? ⟨g, o + i * k + j, none⟩ = false ∧ ∃ y, w0.cell? ⟨g, o + i * k + j, none⟩ = some y ∧ Rs w0 L y (f i j) := by
  obtain ⟨a', cap', e, _, _, h⟩ := h
  injection e with e1 e2 e3
  subst e1; subst e2; subst e3
  rcases h with h | ⟨g, o, ea, hL, hg, hc⟩
  · omega
  · exact ⟨g, o, ea, hL, hg, fun j hj => hc i hi j hj⟩
/-- a cell that holds a slice -/
theorem Since.sliceAt {L : Nat} {w0 X : World} (hX : Since L w0 X) {g o : Nat} {y : Value} {d : Dat} {ty : Ty} (h1 : L ≤ g) (h2 : g < w0.heap.size) (hy : w0.cell? ⟨g, o, none⟩ = some y) (hr : Rs w0 L y d) (hf : Fits d ty) (hd : deep ty = true) : X.cell? ⟨g, o, none⟩ = some y := by
  obtain ⟨v, hv, hl⟩ := hX.cell g o y h1 h2 hy
  obtain ⟨a, n, c, rfl⟩ := hr.slice_of hf hd
  rw [hl.slice] at hv
  exact hv
theorem msr_next (j k : Nat) (f : Nat → Nat → Dat) : msr (.sl (j + 1) k f) = msr (.sl j k f) + (1 + ((List.range k).map fun m => msr (f j m)).sum) := by
  rw [msr, msr, List.range_succ, List.map_append, List.sum_append]
  simp only [List.map_cons, List.map_nil, List.sum_cons, List.sum_nil]
  omega
theorem msr_mono (k : Nat) (f : Nat → Nat → Dat) {j n : Nat} (h : j ≤ n) : msr (.sl j k f) ≤ msr (.sl n k f) := by
  induction n with
  | zero => obtain rfl : j = 0 := by omega
            exact Nat.le_refl _
  | succ n ih =>
    by_cases e : j = n + 1
    · subst e; exact Nat.le_refl _
    · have := ih (by omega)
      rw [msr_next]
      omega
theorem markText_int (x : Int) (w : World) (h0 : 0 < x) (h1 : x ≤ 9223372036854775807) :
    Calls Try.prog 79 #[.int .i64 x] w fun e w' => ∃ s : ByteArray, e = .returned (.string s) ∧ Below w.heap.size w w' := by
  obtain ⟨m, rfl⟩ := Int.eq_ofNat_of_zero_le (show 0 ≤ x by omega)
  exact (markText_any m w (by omega) (by omega)).mono fun e w' h => ⟨_, h⟩
/-- what the marks leave: the next number -/
def MarkE (k0 : Int) (N L H : Nat) (w : World) (e : Ending) (w' : World) : Prop := ∃ k : Int, k0 ≤ k ∧ k ≤ k0 + 13 * (N : Int) ∧ e = .returned (.int .i64 k) ∧ Marks L H w w'
def MarkP (F : Nat) (d : Dat) (ty : Ty) : Prop := ∀ (L : Nat) (w0 w : World) (x : Value) (k : Int), Rs w0 L x d → Fits d ty → Since L w0 w → 1 ≤ k → k + 13 * (msr d : Int) ≤ 4000000000 → Calls Try.prog F #[x, .int .i64 k] w (MarkE k (msr d) L w0.heap.size w)
def markFn : Ty → Nat
  | .exprs => 35
  | .items => 143
  | .sources => 144
  | .keys => 145
  | .queries => 80
  | _ => 0
def MarkAll (d : Dat) : Prop := ∀ ty, tree ty = true → MarkP (markFn ty) d ty
end Go.Proofs.Ytkacelpndeoogaa

/- The walk of the law FnDepth. -/
namespace Go.Proofs.Ytkacelpndeoogaa
open Go.RowKit

set_option maxRecDepth 100000 in
theorem low_any (a b : Int) (w : World) : Calls Try.prog 11 #[.int .i64 a, .int .i64 b] w (PureE (.int .i64 (if a < b then a else b)) w) := by
  go_enter Try.func11, Try.ntmps11
  by_cases h : a < b
  · have hd : decide (a < b) = true := decide_eq_true h
    rw [if_pos h]
    go_wp2_with fail
    go_ret
    exact ⟨rfl, rfl⟩
  · have hd : decide (a < b) = false := decide_eq_false h
    rw [if_neg h]
    go_wp2_with fail
    go_ret
    exact ⟨rfl, rfl⟩
theorem low_max (d k m : Nat) (h : m = max d k) (w : World) : Calls Try.prog 11 #[.int .i64 (-(d : Int)), .int .i64 (-(k : Int))] w (PureE (.int .i64 (-(m : Int))) w) := by
  have e : (if -(d : Int) < -(k : Int) then -(d : Int) else -(k : Int)) = -(m : Int) := by split <;> omega
  have hl := low_any (-(d : Int)) (-(k : Int)) w
  rw [e] at hl
  exact hl
/-- the deepest of the first, and all of them together -/
def dUp (g : Nat → Nat) (j : Nat) : Nat := depA.of ((List.range j).map g)
def sUp (g : Nat → Nat) (j : Nat) : Nat := sizA.of ((List.range j).map g)
theorem dUp_succ (g : Nat → Nat) (j : Nat) : dUp g (j + 1) = max (dUp g j) (g j) := by
  unfold dUp; rw [List.range_succ, List.map_append]; exact depA.of_snoc _ _
theorem sUp_succ (g : Nat → Nat) (j : Nat) : sUp g (j + 1) = sUp g j + g j := by
  unfold sUp; rw [List.range_succ, List.map_append]; exact sizA.of_snoc _ _
theorem sUp_mono (g : Nat → Nat) {j n : Nat} (h : j ≤ n) : sUp g j ≤ sUp g n := by
  induction n with
  | zero => obtain rfl : j = 0 := by omega
            exact Nat.le_refl _
  | succ n ih =>
    by_cases e : j = n + 1
    · rw [e]; exact Nat.le_refl _
    · have := ih (by omega)
      rw [sUp_succ]; omega
theorem dUp_le {g h : Nat → Nat} (hg : ∀ i, g i ≤ h i) : ∀ j, dUp g j ≤ sUp h j
  | 0 => Nat.le_refl _
  | j + 1 => by
    have := dUp_le hg j
    have := hg j
    rw [dUp_succ, sUp_succ]; omega
theorem kid_msr {n : Nat} {f : Nat → Nat → Dat} {j : Nat} (h : j < n) : msr (f j 8) + msr (f j 9) ≤ msr (.sl n 10 f) := by
  have h1 := msr_mono 10 f (show j + 1 ≤ n from h)
  have hx : msr (.sl j 10 f) + (1 + (msr (f j 8) + msr (f j 9))) ≤ msr (.sl (j + 1) 10 f) := by rw [msr_next]; simp [List.range_succ]; omega
  omega
theorem sub_msr {n : Nat} {f : Nat → Nat → Dat} {j : Nat} (h : j < n) : msr (f j 1) + msr (f j 2) + msr (f j 3) + msr (f j 4) ≤ msr (.sl n 6 f) := by
  have h1 := msr_mono 6 f (show j + 1 ≤ n from h)
  have hx : msr (.sl j 6 f) + (1 + (msr (f j 1) + msr (f j 2) + msr (f j 3) + msr (f j 4))) ≤ msr (.sl (j + 1) 6 f) := by rw [msr_next]; simp [List.range_succ]; omega
  omega
set_option maxRecDepth 100000 in
set_option maxHeartbeats 16000000 in
theorem depth_law (a : Option Addr) (len cap : Nat) (w : World) (hrow : RowB w.heap.size a len w) :
    Calls Try.prog 3 #[.slice a len cap] w (BoolE true w) := by
  have hlen := hrow.1
  by_cases hbig : 1048576 < len
  · go_enter Try.func3, Try.ntmps3
    go_wp2_with fail
    refine (big_yes a len cap _ hlen hbig).mono ?_
    rintro e w' ⟨rfl, rfl⟩
    go_wp2_with fail
    go_ret
    exact ⟨rfl, Below.refl _ _⟩
  · go_enter Try.func3, Try.ntmps3
    go_wp2_with fail
    refine (big_no a len cap _ hbig).mono ?_
    rintro e w' ⟨rfl, rfl⟩
    go_wp2_with fail
    refine (drawDepthOf_any a len cap _ hrow).mono ?_
    rintro e w1 ⟨L, τ, ys, rfl, hy, hI, -, hb1⟩
    obtain ⟨c, hout, hm, -⟩ := tree_out hI hy
    clear hI hy hrow
    obtain ⟨c0, c1, c2, c3, c4, c5, c6, c7, a8, n8, p8, a9, n9, p9, rfl, ⟨-, b0⟩, ⟨-, b1⟩, -, ⟨-, b3⟩, ⟨-, b4⟩, ⟨-, b5⟩, ⟨-, b6⟩, ⟨-, b7⟩, ⟨r8, q8⟩, ⟨r9, q9⟩⟩ := hout.ten
    obtain ⟨f8, e8, r8, q8⟩ := r8.openS q8 rfl
    obtain ⟨f9, e9, r9, q9⟩ := r9.openS q9 rfl
    replace e8 : c 8 = .sl n8 10 f8 := e8
    replace e9 : c 9 = .sl n9 6 f9 := e9
    replace r8 : Rd w1 0 (.slice a8 n8 p8) (.sl n8 10 f8) := r8
    replace r9 : Rd w1 0 (.slice a9 n9 p9) (.sl n9 6 f9) := r9
    replace q8 : Fits (.sl n8 10 f8) .exprs := q8
    replace q9 : Fits (.sl n9 6 f9) .queries := q9
    clear hout
    have st1 := stE_new (w := w1) (ys := [.int .i64 c0, .int .i64 c1, .bool c2, .int .i64 c3, .int .i64 c4, .string c5, .string c6, .string c7, .slice a8 n8 p8, .slice a9 n9 p9]) rfl rfl
    have HB := RowAt.new w1 29 #[.int .i64 c0, .int .i64 c1, .bool c2, .int .i64 c3, .int .i64 c4, .string c5, .string c6, .string c7, .slice a8 n8 p8, .slice a9 n9 p9]
    have hb2 := (Below.refl w1.heap.size w1).alloc (Nat.le_refl _) (.cells #[.int .i64 c0, .int .i64 c1, .bool c2, .int .i64 c3, .int .i64 c4, .string c5, .string c6, .string c7, .slice a8 n8 p8, .slice a9 n9 p9] 29)
    have hbw : Below w.heap.size w (w1.alloc (.cells #[.int .i64 c0, .int .i64 c1, .bool c2, .int .i64 c3, .int .i64 c4, .string c5, .string c6, .string c7, .slice a8 n8 p8, .slice a9 n9 p9] 29)) := hb1.trans (hb2.mono hb1.size)
    replace r8 := r8.later hb2
    replace r9 := r9.later hb2
    rw [e8, e9] at hm
    have hD := fun v (u8 : Rd v 0 (.slice a8 n8 p8) (c 8)) (u9 : Rd v 0 (.slice a9 n9 p9) (c 9)) => DepthOf_impl c (by rw [e8, e9]; omega) (e8 ▸ q8) (e9 ▸ q9) c0 c1 c2 c3 c4 c5 c6 c7 (.slice a8 n8 p8) (.slice a9 n9 p9) v b0 b1 b3 b4 b5 b6 b7 u8 (e8 ▸ q8) u9 (e9 ▸ q9)
    have hS := fun v (u8 : Rd v 0 (.slice a8 n8 p8) (c 8)) (u9 : Rd v 0 (.slice a9 n9 p9) (c 9)) => SizeOf_impl c (by rw [e8, e9]; omega) (e8 ▸ q8) (e9 ▸ q9) c0 c1 c2 c3 c4 c5 c6 c7 (.slice a8 n8 p8) (.slice a9 n9 p9) v b0 b1 b3 b4 b5 b6 b7 u8 (e8 ▸ q8) u9 (e9 ▸ q9)
    have hDe : foldE depA c = max (dUp (fun i => foldE depA (f8 i)) n8) (dUp (fun i => foldQ depA (f9 i)) n9) + 1 := by
      show max (fold depA (c 8) .exprs) (fold depA (c 9) .queries) + 1 = _
      rw [e8, e9]; rfl
    have hSe : foldE sizA c = sUp (fun i => foldE sizA (f8 i)) n8 + sUp (fun i => foldQ sizA (f9 i)) n9 + 1 := by
      show fold sizA (c 8) .exprs + fold sizA (c 9) .queries + 1 = _
      rw [e8, e9]; rfl
    have s8 : sUp (fun i => foldE sizA (f8 i)) n8 ≤ msr (.sl n8 10 f8) := siz_le (.sl n8 10 f8) .exprs q8
    have s9 : sUp (fun i => foldQ sizA (f9 i)) n9 ≤ msr (.sl n9 6 f9) := siz_le (.sl n9 6 f9) .queries q9
    have hgt : foldE depA c ≤ foldE sizA c := depE_le c
    have hk8 : ∀ j, j ≤ n8 → dUp (fun i => foldE depA (f8 i)) j ≤ 600000 ∧ sUp (fun i => foldE sizA (f8 i)) j ≤ 600000 := fun j hj => by
      have h1 := dUp_le (g := fun i => foldE depA (f8 i)) (h := fun i => foldE sizA (f8 i)) (fun i => depE_le (f8 i)) j
      have h2 := sUp_mono (fun i => foldE sizA (f8 i)) hj
      omega
    have hk9 : ∀ j, j ≤ n9 → dUp (fun i => foldQ depA (f9 i)) j ≤ 600000 ∧ sUp (fun i => foldQ sizA (f9 i)) j ≤ 600000 := fun j hj => by
      have h1 := dUp_le (g := fun i => foldQ depA (f9 i)) (h := fun i => foldQ sizA (f9 i)) (fun i => depQ_le (f9 i)) j
      have h2 := sUp_mono (fun i => foldQ sizA (f9 i)) hj
      omega
    rw [← e8] at r8
    rw [← e9] at r9
    have ed8 : ∀ j, dUp (fun i => foldE depA (f8 i)) (j + 1) = max (dUp (fun i => foldE depA (f8 i)) j) (foldE depA (f8 j)) := fun j => dUp_succ _ j
    have es8 : ∀ j, sUp (fun i => foldE sizA (f8 i)) (j + 1) = sUp (fun i => foldE sizA (f8 i)) j + foldE sizA (f8 j) := fun j => sUp_succ _ j
    have ed9 : ∀ j, dUp (fun i => foldQ depA (f9 i)) (j + 1) = max (dUp (fun i => foldQ depA (f9 i)) j) (foldQ depA (f9 j)) := fun j => dUp_succ _ j
    have es9 : ∀ j, sUp (fun i => foldQ sizA (f9 i)) (j + 1) = sUp (fun i => foldQ sizA (f9 i)) j + foldQ sizA (f9 j) := fun j => sUp_succ _ j
    have z8 : dUp (fun i => foldE depA (f8 i)) 0 = 0 ∧ sUp (fun i => foldE sizA (f8 i)) 0 = 0 := ⟨rfl, rfl⟩
    have z9 : dUp (fun i => foldQ depA (f9 i)) 0 = 0 ∧ sUp (fun i => foldQ sizA (f9 i)) 0 = 0 := ⟨rfl, rfl⟩
    generalize dUp (fun i => foldE depA (f8 i)) = D8 at hDe hk8 ed8 z8
    generalize sUp (fun i => foldE sizA (f8 i)) = S8 at hSe hk8 es8 z8 s8
    generalize dUp (fun i => foldQ depA (f9 i)) = D9 at hDe hk9 ed9 z9
    generalize sUp (fun i => foldQ sizA (f9 i)) = S9 at hSe hk9 es9 z9 s9
    have hn8 : n8 ≤ 1048576 := by have := msr_n n8 10 f8; omega
    have hn9 : n9 ≤ 1048576 := by have := msr_n n9 6 f9; omega
    have hmsr8 : msr (.sl n8 10 f8) ≤ 1048576 := by omega
    have hmsr9 : msr (.sl n9 6 f9) ≤ 1048576 := by omega
    have HK8 := Lib.hid hk8
    have HK9 := Lib.hid hk9
    have HE := Lib.hid (And.intro hDe (And.intro hSe hgt))
    have HT := Lib.hid (And.intro (And.intro ed8 es8) (And.intro ed9 es9))
    have HZ := Lib.hid (And.intro z8 z9)
    have HR := Lib.hid (And.intro r8 r9)
    have HC := Lib.hid (And.intro e8 e9)
    clear hk8 hk9 hDe hSe hgt ed8 es8 ed9 es9 z8 z9 r8 r9 e8 e9 s8 s9 hm
    go_wp2_with fail
    clear st1
    generalize w1.alloc (.cells #[.int .i64 c0, .int .i64 c1, .bool c2, .int .i64 c3, .int .i64 c4, .string c5, .string c6, .string c7, .slice a8 n8 p8, .slice a9 n9 p9] 29) = W at HB hbw hb2 HR ⊢
    have hbx := HB.lt
    generalize w1.heap.size = b3 at HB hbx ⊢
    go_loopw [4, 5, 6] (fun d n i wr => ∃ j : Nat, j ≤ n8 ∧ i = .int .i64 (j : Int) ∧ d = .int .i64 ((D8 j : Nat) : Int) ∧ n = .int .i64 (((1 + S8 j : Nat)) : Int) ∧ Below W.heap.size W wr) (fun _ _ i _ => n8 - (intOf i).toNat)
    case atStart => exact ⟨0, Nat.zero_le _, rfl, by rw [HZ.out.1.1]; rfl, by rw [HZ.out.1.2]; rfl, Below.refl _ _⟩
    case round =>
      obtain ⟨j, hj, rfl, rfl, rfl, hbel⟩ := hrel
      have HB0 := HB
      replace HB := HB.later hbel
      have x8 := HB.cell (i := 8) (v := .slice a8 n8 p8) rfl
      by_cases hlt : j < n8
      · have hlt2 : decide ((j : Int) < (n8 : Int)) = true := by simp; omega
        have ⟨k1, k2⟩ := HK8.out j hj
        have ⟨k3, k4⟩ := HK8.out (j + 1) hlt
        have t1 := HT.out.1.1 j
        have t2 := HT.out.1.2 j
        obtain ⟨g, o, rfl, -, hg, y0, y1, y2, y3, y4, y5, y6, y7, y8, y9, ⟨z0, z1, z2, z3, z4, z5, z6, z7, z8, z9⟩, ⟨⟨-, d0⟩, ⟨-, d1⟩, -, ⟨-, d3⟩, ⟨-, d4⟩, ⟨-, d5⟩, ⟨-, d6⟩, ⟨-, d7⟩, ⟨s8, t8⟩, ⟨s9, t9⟩⟩⟩ := row_exprs ((HC.out.1 ▸ HR.out.1).later hbel) q8 hlt
        have hmk := kid_msr (f := f8) hlt
        have hDk := fun v u8 u9 => DepthOf_impl (f8 j) (by omega) t8 t9 y0 y1 y2 y3 y4 y5 y6 y7 y8 y9 v d0 d1 d3 d4 d5 d6 d7 u8 t8 u9 t9
        have hSk := fun v u8 u9 => SizeOf_impl (f8 j) (by omega) t8 t9 y0 y1 y2 y3 y4 y5 y6 y7 y8 y9 v d0 d1 d3 d4 d5 d6 d7 u8 t8 u9 t9
        have hl := fun v => low_max (D8 j) (foldE depA (f8 j)) (D8 (j + 1)) t1 v
        have hdk : foldE depA (f8 j) ≤ 600000 := by omega
        have hsk : foldE sizA (f8 j) ≤ 600000 := by omega
        generalize foldE depA (f8 j) = dk at hDk hl hdk
        generalize foldE sizA (f8 j) = sk at hSk t2 hsk
        have HT2 := Lib.hid t2
        clear t1 t2 d0 d1 d3 d4 d5 d6 d7
        go_wp2_with fail
        refine (hDk _ s8 s9).mono ?_
        rintro e v1 ⟨rfl, hv1⟩
        have Z0 := (hv1.cell (p := ⟨g, o + j * 10, none⟩) hg).trans z0
        have Z1 := (hv1.cell (p := ⟨g, o + j * 10 + 1, none⟩) hg).trans z1
        have Z2 := (hv1.cell (p := ⟨g, o + j * 10 + 2, none⟩) hg).trans z2
        have Z3 := (hv1.cell (p := ⟨g, o + j * 10 + 3, none⟩) hg).trans z3
        have Z4 := (hv1.cell (p := ⟨g, o + j * 10 + 4, none⟩) hg).trans z4
        have Z5 := (hv1.cell (p := ⟨g, o + j * 10 + 5, none⟩) hg).trans z5
        have Z6 := (hv1.cell (p := ⟨g, o + j * 10 + 6, none⟩) hg).trans z6
        have Z7 := (hv1.cell (p := ⟨g, o + j * 10 + 7, none⟩) hg).trans z7
        have Z8 := (hv1.cell (p := ⟨g, o + j * 10 + 8, none⟩) hg).trans z8
        have Z9 := (hv1.cell (p := ⟨g, o + j * 10 + 9, none⟩) hg).trans z9
        clear z0 z1 z2 z3 z4 z5 z6 z7 z8 z9 x8
        replace s8 := s8.later hv1
        replace s9 := s9.later hv1
        replace HB := HB.later hv1
        have x8 := HB.cell (i := 8) (v := .slice (some ⟨g, o, none⟩) n8 p8) rfl
        replace hbel := hbel.trans (hv1.mono hbel.size)
        go_wp2_with fail
        refine (hl _).mono ?_
        rintro e v2 ⟨rfl, rfl⟩
        go_wp2_with fail
        refine (hSk _ s8 s9).mono ?_
        rintro e v3 ⟨rfl, hv3⟩
        replace hbel := hbel.trans (hv3.mono hbel.size)
        go_wp2_with fail
        go_roundw
        case rel => exact ⟨j + 1, hlt, by go_num, by go_num, by rw [HT2.out]; go_num, hbel⟩
        case measure => simp [intOf]; omega
      · have hlt2 : decide ((j : Int) < (n8 : Int)) = false := by simp; omega
        obtain rfl : j = n8 := by omega
        have ⟨k1, k2⟩ := HK8.out j hj
        have hbel1 := hbel
        go_wp2_with fail
        go_loopw [4, 5, 7] (fun d n i wr => ∃ k : Nat, k ≤ n9 ∧ i = .int .i64 (k : Int) ∧ d = .int .i64 ((max (D8 j) (D9 k) : Nat) : Int) ∧ n = .int .i64 (((1 + S8 j + S9 k : Nat)) : Int) ∧ Below W.heap.size W wr) (fun _ _ i _ => n9 - (intOf i).toNat)
        case atStart => exact ⟨0, Nat.zero_le _, rfl, by rw [HZ.out.2.1, Nat.max_zero], by rw [HZ.out.2.2, Nat.add_zero], hbel1⟩
        case round =>
          obtain ⟨k, hk, rfl, rfl, rfl, hbel⟩ := hrel
          clear hbel1
          replace HB := HB0.later hbel
          have x9 := HB.cell (i := 9) (v := .slice a9 n9 p9) rfl
          by_cases hlt : k < n9
          · have hlt2 : decide ((k : Int) < (n9 : Int)) = true := by simp; omega
            have ⟨u1, u2⟩ := HK9.out k hk
            have ⟨u3, u4⟩ := HK9.out (k + 1) hlt
            have t1 := HT.out.2.1 k
            have t2 := HT.out.2.2 k
            obtain ⟨g, o, rfl, -, hg, y0, y1, y2, y3, y4, y5, ⟨z0, z1, z2, z3, z4, z5⟩, ⟨-, ⟨s1, v1⟩, ⟨s2, v2⟩, ⟨s3, v3⟩, ⟨s4, v4⟩, ⟨-, d5⟩⟩⟩ := row_queries ((HC.out.2 ▸ HR.out.2).later hbel) q9 hlt
            have hmk := sub_msr (f := f9) hlt
            have hDk := fun v w1 w2 w3 w4 => QueryDepth_impl (f9 k) (by omega) v1 v2 v3 v4 y0 y1 y2 y3 y4 y5 v d5 w1 v1 w2 v2 w3 v3 w4 v4
            have hSk := fun v w1 w2 w3 w4 => QuerySize_impl (f9 k) (by omega) v1 v2 v3 v4 y0 y1 y2 y3 y4 y5 v d5 w1 v1 w2 v2 w3 v3 w4 v4
            have hl := fun v => low_max (max (D8 j) (D9 k)) (foldQ depA (f9 k)) (max (D8 j) (D9 (k + 1))) (by omega) v
            have hdk : foldQ depA (f9 k) ≤ 600000 := by omega
            have hsk : foldQ sizA (f9 k) ≤ 600000 := by omega
            have hm1 : max (D8 j) (D9 k) ≤ 600000 := by omega
            have hm2 : max (D8 j) (D9 (k + 1)) ≤ 600000 := by omega
            generalize foldQ depA (f9 k) = dk at hDk hl hdk
            generalize foldQ sizA (f9 k) = sk at hSk t2 hsk
            generalize max (D8 j) (D9 k) = mk0 at hl hm1 ⊢
            have HM : Hid (max (D8 j) (D9 (k + 1)) = max (D8 j) (D9 (k + 1))) := rfl
            generalize hmk1 : max (D8 j) (D9 (k + 1)) = mk1 at hl hm2
            have HM1 := Lib.hid hmk1
            have HT2 := Lib.hid t2
            clear t1 t2 d5 hmk1 HM
            go_wp2_with fail
            refine (hDk _ s1 s2 s3 s4).mono ?_
            rintro e w2 ⟨rfl, hv1⟩
            have Z0 := (hv1.cell (p := ⟨g, o + k * 6, none⟩) hg).trans z0
            have Z1 := (hv1.cell (p := ⟨g, o + k * 6 + 1, none⟩) hg).trans z1
            have Z2 := (hv1.cell (p := ⟨g, o + k * 6 + 2, none⟩) hg).trans z2
            have Z3 := (hv1.cell (p := ⟨g, o + k * 6 + 3, none⟩) hg).trans z3
            have Z4 := (hv1.cell (p := ⟨g, o + k * 6 + 4, none⟩) hg).trans z4
            have Z5 := (hv1.cell (p := ⟨g, o + k * 6 + 5, none⟩) hg).trans z5
            clear z0 z1 z2 z3 z4 z5 x9
            replace s1 := s1.later hv1
            replace s2 := s2.later hv1
            replace s3 := s3.later hv1
            replace s4 := s4.later hv1
            replace HB := HB.later hv1
            have x9 := HB.cell (i := 9) (v := .slice (some ⟨g, o, none⟩) n9 p9) rfl
            replace hbel := hbel.trans (hv1.mono hbel.size)
            go_wp2_with fail
            refine (hl _).mono ?_
            rintro e w3 ⟨rfl, rfl⟩
            go_wp2_with fail
            refine (hSk _ s1 s2 s3 s4).mono ?_
            rintro e w4 ⟨rfl, hv3⟩
            replace hbel := hbel.trans (hv3.mono hbel.size)
            go_wp2_with fail
            go_roundw
            case rel => exact ⟨k + 1, hlt, by go_num, by rw [HM1.out], by rw [HT2.out]; go_num, hbel⟩
            case measure => simp [intOf]; omega
          · have hlt2 : decide ((k : Int) < (n9 : Int)) = false := by simp; omega
            obtain rfl : k = n9 := by omega
            have ⟨u1, u2⟩ := HK9.out k hk
            obtain ⟨E1, E2, E3⟩ := HE.out
            generalize foldE depA c = FD at hD E1 E3
            generalize foldE sizA c = FS at hS E2 E3
            have hm1 : max (D8 j) (D9 k) ≤ 600000 := by omega
            generalize max (D8 j) (D9 k) = mk0 at hm1 E1 ⊢
            have hs1 : 1 + S8 j + S9 k ≤ 1300000 := by omega
            have E4 : FS = 1 + S8 j + S9 k := by omega
            generalize 1 + S8 j + S9 k = ms0 at hs1 E4 ⊢
            have HQ : Hid (mk0 < ms0) := by show mk0 < ms0; omega
            have g1 : ((FD : Int) == (mk0 : Int) + 1) = true := by simp; omega
            have g2 : ((FS : Int) == (ms0 : Int)) = true := by simp; omega
            have g3 : decide ((mk0 : Int) < (ms0 : Int)) = true := by simp; omega
            have y0 := HB.cell (i := 0) (v := .int .i64 c0) rfl
            have y1 := HB.cell (i := 1) (v := .int .i64 c1) rfl
            have y2 := HB.cell (i := 2) (v := .bool c2) rfl
            have y3 := HB.cell (i := 3) (v := .int .i64 c3) rfl
            have y4 := HB.cell (i := 4) (v := .int .i64 c4) rfl
            have y5 := HB.cell (i := 5) (v := .string c5) rfl
            have y6 := HB.cell (i := 6) (v := .string c6) rfl
            have y7 := HB.cell (i := 7) (v := .string c7) rfl
            have y8 := HB.cell (i := 8) (v := .slice a8 j p8) rfl
            have r8' := HR.out.1.later hbel
            have r9' := HR.out.2.later hbel
            clear E1 E2 E3 E4
            go_wp2_with fail
            refine (hD _ r8' r9').mono ?_
            rintro e w2 ⟨rfl, hv1⟩
            replace r8' := r8'.later hv1
            replace r9' := r9'.later hv1
            replace HB := HB.later hv1
            replace hbel := hbel.trans (hv1.mono hbel.size)
            clear y0 y1 y2 y3 y4 y5 y6 y7 y8 x9
            have y0 := HB.cell (i := 0) (v := .int .i64 c0) rfl
            have y1 := HB.cell (i := 1) (v := .int .i64 c1) rfl
            have y2 := HB.cell (i := 2) (v := .bool c2) rfl
            have y3 := HB.cell (i := 3) (v := .int .i64 c3) rfl
            have y4 := HB.cell (i := 4) (v := .int .i64 c4) rfl
            have y5 := HB.cell (i := 5) (v := .string c5) rfl
            have y6 := HB.cell (i := 6) (v := .string c6) rfl
            have y7 := HB.cell (i := 7) (v := .string c7) rfl
            have y8 := HB.cell (i := 8) (v := .slice a8 j p8) rfl
            have y9 := HB.cell (i := 9) (v := .slice a9 k p9) rfl
            go_wp2_with fail
            refine (hS _ r8' r9').mono ?_
            rintro e w3 ⟨rfl, hv3⟩
            replace hbel := hbel.trans (hv3.mono hbel.size)
            replace hbw := hbw.trans (hbel.mono hbw.size)
            clear y0 y1 y2 y3 y4 y5 y6 y7 y8 y9
            go_wp2_with fail
            go_ret
            exact ⟨by show Ending.returned (Value.bool (decide (mk0 < ms0))) = _; rw [decide_eq_true HQ.out], hbw⟩
end Go.Proofs.Ytkacelpndeoogaa
