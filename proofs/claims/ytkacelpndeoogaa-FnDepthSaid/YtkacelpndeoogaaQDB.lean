/- Joined texts: RowB Big Dat TreeMath. -/
import Derived.Test.YtkacelpndeoogaaQDA
import Derived.WalkKit
import Derived.Below
import Derived.RowKit
/- The bytes that came in, as the drawing functions want them. -/
namespace Go.Proofs.Ytkacelpndeoogaa
theorem rowB_of {w : World} {a : Option Addr} {len cap : Nat} {zs : List Int}
    (h : (a = none ∧ len = 0 ∧ cap = 0 ∧ zs = []) ∨ ∃ x, a = some x ∧ len ≤ cap ∧ cap ≤ maxLen ∧ zs.length = cap ∧ (∀ i, i < zs.length → w.cell? (x.add i) = some (.int .u8 (zs.getD i 0))) ∧ ∀ n ∈ zs, (Lit.int .u8 n).wf = true) : RowB w.heap.size a len w := by
  rcases h with ⟨rfl, rfl, rfl, rfl⟩ | ⟨x, rfl, h1, h2, h3, h4, h5⟩
  · exact ⟨by omega, fun j hj => by omega⟩
  · refine ⟨by unfold maxLen at h2; omega, fun j hj => ?_⟩
    have hc := h4 j (by omega)
    obtain ⟨b, off, spot⟩ := x
    have hc0 := h4 0 (by omega)
    have hsp : spot = none := by simpa [Addr.add] using World.cell?_spot hc0
    subst hsp
    have e : (⟨b, off, none⟩ : Addr).add j = ⟨b, off + j, none⟩ := by unfold Addr.add; split <;> simp_all
    rw [e] at hc
    have hm : zs.getD j 0 ∈ zs := by
      have hj2 : j < zs.length := by omega
      rw [List.getD_eq_getElem?_getD, List.getElem?_eq_getElem hj2]; exact List.getElem_mem _
    obtain ⟨g0, g1⟩ := u8_bds (h5 _ hm)
    refine ⟨b, off, zs.getD j 0, rfl, ?_, g0, g1, hc⟩
    rcases Nat.lt_or_ge b w.heap.size with hb | hb
    · exact hb
    · exfalso
      have : w.heap[b]? = none := by simp; omega
      simp [World.cell?, this] at hc
end Go.Proofs.Ytkacelpndeoogaa

/- The contract of big; the end of a law. -/
namespace Go.Proofs.Ytkacelpndeoogaa
open Go.RowKit

theorem big_yes (a : Option Addr) (len cap : Nat) (w : World) (hl : len ≤ 9223372036854775807) (h : 1048576 < len) :
    Calls Try.prog 9 #[.slice a len cap] w fun e w' => e = .returned (.bool true) ∧ w = w' := by
  have hd : decide (1048576 < (len : Int)) = true := by simp; omega
  go_enter Try.func9, Try.ntmps9
  go_wp2
  go_ret
  exact ⟨rfl, rfl⟩
theorem big_no (a : Option Addr) (len cap : Nat) (w : World) (h : ¬ 1048576 < len) :
    Calls Try.prog 9 #[.slice a len cap] w fun e w' => e = .returned (.bool false) ∧ w = w' := by
  have hd : decide (1048576 < (len : Int)) = false := by simp; omega
  go_enter Try.func9, Try.ntmps9
  go_wp2
  go_ret
  exact ⟨rfl, rfl⟩

/-- a law's end: true, and nothing that was there has turned -/
def LawE (w : World) (e : Ending) (w' : World) : Prop := e = .returned (.bool true) ∧ Below w.heap.size w w'
end Go.Proofs.Ytkacelpndeoogaa

/- Data with depth: a cell's value, or a slice of n elements of k cells; what it is that such data can be read at a value. -/
namespace Go.Proofs.Ytkacelpndeoogaa
open Go.RowKit

inductive Dat where
  | v (x : Value)
  | sl (n k : Nat) (f : Nat → Nat → Dat)

/-- x reads as the datum in w, through blocks from L on -/
def Rd (w : World) (L : Nat) : Value → Dat → Prop
  | x, .v y => x = y
  | x, .sl n k f => ∃ (a : Option Addr) (cap : Nat), x = .slice a n cap ∧ n ≤ cap ∧ (a = none → cap = 0) ∧ (n = 0 ∨ ∃ (g o : Nat), a = some ⟨g, o, none⟩ ∧ L ≤ g ∧ g < w.heap.size ∧
      ∀ i, i < n → ∀ j, j < k → ∃ y, w.cell? ⟨g, o + i * k + j, none⟩ = some y ∧ Rd w L y (f i j))

theorem Rd.keep {w w' : World} {L : Nat} : ∀ {d : Dat} {x : Value}, Rd w L x d → w.heap.size ≤ w'.heap.size → (∀ g, L ≤ g → g < w.heap.size → w'.heap[g]? = w.heap[g]?) → Rd w' L x d
  | .v _, _, h, _, _ => h
  | .sl n k f, x, h, hs, hk => by
    obtain ⟨a, cap, e, hc, hz, h⟩ := h
    refine ⟨a, cap, e, hc, hz, h.imp id ?_⟩
    rintro ⟨g, o, ea, hg, hlt, hc⟩
    refine ⟨g, o, ea, hg, Nat.lt_of_lt_of_le hlt hs, fun i hi j hj => ?_⟩
    obtain ⟨y, hy, hr⟩ := hc i hi j hj
    exact ⟨y, (World.cell?_of_block (w := w) (a := ⟨g, o + i * k + j, none⟩) (hk g hg hlt)).trans hy, hr.keep hs hk⟩
theorem Rd.later {w w' : World} {L : Nat} {d : Dat} {x : Value} (h : Rd w L x d) (g : Below w.heap.size w w') : Rd w' L x d := h.keep g.size fun i _ hi => g.block i hi
/-- below a bound that the data does not go beneath, the world may turn -/
theorem Rd.set {w : World} {L : Nat} {d : Dat} {x : Value} (h : Rd w L x d) {p : Addr} (hp : p.block < L) (u : Value) : Rd (w.setCell p u) L x d :=
  h.keep (by simp) fun i hi _ => heap_setCell_other w p i u (by omega)
theorem Rd.low {w : World} {L L' : Nat} (hL : L' ≤ L) : ∀ {d : Dat} {x : Value}, Rd w L x d → Rd w L' x d
  | .v _, _, h => h
  | .sl n k f, x, h => by
    obtain ⟨a, cap, e, hc, hz, h⟩ := h
    refine ⟨a, cap, e, hc, hz, h.imp id ?_⟩
    rintro ⟨g, o, ea, hg, hlt, hc⟩
    refine ⟨g, o, ea, Nat.le_trans hL hg, hlt, fun i hi j hj => ?_⟩
    obtain ⟨y, hy, hr⟩ := hc i hi j hj
    exact ⟨y, hy, hr.low hL⟩
/-- an element of a slice -/
theorem Rd.elem {w : World} {L n k : Nat} {f : Nat → Nat → Dat} {a : Option Addr} {cap m : Nat} (h : Rd w L (.slice a m cap) (.sl n k f)) {i : Nat} (hi : i < n) :
    m = n ∧ ∃ (g o : Nat), a = some ⟨g, o, none⟩ ∧ L ≤ g ∧ g < w.heap.size ∧ ∀ j, j < k → ∃ y, w.cell? ⟨g, o + i * k + j, none⟩ = some y ∧ Rd w L y (f i j) := by
  obtain ⟨a', cap', e, _, _, h⟩ := h
  injection e with e1 e2 e3
  subst e1; subst e2
  rcases h with h | ⟨g, o, ea, hg, hlt, hc⟩
  · omega
  · exact ⟨rfl, g, o, ea, hg, hlt, fun j hj => hc i hi j hj⟩
theorem Rd.slice {w : World} {L n k : Nat} {f : Nat → Nat → Dat} {x : Value} (h : Rd w L x (.sl n k f)) : ∃ a cap, x = .slice a n cap := by
  obtain ⟨a, cap, e, _⟩ := h
  exact ⟨a, cap, e⟩

/-- the types of cells that the trees of this program are made of -/
inductive Ty where
  | int | bool | str | exprs | items | sources | keys | queries | rows | names
/-- the cells of an expression -/
def exprTy : List Ty := [.int, .int, .bool, .int, .int, .str, .str, .str, .exprs, .queries]
/-- the cells of an element -/
def rowTy : Ty → List Ty
  | .exprs => exprTy
  | .items => [.bool, .str] ++ exprTy ++ [.str]
  | .sources => [.str, .str, .exprs]
  | .keys => exprTy ++ [.bool]
  | .queries => [.bool, .items, .sources, .exprs, .keys, .int]
  | .rows => [.exprs]
  | .names => [.str]
  | _ => []
/-- slices of structs -/
def tree : Ty → Bool
  | .exprs | .items | .sources | .keys | .queries => true
  | _ => false
/-- all but the slices of slices and of strings -/
def plainTy : Ty → Bool
  | .rows | .names => false
  | _ => true
theorem plain_row {ty : Ty} (h : tree ty = true) : (rowTy ty).all plainTy = true := by cases ty <;> first | (cases h; done) | rfl
def deep : Ty → Bool
  | .int | .bool | .str => false
  | _ => true
/-- the datum is one of the type -/
def Fits : Dat → Ty → Prop
  | .v x, ty => match ty with
    | .int => ∃ n : Int, x = .int .i64 n ∧ -9223372036854775808 ≤ n ∧ n ≤ 9223372036854775807
    | .bool => ∃ b, x = .bool b
    | .str => ∃ s : ByteArray, x = .string s ∧ s.size ≤ 9223372036854775807
    | _ => False
  | .sl n k f, ty => deep ty = true ∧ n ≤ 9223372036854775807 ∧ k = (rowTy ty).length ∧ ∀ i, i < n → ∀ j (h : j < (rowTy ty).length), Fits (f i j) ((rowTy ty)[j])
/-- how much there is of it: elements and bytes -/
def msr : Dat → Nat
  | .v x => match x with
    | .string s => s.size
    | _ => 0
  | .sl n k f => n + ((List.range n).map fun i => ((List.range k).map fun j => msr (f i j)).sum).sum
end Go.Proofs.Ytkacelpndeoogaa

/- Trees as data with depth: their expressions, their depth and their size. No program. -/
namespace Go.Proofs.Ytkacelpndeoogaa
open Go.RowKit

def Dat.len : Dat → Nat
  | .sl n _ _ => n
  | .v _ => 0
def Dat.el : Dat → Nat → Nat → Dat
  | .sl _ _ f => f
  | .v _ => fun _ _ => .v undef
def Dat.tru : Dat → Bool
  | .v (.bool b) => b
  | _ => false
/-- the elements of a slice, each as its cells -/
def Dat.els (d : Dat) : List (Nat → Dat) := (List.range d.len).map d.el
/-- cells from place o on -/
def cut (o : Nat) (c : Nat → Dat) : Nat → Dat := fun m => c (o + m)
/-- the expressions of a query -/
def exItems (d : Dat) : List (Nat → Dat) := (d.els.filter fun c => !(c 0).tru).map (cut 2)
def exFrom (d : Dat) : List (Nat → Dat) := d.els.flatMap fun c => (c 2).els
def exprsOf (q : Nat → Dat) : List (Nat → Dat) := ((exItems (q 1) ++ exFrom (q 2)) ++ (q 3).els) ++ (q 4).els

/-- what is told of a tree by its parts -/
structure Alg (α : Type) where
  up : α → α → α                    -- what two parts make
  z : α                             -- of no parts
  node : (Nat → Dat) → α → α        -- an expression, over its parts
  qn : (Nat → Dat) → α → α          -- a query, over its expressions
variable {α : Type}
def Alg.of (G : Alg α) (l : List α) : α := l.foldl G.up G.z
/-- told of all expressions of the type's elements together -/
def fold (G : Alg α) : Dat → Ty → α
  | .sl n _ f, .exprs => G.of ((List.range n).map fun i => G.node (f i) (G.up (fold G (f i 8) .exprs) (fold G (f i 9) .queries)))
  | .sl n _ f, .items => G.of ((List.range n).map fun i => if (f i 0).tru then G.z else G.node (cut 2 (f i)) (G.up (fold G (f i 10) .exprs) (fold G (f i 11) .queries)))
  | .sl n _ f, .sources => G.of ((List.range n).map fun i => fold G (f i 2) .exprs)
  | .sl n _ f, .keys => G.of ((List.range n).map fun i => G.node (f i) (G.up (fold G (f i 8) .exprs) (fold G (f i 9) .queries)))
  | .sl n _ f, .queries => G.of ((List.range n).map fun i => G.qn (f i) (G.up (G.up (G.up (fold G (f i 1) .items) (fold G (f i 2) .sources)) (fold G (f i 3) .exprs)) (fold G (f i 4) .keys)))
  | .sl n _ f, .rows => G.of ((List.range n).map fun i => fold G (f i 0) .exprs)
  | _, _ => G.z
/-- of one expression, and of one query -/
def foldE (G : Alg α) (c : Nat → Dat) : α := G.node c (G.up (fold G (c 8) .exprs) (fold G (c 9) .queries))
def foldQ (G : Alg α) (q : Nat → Dat) : α := G.qn q (G.up (G.up (G.up (fold G (q 1) .items) (fold G (q 2) .sources)) (fold G (q 3) .exprs)) (fold G (q 4) .keys))
/-- a good algebra: the parts' order and grouping do not matter -/
structure Alg.Good (G : Alg α) : Prop where
  assoc : ∀ a b c, G.up (G.up a b) c = G.up a (G.up b c)
  left : ∀ a, G.up G.z a = a
  right : ∀ a, G.up a G.z = a
theorem Alg.Good.foldl {G : Alg α} (H : G.Good) : ∀ (l : List α) (a : α), l.foldl G.up a = G.up a (l.foldl G.up G.z)
  | [], a => (H.right a).symm
  | b :: l, a => by
    rw [List.foldl_cons, List.foldl_cons, H.foldl l (G.up a b), H.foldl l (G.up G.z b), H.left, H.assoc]
theorem Alg.Good.of_append {G : Alg α} (H : G.Good) (l r : List α) : G.of (l ++ r) = G.up (G.of l) (G.of r) := by
  unfold Alg.of; rw [List.foldl_append, H.foldl r]
theorem Alg.Good.of_cons {G : Alg α} (H : G.Good) (a : α) (r : List α) : G.of (a :: r) = G.up a (G.of r) := by
  unfold Alg.of; rw [List.foldl_cons, H.left, H.foldl r]
theorem Alg.of_snoc (G : Alg α) (l : List α) (a : α) : G.of (l ++ [a]) = G.up (G.of l) a := by
  unfold Alg.of; rw [List.foldl_append]; rfl
theorem fold_exprs (G : Alg α) {n k : Nat} {f : Nat → Nat → Dat} : fold G (.sl n k f) .exprs = G.of ((Dat.sl n k f).els.map (foldE G)) := by
  unfold fold Dat.els
  simp only [Dat.len, Dat.el, List.map_map]
  rfl
theorem fold_keys (G : Alg α) {n k : Nat} {f : Nat → Nat → Dat} : fold G (.sl n k f) .keys = G.of ((Dat.sl n k f).els.map (foldE G)) := by
  unfold fold Dat.els
  simp only [Dat.len, Dat.el, List.map_map]
  rfl
theorem fold_queries (G : Alg α) {n k : Nat} {f : Nat → Nat → Dat} : fold G (.sl n k f) .queries = G.of ((Dat.sl n k f).els.map (foldQ G)) := by
  unfold fold Dat.els
  simp only [Dat.len, Dat.el, List.map_map]
  rfl
theorem Alg.Good.of_flatMap {β : Type} {G : Alg α} (H : G.Good) (g : β → List α) : ∀ l : List β, G.of (l.flatMap g) = G.of (l.map fun a => G.of (g a))
  | [] => rfl
  | a :: l => by rw [List.flatMap_cons, H.of_append, H.of_flatMap g l, List.map_cons, H.of_cons]
theorem fold_items {G : Alg α} (H : G.Good) {n k : Nat} {f : Nat → Nat → Dat} : fold G (.sl n k f) .items = G.of ((exItems (.sl n k f)).map (foldE G)) := by
  have h : ∀ l : List (Nat → Dat), G.of (l.map fun c => if (c 0).tru then G.z else foldE G (cut 2 c)) = G.of (((l.filter fun c => !(c 0).tru).map (cut 2)).map (foldE G)) := fun l => by
    induction l with
    | nil => rfl
    | cons a l ih =>
      rw [List.map_cons, H.of_cons, ih, List.filter_cons]
      cases (a 0).tru
      · simp only [Bool.not_false, if_true, List.map_cons, H.of_cons]; rfl
      · simp only [Bool.not_true, if_true, H.left]; rfl
  unfold exItems
  rw [← h]
  unfold fold Dat.els
  simp only [Dat.len, Dat.el, List.map_map]
  rfl
theorem fold_flat (G : Alg α) {d : Dat} (h : Fits d .exprs) : fold G d .exprs = G.of (d.els.map (foldE G)) := by
  cases d with
  | v x => exact h.elim
  | sl n k f => exact fold_exprs G
theorem fold_from {G : Alg α} (H : G.Good) {n k : Nat} {f : Nat → Nat → Dat} (hf : Fits (.sl n k f) .sources) : fold G (.sl n k f) .sources = G.of ((exFrom (.sl n k f)).map (foldE G)) := by
  unfold exFrom
  rw [List.map_flatMap, H.of_flatMap]
  show G.of ((List.range n).map fun i => fold G (f i 2) .exprs) = G.of (((List.range n).map f).map fun c => G.of ((c 2).els.map (foldE G)))
  rw [List.map_map]
  congr 1
  refine List.map_congr_left fun i hi => ?_
  obtain ⟨_, _, _, hfit⟩ := hf
  have h2 : Fits (f i 2) .exprs := hfit i (List.mem_range.1 hi) 2 (by decide)
  exact fold_flat G h2
/-- a query's expressions, one after the other -/
theorem foldQ_is {G : Alg α} (H : G.Good) {q : Nat → Dat} (h1 : Fits (q 1) .items) (h2 : Fits (q 2) .sources) (h3 : Fits (q 3) .exprs) (h4 : Fits (q 4) .keys) :
    foldQ G q = G.qn q (G.of ((exprsOf q).map (foldE G))) := by
  unfold foldQ exprsOf
  rw [List.map_append, List.map_append, List.map_append, H.of_append, H.of_append, H.of_append, ← fold_flat G h3]
  cases h : q 1 with
  | v x => rw [h] at h1; exact h1.elim
  | sl n1 k1 f1 =>
    cases h' : q 2 with
    | v x => rw [h'] at h2; exact h2.elim
    | sl n2 k2 f2 =>
      cases h'' : q 4 with
      | v x => rw [h''] at h4; exact h4.elim
      | sl n4 k4 f4 =>
        rw [h'] at h2
        rw [fold_items H, fold_from H h2, fold_keys]
/-- the depth, and the size -/
def depA : Alg Nat := ⟨max, 0, fun _ n => n + 1, fun _ n => n⟩
def sizA : Alg Nat := ⟨(· + ·), 0, fun _ n => n + 1, fun _ n => n⟩
theorem depA_good : depA.Good := ⟨fun a b c => by show max (max a b) c = max a (max b c); omega, fun a => by show max 0 a = a; omega, fun a => by show max a 0 = a; omega⟩
theorem sizA_good : sizA.Good := ⟨fun a b c => Nat.add_assoc a b c, fun a => Nat.zero_add a, fun _ => rfl⟩
end Go.Proofs.Ytkacelpndeoogaa
