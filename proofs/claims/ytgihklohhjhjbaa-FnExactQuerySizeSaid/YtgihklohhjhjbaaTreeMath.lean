
/- Trees as data with depth: their expressions, their depth and their size. No program. -/
import Derived.Test.YtgihklohhjhjbaaDat
namespace Go.Proofs.Ytgihklohhjhjbaa
open Go.RowKit

def Dat.len : Dat → Nat
  | .sl n _ _ => n
  | .v _ => 0
def Dat.el : Dat → Nat → Nat → Dat
  | .sl _ _ f => f
  | .v _ => fun _ _ => .v undef
def Dat.tru : Dat → Bool
  | .v (.bool b) => b
  | _ => false
/-- the elements of a slice, each as its cells -/
def Dat.els (d : Dat) : List (Nat → Dat) := (List.range d.len).map d.el
/-- cells from place o on -/
def cut (o : Nat) (c : Nat → Dat) : Nat → Dat := fun m => c (o + m)
/-- the expressions of a query -/
def exItems (d : Dat) : List (Nat → Dat) := (d.els.filter fun c => !(c 0).tru).map (cut 2)
def exFrom (d : Dat) : List (Nat → Dat) := d.els.flatMap fun c => (c 2).els
def exprsOf (q : Nat → Dat) : List (Nat → Dat) := ((exItems (q 1) ++ exFrom (q 2)) ++ (q 3).els) ++ (q 4).els

/-- what is told of a tree by its parts -/
structure Alg (α : Type) where
  up : α → α → α                    -- what two parts make
  z : α                             -- of no parts
  node : (Nat → Dat) → α → α        -- an expression, over its parts
  qn : (Nat → Dat) → α → α          -- a query, over its expressions
variable {α : Type}
def Alg.of (G : Alg α) (l : List α) : α := l.foldl G.up G.z
/-- told of all expressions of the type's elements together -/
def fold (G : Alg α) : Dat → Ty → α
  | .sl n _ f, .exprs => G.of ((List.range n).map fun i => G.node (f i) (G.up (fold G (f i 8) .exprs) (fold G (f i 9) .queries)))
  | .sl n _ f, .items => G.of ((List.range n).map fun i => if (f i 0).tru then G.z else G.node (cut 2 (f i)) (G.up (fold G (f i 10) .exprs) (fold G (f i 11) .queries)))
  | .sl n _ f, .sources => G.of ((List.range n).map fun i => fold G (f i 2) .exprs)
  | .sl n _ f, .keys => G.of ((List.range n).map fun i => G.node (f i) (G.up (fold G (f i 8) .exprs) (fold G (f i 9) .queries)))
  | .sl n _ f, .queries => G.of ((List.range n).map fun i => G.qn (f i) (G.up (G.up (G.up (fold G (f i 1) .items) (fold G (f i 2) .sources)) (fold G (f i 3) .exprs)) (fold G (f i 4) .keys)))
  | _, _ => G.z
/-- of one expression, and of one query -/
def foldE (G : Alg α) (c : Nat → Dat) : α := G.node c (G.up (fold G (c 8) .exprs) (fold G (c 9) .queries))
def foldQ (G : Alg α) (q : Nat → Dat) : α := G.qn q (G.up (G.up (G.up (fold G (q 1) .items) (fold G (q 2) .sources)) (fold G (q 3) .exprs)) (fold G (q 4) .keys))
/-- a good algebra: the parts' order and grouping do not matter -/
structure Alg.Good (G : Alg α) : Prop where
  assoc : ∀ a b c, G.up (G.up a b) c = G.up a (G.up b c)
  left : ∀ a, G.up G.z a = a
  right : ∀ a, G.up a G.z = a
theorem Alg.Good.foldl {G : Alg α} (H : G.Good) : ∀ (l : List α) (a : α), l.foldl G.up a = G.up a (l.foldl G.up G.z)
  | [], a => (H.right a).symm
  | b :: l, a => by
    rw [List.foldl_cons, List.foldl_cons, H.foldl l (G.up a b), H.foldl l (G.up G.z b), H.left, H.assoc]
theorem Alg.Good.of_append {G : Alg α} (H : G.Good) (l r : List α) : G.of (l ++ r) = G.up (G.of l) (G.of r) := by
  unfold Alg.of; rw [List.foldl_append, H.foldl r]
theorem Alg.Good.of_cons {G : Alg α} (H : G.Good) (a : α) (r : List α) : G.of (a :: r) = G.up a (G.of r) := by
  unfold Alg.of; rw [List.foldl_cons, H.left, H.foldl r]
theorem Alg.of_snoc (G : Alg α) (l : List α) (a : α) : G.of (l ++ [a]) = G.up (G.of l) a := by
  unfold Alg.of; rw [List.foldl_append]; rfl
theorem fold_exprs (G : Alg α) {n k : Nat} {f : Nat → Nat → Dat} : fold G (.sl n k f) .exprs = G.of ((Dat.sl n k f).els.map (foldE G)) := by
  unfold fold Dat.els
  simp only [Dat.len, Dat.el, List.map_map]
  rfl
theorem fold_keys (G : Alg α) {n k : Nat} {f : Nat → Nat → Dat} : fold G (.sl n k f) .keys = G.of ((Dat.sl n k f).els.map (foldE G)) := by
  unfold fold Dat.els
  simp only [Dat.len, Dat.el, List.map_map]
  rfl
theorem fold_queries (G : Alg α) {n k : Nat} {f : Nat → Nat → Dat} : fold G (.sl n k f) .queries = G.of ((Dat.sl n k f).els.map (foldQ G)) := by
  unfold fold Dat.els
  simp only [Dat.len, Dat.el, List.map_map]
  rfl
theorem Alg.Good.of_flatMap {β : Type} {G : Alg α} (H : G.Good) (g : β → List α) : ∀ l : List β, G.of (l.flatMap g) = G.of (l.map fun a => G.of (g a))
  | [] => rfl
  | a :: l => by rw [List.flatMap_cons, H.of_append, H.of_flatMap g l, List.map_cons, H.of_cons]
theorem fold_items {G : Alg α} (H : G.Good) {n k : Nat} {f : Nat → Nat → Dat} : fold G (.sl n k f) .items = G.of ((exItems (.sl n k f)).map (foldE G)) := by
  have h : ∀ l : List (Nat → Dat), G.of (l.map fun c => if (c 0).tru then G.z else foldE G (cut 2 c)) = G.of (((l.filter fun c => !(c 0).tru).map (cut 2)).map (foldE G)) := fun l => by
    induction l with
    | nil => rfl
    | cons a l ih =>
      rw [List.map_cons, H.of_cons, ih, List.filter_cons]
      cases (a 0).tru
      · simp only [Bool.not_false, if_true, List.map_cons, H.of_cons]; rfl
      · simp only [Bool.not_true, if_true, H.left]; rfl
  unfold exItems
  rw [← h]
  unfold fold Dat.els
  simp only [Dat.len, Dat.el, List.map_map]
  rfl
theorem fold_flat (G : Alg α) {d : Dat} (h : Fits d .exprs) : fold G d .exprs = G.of (d.els.map (foldE G)) := by
  cases d with
  | v x => exact h.elim
  | sl n k f => exact fold_exprs G
theorem fold_from {G : Alg α} (H : G.Good) {n k : Nat} {f : Nat → Nat → Dat} (hf : Fits (.sl n k f) .sources) : fold G (.sl n k f) .sources = G.of ((exFrom (.sl n k f)).map (foldE G)) := by
  unfold exFrom
  rw [List.map_flatMap, H.of_flatMap]
  show G.of ((List.range n).map fun i => fold G (f i 2) .exprs) = G.of (((List.range n).map f).map fun c => G.of ((c 2).els.map (foldE G)))
  rw [List.map_map]
  congr 1
  refine List.map_congr_left fun i hi => ?_
  obtain ⟨_, _, _, hfit⟩ := hf
  have h2 : Fits (f i 2) .exprs := hfit i (List.mem_range.1 hi) 2 (by decide)
  exact fold_flat G h2
/-- a query's expressions, one after the other -/
theorem foldQ_is {G : Alg α} (H : G.Good) {q : Nat → Dat} (h1 : Fits (q 1) .items) (h2 : Fits (q 2) .sources) (h3 : Fits (q 3) .exprs) (h4 : Fits (q 4) .keys) :
    foldQ G q = G.qn q (G.of ((exprsOf q).map (foldE G))) := by
  unfold foldQ exprsOf
  rw [List.map_append, List.map_append, List.map_append, H.of_append, H.of_append, H.of_append, ← fold_flat G h3]
  cases h : q 1 with
  | v x => rw [h] at h1; exact h1.elim
  | sl n1 k1 f1 =>
    cases h' : q 2 with
    | v x => rw [h'] at h2; exact h2.elim
    | sl n2 k2 f2 =>
      cases h'' : q 4 with
      | v x => rw [h''] at h4; exact h4.elim
      | sl n4 k4 f4 =>
        rw [h'] at h2
        rw [fold_items H, fold_from H h2, fold_keys]
/-- the depth, and the size -/
def depA : Alg Nat := ⟨max, 0, fun _ n => n + 1, fun _ n => n⟩
def sizA : Alg Nat := ⟨(· + ·), 0, fun _ n => n + 1, fun _ n => n⟩
theorem depA_good : depA.Good := ⟨fun a b c => by show max (max a b) c = max a (max b c); omega, fun a => by show max 0 a = a; omega, fun a => by show max a 0 = a; omega⟩
theorem sizA_good : sizA.Good := ⟨fun a b c => Nat.add_assoc a b c, fun a => Nat.zero_add a, fun _ => rfl⟩
end Go.Proofs.Ytgihklohhjhjbaa
