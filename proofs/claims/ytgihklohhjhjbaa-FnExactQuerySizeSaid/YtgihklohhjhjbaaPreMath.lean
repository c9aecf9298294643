
/- Trees in the order of their nodes: an expression, then all that lies below it, each with its depth. No program. -/
import Derived.Test.YtgihklohhjhjbaaTreeMath
namespace Go.Proofs.Ytgihklohhjhjbaa
open Go.RowKit

abbrev Nd := Nat → Dat
/-- a node d deeper -/
def shift (d : Nat) (p : Nat × Nd) : Nat × Nd := (p.1 + d, p.2)
def preA : Alg (List (Nat × Nd)) := ⟨(· ++ ·), [], fun c l => (0, c) :: l.map (shift 1), fun _ l => l⟩
theorem preA_good : preA.Good := ⟨fun a b c => List.append_assoc a b c, fun _ => rfl, fun a => List.append_nil a⟩
theorem preA_of {β : Type} (g : β → List (Nat × Nd)) : ∀ l : List β, preA.of (l.map g) = l.flatMap g
  | [] => rfl
  | a :: l => by rw [List.map_cons, preA_good.of_cons, preA_of g l]; rfl
/-- the nodes of a tree, the tree's root at depth d -/
def pre (d : Nat) (c : Nd) : List (Nat × Nd) := (foldE preA c).map (shift d)
/-- what lies directly below an expression -/
def parts (c : Nd) : List Nd := (c 8).els ++ (c 9).els.flatMap exprsOf
theorem els_fits {d : Dat} {ty : Ty} (h : Fits d ty) {c : Nd} (hc : c ∈ d.els) : ∀ j (hj : j < (rowTy ty).length), Fits (c j) ((rowTy ty)[j]) := by
  cases d with
  | v x => simp [Dat.els, Dat.len] at hc
  | sl n k f =>
    obtain ⟨_, _, _, hfit⟩ := h
    simp only [Dat.els, Dat.len, Dat.el, List.mem_map, List.mem_range] at hc
    obtain ⟨i, hi, rfl⟩ := hc
    exact fun j hj => hfit i hi j hj
theorem fold_flatQ {α : Type} {G : Alg α} {d : Dat} (h : Fits d .queries) : fold G d .queries = G.of (d.els.map (foldQ G)) := by
  cases d with
  | v x => exact h.elim
  | sl n k f => exact fold_queries G
theorem preQ {q : Nd} (h : ∀ j (hj : j < (rowTy .queries).length), Fits (q j) ((rowTy .queries)[j])) : foldQ preA q = (exprsOf q).flatMap (foldE preA) := by
  rw [foldQ_is preA_good (h 1 (by decide)) (h 2 (by decide)) (h 3 (by decide)) (h 4 (by decide)), preA_of]
  rfl
theorem flatMap_congr' {α β : Type} {f g : α → List β} : ∀ {l : List α}, (∀ a ∈ l, f a = g a) → l.flatMap f = l.flatMap g
  | [], _ => rfl
  | a :: l, h => by
    rw [List.flatMap_cons, List.flatMap_cons, h a (List.mem_cons_self ..), flatMap_congr' fun b hb => h b (List.mem_cons_of_mem _ hb)]
theorem pre_eq (d : Nat) {c : Nd} (h8 : Fits (c 8) .exprs) (h9 : Fits (c 9) .queries) : pre d c = (d, c) :: (parts c).flatMap (pre (d + 1)) := by
  have e : foldE preA c = (0, c) :: ((parts c).flatMap (foldE preA)).map (shift 1) := by
    have e8 := fold_flat preA h8
    have e9 := fold_flatQ (G := preA) h9
    rw [preA_of] at e8 e9
    rw [flatMap_congr' fun q hq => preQ (els_fits h9 hq)] at e9
    unfold foldE parts
    rw [e8, e9, List.flatMap_append, List.flatMap_assoc]
    rfl
  unfold pre
  rw [e, List.map_cons, List.map_map, List.map_flatMap]
  have hs : shift d ∘ shift 1 = shift (d + 1) := by funext p; show (p.1 + 1 + d, p.2) = _; rw [Nat.add_assoc, Nat.add_comm 1 d]; rfl
  rw [hs]
  show (0 + d, c) :: _ = _
  rw [Nat.zero_add]
theorem fold_hom {α β : Type} {G : Alg α} {H : Alg β} (h : α → β) (hu : ∀ a b, h (G.up a b) = H.up (h a) (h b)) (hz : h G.z = H.z)
    (hn : ∀ c a, h (G.node c a) = H.node c (h a)) (hq : ∀ c a, h (G.qn c a) = H.qn c (h a)) : ∀ (d : Dat) (ty : Ty), h (fold G d ty) = fold H d ty
  | .v _, ty => by cases ty <;> exact hz
  | .sl n k f, ty => by
    have IH : ∀ i j ty, h (fold G (f i j) ty) = fold H (f i j) ty := fun i j ty => fold_hom h hu hz hn hq (f i j) ty
    have hof : ∀ (l : List α) (a : α), h (l.foldl G.up a) = (l.map h).foldl H.up (h a) := fun l => by
      induction l with
      | nil => intro a; rfl
      | cons b l ih => intro a; rw [List.foldl_cons, ih, hu]; rfl
    have hof' : ∀ l : List α, h (G.of l) = H.of (l.map h) := fun l => by unfold Alg.of; rw [hof, hz]
    cases ty
    case int => exact hz
    case bool => exact hz
    case str => exact hz
    case exprs => rw [fold, fold, hof', List.map_map]; congr 2; funext i; show h (G.node _ _) = _; rw [hn, hu, IH, IH]
    case items =>
      rw [fold, fold, hof', List.map_map]; congr 2; funext i
      show h (if (f i 0).tru then G.z else _) = _
      by_cases ht : (f i 0).tru
      · rw [if_pos ht, if_pos ht]; exact hz
      · rw [if_neg ht, if_neg ht, hn, hu, IH, IH]
    case sources => rw [fold, fold, hof', List.map_map]; congr 2; funext i; exact IH _ _ _
    case keys => rw [fold, fold, hof', List.map_map]; congr 2; funext i; show h (G.node _ _) = _; rw [hn, hu, IH, IH]
    case queries => rw [fold, fold, hof', List.map_map]; congr 2; funext i; show h (G.qn _ _) = _; rw [hq, hu, hu, hu, IH, IH, IH, IH]
theorem fold_homE {α β : Type} {G : Alg α} {H : Alg β} (h : α → β) (hu : ∀ a b, h (G.up a b) = H.up (h a) (h b)) (hz : h G.z = H.z)
    (hn : ∀ c a, h (G.node c a) = H.node c (h a)) (hq : ∀ c a, h (G.qn c a) = H.qn c (h a)) (c : Nd) : h (foldE G c) = foldE H c := by
  unfold foldE; rw [hn, hu, fold_hom h hu hz hn hq, fold_hom h hu hz hn hq]
/-- the deepest of some nodes -/
def mx (l : List (Nat × Nd)) : Nat := l.foldr (fun p m => max p.1 m) 0
theorem mx_append (l r : List (Nat × Nd)) : mx (l ++ r) = max (mx l) (mx r) := by
  induction l with
  | nil => show mx r = max 0 (mx r); omega
  | cons a l ih => show max a.1 (mx (l ++ r)) = max (max a.1 (mx l)) (mx r); rw [ih]; omega
theorem mx_up (d : Nat) (l : List (Nat × Nd)) : max (d + 1) (mx (l.map (shift (d + 1 + 1)))) = max d (mx (l.map (shift (d + 1)))) + 1 := by
  induction l with
  | nil => show max (d + 1) 0 = max d 0 + 1; omega
  | cons a l ih =>
    show max (d + 1) (max (a.1 + (d + 1 + 1)) (mx (l.map (shift (d + 1 + 1))))) = max d (max (a.1 + (d + 1)) (mx (l.map (shift (d + 1))))) + 1
    omega
theorem mx_pre (c : Nd) : mx (pre 1 c) = foldE depA c := by
  refine fold_homE (G := preA) (H := depA) (fun l => mx (l.map (shift 1))) (fun a b => ?_) rfl (fun c l => ?_) (fun _ _ => rfl) c
  · show mx ((a ++ b).map _) = max _ _
    rw [List.map_append, mx_append]
  · have h := mx_up 0 l
    show max (0 + 1) (mx ((l.map (shift 1)).map (shift 1))) = mx (l.map (shift 1)) + 1
    rw [List.map_map]
    have hs : shift 1 ∘ shift 1 = shift (0 + 1 + 1) := by funext p; rfl
    rw [hs, h]
    show max 0 (mx (l.map (shift (0 + 1)))) + 1 = mx (l.map (shift 1)) + 1
    rw [Nat.zero_max]
theorem len_pre (d : Nat) (c : Nd) : (pre d c).length = foldE sizA c := by
  unfold pre
  rw [List.length_map]
  exact fold_homE (G := preA) (H := sizA) List.length (fun a b => List.length_append) rfl (fun c l => by show ((0, c) :: l.map _).length = l.length + 1; simp) (fun _ _ => rfl) c
theorem mx_flat (l : List Nd) : mx (l.flatMap (pre 1)) = depA.of (l.map (foldE depA)) := by
  induction l with
  | nil => rfl
  | cons c l ih => rw [List.flatMap_cons, mx_append, ih, mx_pre, List.map_cons, depA_good.of_cons]; rfl
theorem len_flat (d : Nat) (l : List Nd) : (l.flatMap (pre d)).length = sizA.of (l.map (foldE sizA)) := by
  induction l with
  | nil => rfl
  | cons c l ih => rw [List.flatMap_cons, List.length_append, ih, len_pre, List.map_cons, sizA_good.of_cons]; rfl
theorem take_next {α : Type} {l : List α} {i : Nat} {x : α} (h : l[i]? = some x) : l.take (i + 1) = l.take i ++ [x] := by
  rw [List.take_add_one, h]; rfl
/-- the nodes that a stack has still to come: its lists, the last first -/
def togo : List (Nat × List Nd) → List (Nat × Nd)
  | [] => []
  | (d, L) :: r => L.flatMap (pre d) ++ togo r
end Go.Proofs.Ytgihklohhjhjbaa
