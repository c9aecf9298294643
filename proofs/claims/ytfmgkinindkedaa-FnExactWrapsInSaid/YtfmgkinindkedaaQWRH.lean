/- Joined texts: PreMath SameMath ValS OkMath. -/
import Derived.Test.YtfmgkinindkedaaQWRG
import Derived.Test.YtfmgkinindkedaaQWRD
import Derived.Test.YtfmgkinindkedaaQWRC
import Derived.Test.YtfmgkinindkedaaQWRB
/- Trees in the order of their nodes: an expression, then all that lies below it, each with its depth. No program. -/
namespace Go.Proofs.Ytfmgkinindkedaa
open Go.RowKit

abbrev Nd := Nat → Dat
/-- a node d deeper -/
def shift (d : Nat) (p : Nat × Nd) : Nat × Nd := (p.1 + d, p.2)
def preA : Alg (List (Nat × Nd)) := ⟨(· ++ ·), [], fun c l => (0, c) :: l.map (shift 1), fun _ l => l⟩
theorem preA_good : preA.Good := ⟨fun a b c => List.append_assoc a b c, fun _ => rfl, fun a => List.append_nil a⟩
theorem preA_of {β : Type} (g : β → List (Nat × Nd)) : ∀ l : List β, preA.of (l.map g) = l.flatMap g
  | [] => rfl
  | a :: l => by rw [List.map_cons, preA_good.of_cons, preA_of g l]; rfl
/-- the nodes of a tree, the tree's root at depth d -/
def pre (d : Nat) (c : Nd) : List (Nat × Nd) := (foldE preA c).map (shift d)
/-- what lies directly below an expression -/
def parts (c : Nd) : List Nd := (c 8).els ++ (c 9).els.flatMap exprsOf
theorem els_fits {d : Dat} {ty : Ty} (h : Fits d ty) {c : Nd} (hc : c ∈ d.els) : ∀ j (hj : j < (rowTy ty).length), Fits (c j) ((rowTy ty)[j]) := by
  cases d with
  | v x => simp [Dat.els, Dat.len] at hc
  | sl n k f =>
    obtain ⟨_, _, _, hfit⟩ := h
    simp only [Dat.els, Dat.len, Dat.el, List.mem_map, List.mem_range] at hc
    obtain ⟨i, hi, rfl⟩ := hc
    exact fun j hj => hfit i hi j hj
theorem fold_flatQ {α : Type} {G : Alg α} {d : Dat} (h : Fits d .queries) : fold G d .queries = G.of (d.els.map (foldQ G)) := by
  cases d with
  | v x => exact h.elim
  | sl n k f => exact fold_queries G
theorem preQ {q : Nd} (h : ∀ j (hj : j < (rowTy .queries).length), Fits (q j) ((rowTy .queries)[j])) : foldQ preA q = (exprsOf q).flatMap (foldE preA) := by
  rw [foldQ_is preA_good (h 1 (by decide)) (h 2 (by decide)) (h 3 (by decide)) (h 4 (by decide)), preA_of]
  rfl
theorem flatMap_congr' {α β : Type} {f g : α → List β} : ∀ {l : List α}, (∀ a ∈ l, f a = g a) → l.flatMap f = l.flatMap g
  | [], _ => rfl
  | a :: l, h => by
    rw [List.flatMap_cons, List.flatMap_cons, h a (List.mem_cons_self ..), flatMap_congr' fun b hb => h b (List.mem_cons_of_mem _ hb)]
theorem pre_eq (d : Nat) {c : Nd} (h8 : Fits (c 8) .exprs) (h9 : Fits (c 9) .queries) : pre d c = (d, c) :: (parts c).flatMap (pre (d + 1)) := by
  have e : foldE preA c = (0, c) :: ((parts c).flatMap (foldE preA)).map (shift 1) := by
    have e8 := fold_flat preA h8
    have e9 := fold_flatQ (G := preA) h9
    rw [preA_of] at e8 e9
    rw [flatMap_congr' fun q hq => preQ (els_fits h9 hq)] at e9
    unfold foldE parts
    rw [e8, e9, List.flatMap_append, List.flatMap_assoc]
    rfl
  unfold pre
  rw [e, List.map_cons, List.map_map, List.map_flatMap]
  have hs : shift d ∘ shift 1 = shift (d + 1) := by funext p; show (p.1 + 1 + d, p.2) = _; rw [Nat.add_assoc, Nat.add_comm 1 d]; rfl
  rw [hs]
  show (0 + d, c) :: _ = _
  rw [Nat.zero_add]
theorem fold_hom {α β : Type} {G : Alg α} {H : Alg β} (h : α → β) (hu : ∀ a b, h (G.up a b) = H.up (h a) (h b)) (hz : h G.z = H.z)
    (hn : ∀ c a, h (G.node c a) = H.node c (h a)) (hq : ∀ c a, h (G.qn c a) = H.qn c (h a)) : ∀ (d : Dat) (ty : Ty), h (fold G d ty) = fold H d ty
  | .v _, ty => by cases ty <;> exact hz
  | .sl n k f, ty => by
    have IH : ∀ i j ty, h (fold G (f i j) ty) = fold H (f i j) ty := fun i j ty => fold_hom h hu hz hn hq (f i j) ty
    have hof : ∀ (l : List α) (a : α), h (l.foldl G.up a) = (l.map h).foldl H.up (h a) := fun l => by
      induction l with
      | nil => intro a; rfl
      | cons b l ih => intro a; rw [List.foldl_cons, ih, hu]; rfl
    have hof' : ∀ l : List α, h (G.of l) = H.of (l.map h) := fun l => by unfold Alg.of; rw [hof, hz]
    cases ty
    case int => exact hz
    case bool => exact hz
    case str => exact hz
    case names => exact hz
    case rows => rw [fold, fold, hof', List.map_map]; congr 2; funext i; exact IH _ _ _
    case exprs => rw [fold, fold, hof', List.map_map]; congr 2; funext i; show h (G.node _ _) = _; rw [hn, hu, IH, IH]
    case items =>
      rw [fold, fold, hof', List.map_map]; congr 2; funext i
      show h (if (f i 0).tru then G.z else _) = _
      by_cases ht : (f i 0).tru
      · rw [if_pos ht, if_pos ht]; exact hz
      · rw [if_neg ht, if_neg ht, hn, hu, IH, IH]
    case sources => rw [fold, fold, hof', List.map_map]; congr 2; funext i; exact IH _ _ _
    case keys => rw [fold, fold, hof', List.map_map]; congr 2; funext i; show h (G.node _ _) = _; rw [hn, hu, IH, IH]
    case queries => rw [fold, fold, hof', List.map_map]; congr 2; funext i; show h (G.qn _ _) = _; rw [hq, hu, hu, hu, IH, IH, IH, IH]
theorem fold_homE {α β : Type} {G : Alg α} {H : Alg β} (h : α → β) (hu : ∀ a b, h (G.up a b) = H.up (h a) (h b)) (hz : h G.z = H.z)
    (hn : ∀ c a, h (G.node c a) = H.node c (h a)) (hq : ∀ c a, h (G.qn c a) = H.qn c (h a)) (c : Nd) : h (foldE G c) = foldE H c := by
  unfold foldE; rw [hn, hu, fold_hom h hu hz hn hq, fold_hom h hu hz hn hq]
/-- the deepest of some nodes -/
def mx (l : List (Nat × Nd)) : Nat := l.foldr (fun p m => max p.1 m) 0
theorem mx_append (l r : List (Nat × Nd)) : mx (l ++ r) = max (mx l) (mx r) := by
  induction l with
  | nil => show mx r = max 0 (mx r); omega
  | cons a l ih => show max a.1 (mx (l ++ r)) = max (max a.1 (mx l)) (mx r); rw [ih]; omega
theorem mx_up (d : Nat) (l : List (Nat × Nd)) : max (d + 1) (mx (l.map (shift (d + 1 + 1)))) = max d (mx (l.map (shift (d + 1)))) + 1 := by
  induction l with
  | nil => show max (d + 1) 0 = max d 0 + 1; omega
  | cons a l ih =>
    show max (d + 1) (max (a.1 + (d + 1 + 1)) (mx (l.map (shift (d + 1 + 1))))) = max d (max (a.1 + (d + 1)) (mx (l.map (shift (d + 1))))) + 1
    omega
theorem mx_pre (c : Nd) : mx (pre 1 c) = foldE depA c := by
  refine fold_homE (G := preA) (H := depA) (fun l => mx (l.map (shift 1))) (fun a b => ?_) rfl (fun c l => ?_) (fun _ _ => rfl) c
  · show mx ((a ++ b).map _) = max _ _
    rw [List.map_append, mx_append]
  · have h := mx_up 0 l
    show max (0 + 1) (mx ((l.map (shift 1)).map (shift 1))) = mx (l.map (shift 1)) + 1
    rw [List.map_map]
    have hs : shift 1 ∘ shift 1 = shift (0 + 1 + 1) := by funext p; rfl
    rw [hs, h]
    show max 0 (mx (l.map (shift (0 + 1)))) + 1 = mx (l.map (shift 1)) + 1
    rw [Nat.zero_max]
theorem len_pre (d : Nat) (c : Nd) : (pre d c).length = foldE sizA c := by
  unfold pre
  rw [List.length_map]
  exact fold_homE (G := preA) (H := sizA) List.length (fun a b => List.length_append) rfl (fun c l => by show ((0, c) :: l.map _).length = l.length + 1; simp) (fun _ _ => rfl) c
theorem mx_flat (l : List Nd) : mx (l.flatMap (pre 1)) = depA.of (l.map (foldE depA)) := by
  induction l with
  | nil => rfl
  | cons c l ih => rw [List.flatMap_cons, mx_append, ih, mx_pre, List.map_cons, depA_good.of_cons]; rfl
theorem len_flat (d : Nat) (l : List Nd) : (l.flatMap (pre d)).length = sizA.of (l.map (foldE sizA)) := by
  induction l with
  | nil => rfl
  | cons c l ih => rw [List.flatMap_cons, List.length_append, ih, len_pre, List.map_cons, sizA_good.of_cons]; rfl
theorem take_next {α : Type} {l : List α} {i : Nat} {x : α} (h : l[i]? = some x) : l.take (i + 1) = l.take i ++ [x] := by
  rw [List.take_add_one, h]; rfl
/-- the nodes that a stack has still to come: its lists, the last first -/
def togo : List (Nat × List Nd) → List (Nat × Nd)
  | [] => []
  | (d, L) :: r => L.flatMap (pre d) ++ togo r
end Go.Proofs.Ytfmgkinindkedaa

/- Trees that are the same: as a plain function on data with depth. No program. -/
namespace Go.Proofs.Ytfmgkinindkedaa
open Go.RowKit

def eqV : Value → Value → Bool
  | .int _ a, .int _ b => a == b
  | .bool a, .bool b => a == b
  | .string a, .string b => decide (a = b)
  | _, _ => false
/-- the same data of one type -/
def same : Dat → Dat → Ty → Bool
  | .v x, .v y, _ => eqV x y
  | .sl n _ f, d', ty => (n == d'.len) && (List.range n).all fun i => (List.range (rowTy ty).length).all fun j => same (f i j) (d'.el i j) ((rowTy ty).getD j .int)
  | _, _, _ => false
/-- the cells of two elements -/
def sameC (tys : List Ty) (c c' : Nat → Dat) : Bool := (List.range tys.length).all fun j => same (c j) (c' j) (tys.getD j .int)
theorem same_sl (n k : Nat) (f : Nat → Nat → Dat) (n' k' : Nat) (f' : Nat → Nat → Dat) (ty : Ty) :
    same (.sl n k f) (.sl n' k' f') ty = ((n == n') && (List.range n).all fun i => sameC (rowTy ty) (f i) (f' i)) := by rw [same]; rfl
theorem all_succ (n : Nat) (p : Nat → Bool) : (List.range (n + 1)).all p = ((List.range n).all p && p n) := by rw [List.range_succ]; simp
theorem same_int (k : IntKind) (a b : Int) (ty : Ty) : same (.v (.int k a)) (.v (.int k b)) ty = (a == b) := by unfold same; rfl
theorem same_bool (a b : Bool) (ty : Ty) : same (.v (.bool a)) (.v (.bool b)) ty = (a == b) := by unfold same; rfl
theorem same_str (a b : ByteArray) (ty : Ty) : same (.v (.string a)) (.v (.string b)) ty = decide (a = b) := by unfold same; rfl
/-- two expressions, their fields told apart -/
def sameFields (x0 y0 x1 y1 : Int) (x2 y2 : Bool) (x3 y3 x4 y4 : Int) (x5 y5 x6 y6 x7 y7 : ByteArray) (ks ss : Bool) : Bool :=
  (x0 == y0) && ((x1 == y1) && ((x2 == y2) && ((x3 == y3) && ((x4 == y4) && (decide (x5 = y5) && (decide (x6 = y6) && (decide (x7 = y7) && (ks && ss))))))))
theorem sameC_expr {c c' : Nat → Dat} {x0 y0 x1 y1 : Int} {x2 y2 : Bool} {x3 y3 x4 y4 : Int} {x5 y5 x6 y6 x7 y7 : ByteArray}
    (e0 : c 0 = .v (.int .i64 x0)) (l0 : c' 0 = .v (.int .i64 y0)) (e1 : c 1 = .v (.int .i64 x1)) (l1 : c' 1 = .v (.int .i64 y1)) (e2 : c 2 = .v (.bool x2)) (l2 : c' 2 = .v (.bool y2))
    (e3 : c 3 = .v (.int .i64 x3)) (l3 : c' 3 = .v (.int .i64 y3)) (e4 : c 4 = .v (.int .i64 x4)) (l4 : c' 4 = .v (.int .i64 y4)) (e5 : c 5 = .v (.string x5)) (l5 : c' 5 = .v (.string y5))
    (e6 : c 6 = .v (.string x6)) (l6 : c' 6 = .v (.string y6)) (e7 : c 7 = .v (.string x7)) (l7 : c' 7 = .v (.string y7)) :
    sameC exprTy c c' = sameFields x0 y0 x1 y1 x2 y2 x3 y3 x4 y4 x5 y5 x6 y6 x7 y7 (same (c 8) (c' 8) .exprs) (same (c 9) (c' 9) .queries) := by
  unfold sameC sameFields
  simp only [exprTy, List.length_cons, List.length_nil, Nat.zero_add, Nat.reduceAdd, List.range_succ, List.range_zero, List.nil_append, List.cons_append, List.all_cons, List.all_nil, Bool.and_true, List.getD_cons_succ, List.getD_cons_zero, e0, l0, e1, l1, e2, l2, e3, l3, e4, l4, e5, l5, e6, l6, e7, l7, same_int, same_bool, same_str]
end Go.Proofs.Ytfmgkinindkedaa

/- Contracts of the model's test on values and of the makers of values. -/
namespace Go.Proofs.Ytfmgkinindkedaa
open Go.RowKit

/-- the document's condition on a value -/
def valOk (k n : Int) (t : List UInt8) : Bool :=
  if k = 0 then decide (n = 0) && decide (t = [])
  else if k = 1 then decide (t = [])
  else if k = 2 then decide (n = 0) && decide ((t.length : Int) ≤ 200)
  else if k = 3 then (decide (0 ≤ n) && decide (n ≤ 1)) && decide (t = [])
  else false
theorem beq_nil (s : ByteArray) : (s.toList == []) = decide (s.data.toList = []) := beq_lit s []

set_option maxRecDepth 100000 in
set_option maxHeartbeats 800000 in
theorem intValue_spec (n : Int) (w : World) : Calls Try.prog 193 #[.int .i64 n] w (CopyV 1 n ⟨#[]⟩ w) := by
  have hR := heap_alloc_new w (.cells #[.int .i64 1, .int .i64 n, .string ⟨#[]⟩] 53)
  have f0 := cell_of_row _ w.heap.size 0 _ 53 (0, 0) hR
  have f1 := cell_of_row _ w.heap.size 1 _ 53 (0, 0) hR
  have f2 := cell_of_row _ w.heap.size 2 _ 53 (0, 0) hR
  have hb := (Below.refl w.heap.size w).alloc (Nat.le_refl _) (.cells #[.int .i64 1, .int .i64 n, .string ⟨#[]⟩] 53)
  go_enter Try.func193, Try.ntmps193
  go_wp2_with fail
  generalize w.alloc (.cells #[.int .i64 1, .int .i64 n, .string ⟨#[]⟩] 53) = wf at f0 f1 f2 hb ⊢
  refine bodyPost_ret (v := .agg #[.int .i64 1, .int .i64 n, .string ⟨#[]⟩]) (by simp [results, Try.results193, go_sem, f0, f1, f2]) rfl ?_
  exact ⟨rfl, hb⟩
set_option maxRecDepth 100000 in
set_option maxHeartbeats 800000 in
theorem textValue_spec (s : ByteArray) (w : World) : Calls Try.prog 191 #[.string s] w (CopyV 2 0 s w) := by
  have hR := heap_alloc_new w (.cells #[.int .i64 2, .int .i64 0, .string s] 53)
  have f0 := cell_of_row _ w.heap.size 0 _ 53 (0, 0) hR
  have f1 := cell_of_row _ w.heap.size 1 _ 53 (0, 0) hR
  have f2 := cell_of_row _ w.heap.size 2 _ 53 (0, 0) hR
  have hb := (Below.refl w.heap.size w).alloc (Nat.le_refl _) (.cells #[.int .i64 2, .int .i64 0, .string s] 53)
  go_enter Try.func191, Try.ntmps191
  go_wp2_with fail
  generalize w.alloc (.cells #[.int .i64 2, .int .i64 0, .string s] 53) = wf at f0 f1 f2 hb ⊢
  refine bodyPost_ret (v := .agg #[.int .i64 2, .int .i64 0, .string s]) (by simp [results, Try.results191, go_sem, f0, f1, f2]) rfl ?_
  exact ⟨rfl, hb⟩
set_option maxRecDepth 100000 in
set_option maxHeartbeats 800000 in
theorem boolValue_spec (b : Bool) (w : World) : Calls Try.prog 192 #[.bool b] w (CopyV 3 (if b then 1 else 0) ⟨#[]⟩ w) := by
  cases b
  · have hR := heap_alloc_new w (.cells #[.int .i64 3, .int .i64 0, .string ⟨#[]⟩] 53)
    have f0 := cell_of_row _ w.heap.size 0 _ 53 (0, 0) hR
    have f1 := cell_of_row _ w.heap.size 1 _ 53 (0, 0) hR
    have f2 := cell_of_row _ w.heap.size 2 _ 53 (0, 0) hR
    have hb := (Below.refl w.heap.size w).alloc (Nat.le_refl _) (.cells #[.int .i64 3, .int .i64 0, .string ⟨#[]⟩] 53)
    go_enter Try.func192, Try.ntmps192
    go_wp2_with fail
    generalize w.alloc (.cells #[.int .i64 3, .int .i64 0, .string ⟨#[]⟩] 53) = wf at f0 f1 f2 hb ⊢
    refine bodyPost_ret (v := .agg #[.int .i64 3, .int .i64 0, .string ⟨#[]⟩]) (by simp [results, Try.results192, go_sem, f0, f1, f2]) rfl ?_
    exact ⟨rfl, hb⟩
  · have hR := heap_alloc_new w (.cells #[.int .i64 3, .int .i64 1, .string ⟨#[]⟩] 53)
    have f0 := cell_of_row _ w.heap.size 0 _ 53 (0, 0) hR
    have f1 := cell_of_row _ w.heap.size 1 _ 53 (0, 0) hR
    have f2 := cell_of_row _ w.heap.size 2 _ 53 (0, 0) hR
    have hb := (Below.refl w.heap.size w).alloc (Nat.le_refl _) (.cells #[.int .i64 3, .int .i64 1, .string ⟨#[]⟩] 53)
    go_enter Try.func192, Try.ntmps192
    go_wp2_with fail
    generalize w.alloc (.cells #[.int .i64 3, .int .i64 1, .string ⟨#[]⟩] 53) = wf at f0 f1 f2 hb ⊢
    refine bodyPost_ret (v := .agg #[.int .i64 3, .int .i64 1, .string ⟨#[]⟩]) (by simp [results, Try.results192, go_sem, f0, f1, f2]) rfl ?_
    exact ⟨rfl, hb⟩
end Go.Proofs.Ytfmgkinindkedaa

/- When a tree is right: node by node, and as a whole. No program. -/
namespace Go.Proofs.Ytfmgkinindkedaa
open Go.RowKit

def Dat.num : Dat → Int
  | .v (.int _ n) => n
  | _ => 0
def Dat.txt : Dat → ByteArray
  | .v (.string s) => s
  | _ => ⟨#[]⟩
/-- a value that is one token -/
def litB (k n : Int) (t : ByteArray) : Bool := valOk k n t.data.toList && (decide (0 ≤ n) && decide ((t.size : Int) ≤ 40))
def emptyB (s : ByteArray) : Bool := decide (s.size = 0)
def optB (s : ByteArray) : Bool := emptyB s || okLen s.size
def zeroV (k n : Int) (t : ByteArray) : Bool := (k == 0) && ((n == 0) && emptyB t)
/-- the fields but the names and the parts -/
def headB (k op : Int) (nt : Bool) (vk vn : Int) (vt : ByteArray) : Bool :=
  if k = 1 then (op == 0) && (!nt && litB vk vn vt)
  else if k = 3 then !nt && (zeroV vk vn vt && ((op == 15) || (op == 16)))
  else if k = 4 then !nt && (zeroV vk vn vt && (decide (1 ≤ op) && decide (op ≤ 14)))
  else if k = 5 ∨ k = 6 ∨ k = 7 ∨ k = 8 then (op == 0) && zeroV vk vn vt
  else if k = 2 ∨ k = 9 then (op == 0) && (!nt && zeroV vk vn vt)
  else false
def namesB (k : Int) (q n : ByteArray) : Bool := if k = 2 then okLen n.size && optB q else emptyB q && emptyB n
def takesB (k : Int) (a b : Nat) : Bool :=
  if k = 1 ∨ k = 2 then (a == 0) && (b == 0)
  else if k = 3 ∨ k = 5 then (a == 1) && (b == 0)
  else if k = 4 then (a == 2) && (b == 0)
  else if k = 6 then (a == 3) && (b == 0)
  else if k = 7 then (decide (2 ≤ a) && decide (a ≤ 9)) && (b == 0)
  else if k = 8 then (a == 1) && (b == 1)
  else if k = 9 then (a == 0) && (b == 1)
  else false
def shapeF (k op : Int) (nt : Bool) (vk vn : Int) (vt q n : ByteArray) (a b : Nat) : Bool := headB k op nt vk vn vt && (namesB k q n && takesB k a b)
def shapeB (c : Nat → Dat) : Bool := shapeF (c 0).num (c 1).num (c 2).tru (c 3).num (c 4).num (c 5).txt (c 6).txt (c 7).txt (c 8).len (c 9).len
/-- the expression with nothing in it -/
def zeroNd : Nat → Dat := fun j => match j with
  | 0 => .v (.int .i64 0) | 1 => .v (.int .i64 0) | 2 => .v (.bool false) | 3 => .v (.int .i64 0) | 4 => .v (.int .i64 0) | 5 => .v (.string ⟨#[]⟩) | 6 => .v (.string ⟨#[]⟩) | 7 => .v (.string ⟨#[]⟩)
  | 8 => .sl 0 10 fun _ _ => .v undef
  | _ => .sl 0 6 fun _ _ => .v undef
def itemB (x : Nat → Dat) : Bool :=
  if (x 0).tru then optB (x 1).txt && (emptyB (x 12).txt && sameC exprTy (cut 2 x) zeroNd) else emptyB (x 1).txt && optB (x 12).txt
def sourceB (x : Nat → Dat) : Bool := okLen (x 0).txt.size && (optB (x 1).txt && decide ((x 2).len ≤ 1))
/-- the first source bears no condition -/
def firstB (d : Dat) : Bool := (d.el 0 2).len == 0
def frameB (q : Nat → Dat) : Bool :=
  (decide (1 ≤ (q 1).len) && decide ((q 1).len ≤ 12)) && ((q 1).els.all itemB && ((decide (1 ≤ (q 2).len) && decide ((q 2).len ≤ 3)) && ((q 2).els.all sourceB &&
    (firstB (q 2) && (decide ((q 3).len ≤ 1) && (decide ((q 4).len ≤ 12) && decide (-1 ≤ (q 5).num)))))))
def nodeB (c : Nat → Dat) : Bool := shapeB c && (c 9).els.all frameB
/-- node by node; and query by query -/
def okA : Alg Bool := ⟨and, true, fun c b => nodeB c && b, fun _ b => b⟩
def rightA : Alg Bool := ⟨and, true, fun c b => shapeB c && b, fun q b => frameB q && b⟩
theorem okA_good : okA.Good := ⟨fun a b c => Bool.and_assoc a b c, fun a => Bool.true_and a, fun a => Bool.and_true a⟩
theorem rightA_good : rightA.Good := ⟨fun a b c => Bool.and_assoc a b c, fun a => Bool.true_and a, fun a => Bool.and_true a⟩
theorem okA_of (l : List Bool) : okA.of l = l.all id := by
  induction l with
  | nil => rfl
  | cons a l ih => rw [okA_good.of_cons, ih]; rfl
theorem rightA_of (l : List Bool) : rightA.of l = l.all id := by
  induction l with
  | nil => rfl
  | cons a l ih => rw [rightA_good.of_cons, ih]; rfl
theorem all_and {β : Type} (p q : β → Bool) (l : List β) : (l.all fun x => p x && q x) = (l.all p && l.all q) := by
  induction l with
  | nil => rfl
  | cons a l ih => rw [List.all_cons, List.all_cons, List.all_cons, ih]; cases p a <;> cases q a <;> cases l.all p <;> cases l.all q <;> rfl
/-- the frames of the queries are told at the node above them -/
theorem right_ok : ∀ (d : Dat) (ty : Ty), fold rightA d ty = ((match ty with | .queries => d.els.all frameB | _ => true) && fold okA d ty)
  | .v _, ty => by cases ty <;> rfl
  | .sl n k f, ty => by
    have IH : ∀ i j ty, fold rightA (f i j) ty = ((match ty with | .queries => (f i j).els.all frameB | _ => true) && fold okA (f i j) ty) := fun i j ty => right_ok (f i j) ty
    have HE : ∀ (c : Nat → Dat) i a b, c 9 = f i b → (shapeB c && (fold rightA (f i a) .exprs && fold rightA (f i b) .queries)) = (nodeB c && (fold okA (f i a) .exprs && fold okA (f i b) .queries)) := fun c i a b hc => by
      rw [IH i a .exprs, IH i b .queries]
      unfold nodeB
      rw [hc]
      show (shapeB c && ((true && fold okA (f i a) .exprs) && ((f i b).els.all frameB && fold okA (f i b) .queries))) = _
      cases shapeB c <;> cases (f i b).els.all frameB <;> cases fold okA (f i a) .exprs <;> rfl
    have HL : ∀ g h : Nat → Bool, (∀ i, g i = h i) → rightA.of ((List.range n).map g) = (true && okA.of ((List.range n).map h)) := fun g h e => by
      rw [rightA_of, okA_of, Bool.true_and]
      congr 2
      funext i; exact e i
    cases ty
    case int => rfl
    case bool => rfl
    case str => rfl
    case names => rfl
    case rows => rw [fold, fold]; exact HL _ _ fun i => by rw [IH i 0 .exprs]; rfl
    case exprs => rw [fold, fold]; exact HL _ _ fun i => HE (f i) i 8 9 rfl
    case keys => rw [fold, fold]; exact HL _ _ fun i => HE (f i) i 8 9 rfl
    case items =>
      rw [fold, fold]
      refine HL _ _ fun i => ?_
      cases (f i 0).tru
      · exact HE (cut 2 (f i)) i 10 11 rfl
      · rfl
    case sources => rw [fold, fold]; exact HL _ _ fun i => by rw [IH i 2 .exprs]; rfl
    case queries =>
      rw [fold, fold, rightA_of, okA_of]
      show _ = (((List.range n).map f).all frameB && _)
      rw [List.all_map, List.all_map, List.all_map]
      show ((List.range n).all fun i => frameB (f i) && _) = _
      rw [all_and]
      congr 2
      funext i
      show (((fold rightA (f i 1) .items && fold rightA (f i 2) .sources) && fold rightA (f i 3) .exprs) && fold rightA (f i 4) .keys) = _
      rw [IH i 1 .items, IH i 2 .sources, IH i 3 .exprs, IH i 4 .keys]
      rfl
theorem rightE_ok (c : Nat → Dat) : foldE rightA c = foldE okA c := by
  show (shapeB c && (fold rightA (c 8) .exprs && fold rightA (c 9) .queries)) = (nodeB c && (fold okA (c 8) .exprs && fold okA (c 9) .queries))
  rw [right_ok (c 8) .exprs, right_ok (c 9) .queries]
  unfold nodeB
  show (shapeB c && ((true && fold okA (c 8) .exprs) && ((c 9).els.all frameB && fold okA (c 9) .queries))) = _
  cases shapeB c <;> cases (c 9).els.all frameB <;> cases fold okA (c 8) .exprs <;> rfl
theorem rightQ_ok {q : Nat → Dat} (h1 : Fits (q 1) .items) (h2 : Fits (q 2) .sources) (h3 : Fits (q 3) .exprs) (h4 : Fits (q 4) .keys) : foldQ rightA q = (frameB q && (exprsOf q).all (foldE okA)) := by
  rw [foldQ_is rightA_good h1 h2 h3 h4]
  show (frameB q && rightA.of _) = _
  rw [rightA_of, List.all_map]
  congr 2
  funext c; exact rightE_ok c
/-- all nodes of a tree in order -/
theorem ok_pre (d : Nat) (c : Nd) : foldE okA c = (pre d c).all fun p => nodeB p.2 := by
  unfold pre
  rw [List.all_map]
  refine (fold_homE (G := preA) (H := okA) (fun l => l.all fun p => nodeB p.2) (fun a b => ?_) rfl (fun c l => ?_) (fun _ _ => rfl) c).symm
  · show (a ++ b).all _ = (a.all _ && b.all _)
    rw [List.all_append]
  · show (((0, c) :: l.map (shift 1)).all _) = (nodeB c && l.all _)
    rw [List.all_cons, List.all_map]
    rfl
theorem ok_flat (d : Nat) (L : List Nd) : L.all (foldE okA) = (L.flatMap (pre d)).all fun p => nodeB p.2 := by
  induction L with
  | nil => rfl
  | cons c L ih => rw [List.all_cons, List.flatMap_cons, List.all_append, ← ih, ← ok_pre]
/-- the deepest is no deeper than n where none is -/
theorem mx_le (l : List (Nat × Nd)) (n : Nat) : decide (mx l ≤ n) = l.all fun p => decide (p.1 ≤ n) := by
  induction l with
  | nil => show decide (0 ≤ n) = true; simp
  | cons a l ih =>
    rw [List.all_cons, ← ih]
    show decide (max a.1 (mx l) ≤ n) = _
    rw [← Bool.decide_and, decide_eq_decide]; omega
/-- all that the program asks of the nodes of some trees -/
def listOk (L : List Nd) : Bool := L.all (foldE okA) && (decide (mx (L.flatMap (pre 1)) ≤ 24) && decide ((L.flatMap (pre 1)).length ≤ 200))
/-- at the place i of the walk -/
def stepOk (i : Nat) (p : Nat × Nd) : Bool := decide (p.1 ≤ 24) && (decide (i + 1 ≤ 200) && nodeB p.2)
theorem listOk_true {L : List Nd} {xs : List (Nat × Nd)} (hx : L.flatMap (pre 1) = xs) (h : ∀ i p, xs[i]? = some p → stepOk i p = true) : listOk L = true := by
  unfold listOk
  rw [ok_flat 1, mx_le, hx]
  have h1 : ∀ p ∈ xs, p.1 ≤ 24 ∧ nodeB p.2 = true := fun p hp => by
    obtain ⟨i, hi⟩ := List.getElem?_of_mem hp
    have := h i p hi
    unfold stepOk at this
    simp only [Bool.and_eq_true, decide_eq_true_eq] at this
    exact ⟨this.1, this.2.2⟩
  have h2 : xs.length ≤ 200 := by
    by_cases e : xs.length = 0
    · omega
    · have := h (xs.length - 1) xs[xs.length - 1] (List.getElem?_eq_getElem (by omega))
      unfold stepOk at this
      simp only [Bool.and_eq_true, decide_eq_true_eq] at this
      omega
  simp only [Bool.and_eq_true, List.all_eq_true, decide_eq_true_eq]
  exact ⟨fun p hp => (h1 p hp).2, fun p hp => (h1 p hp).1, h2⟩
theorem listOk_false {L : List Nd} {xs : List (Nat × Nd)} (hx : L.flatMap (pre 1) = xs) {i : Nat} {p : Nat × Nd} (hi : xs[i]? = some p) (h : stepOk i p = false) : listOk L = false := by
  refine Bool.eq_false_iff.2 fun hL => ?_
  unfold listOk at hL
  rw [ok_flat 1, mx_le, hx] at hL
  simp only [Bool.and_eq_true, List.all_eq_true, decide_eq_true_eq] at hL
  have hm := List.mem_of_getElem? hi
  have hlt := (List.getElem?_eq_some_iff.1 hi).1
  have h1 := hL.1 p hm
  have h2 := hL.2.1 p hm
  have h3 := hL.2.2
  unfold stepOk at h
  rw [h1, decide_eq_true h2, decide_eq_true (by omega : i + 1 ≤ 200)] at h
  cases h
theorem listOk_is (L : List Nd) : listOk L = (L.all (foldE okA) && (decide (depA.of (L.map (foldE depA)) ≤ 24) && decide (sizA.of (L.map (foldE sizA)) ≤ 200))) := by
  unfold listOk
  rw [mx_flat, len_flat]
end Go.Proofs.Ytfmgkinindkedaa
