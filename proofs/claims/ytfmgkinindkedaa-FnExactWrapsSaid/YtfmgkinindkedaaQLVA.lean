/- Joined texts: ValS OkMath LevMath. -/
import Derived.Test.YtfmgkinindkedaaQSTE
import Derived.Test.YtfmgkinindkedaaQSTD
import Derived.Test.YtfmgkinindkedaaQSTH
import Derived.Test.YtfmgkinindkedaaQSUD
import Derived.Test.YtfmgkinindkedaaQSTC
import Derived.Test.YtfmgkinindkedaaQHFoldS
/- Contracts of the model's test on values and of the makers of values. -/
namespace Go.Proofs.Ytfmgkinindkedaa
open Go.RowKit

/-- the document's condition on a value -/
def valOk (k n : Int) (t : List UInt8) : Bool :=
  if k = 0 then decide (n = 0) && decide (t = [])
  else if k = 1 then decide (t = [])
  else if k = 2 then decide (n = 0) && decide ((t.length : Int) ≤ 200)
  else if k = 3 then (decide (0 ≤ n) && decide (n ≤ 1)) && decide (t = [])
  else false
theorem beq_nil (s : ByteArray) : (s.toList == []) = decide (s.data.toList = []) := beq_lit s []

set_option maxRecDepth 100000 in
set_option maxHeartbeats 800000 in
theorem intValue_spec (n : Int) (w : World) : Calls Try.prog 193 #[.int .i64 n] w (CopyV 1 n ⟨#[]⟩ w) := by
  have hR := heap_alloc_new w (.cells #[.int .i64 1, .int .i64 n, .string ⟨#[]⟩] 53)
  have f0 := cell_of_row _ w.heap.size 0 _ 53 (0, 0) hR
  have f1 := cell_of_row _ w.heap.size 1 _ 53 (0, 0) hR
  have f2 := cell_of_row _ w.heap.size 2 _ 53 (0, 0) hR
  have hb := (Below.refl w.heap.size w).alloc (Nat.le_refl _) (.cells #[.int .i64 1, .int .i64 n, .string ⟨#[]⟩] 53)
  go_enter Try.func193, Try.ntmps193
  go_wp2_with fail
  generalize w.alloc (.cells #[.int .i64 1, .int .i64 n, .string ⟨#[]⟩] 53) = wf at f0 f1 f2 hb ⊢
  refine bodyPost_ret (v := .agg #[.int .i64 1, .int .i64 n, .string ⟨#[]⟩]) (by simp [results, Try.results193, go_sem, f0, f1, f2]) rfl ?_
  exact ⟨rfl, hb⟩
set_option maxRecDepth 100000 in
set_option maxHeartbeats 800000 in
theorem textValue_spec (s : ByteArray) (w : World) : Calls Try.prog 191 #[.string s] w (CopyV 2 0 s w) := by
  have hR := heap_alloc_new w (.cells #[.int .i64 2, .int .i64 0, .string s] 53)
  have f0 := cell_of_row _ w.heap.size 0 _ 53 (0, 0) hR
  have f1 := cell_of_row _ w.heap.size 1 _ 53 (0, 0) hR
  have f2 := cell_of_row _ w.heap.size 2 _ 53 (0, 0) hR
  have hb := (Below.refl w.heap.size w).alloc (Nat.le_refl _) (.cells #[.int .i64 2, .int .i64 0, .string s] 53)
  go_enter Try.func191, Try.ntmps191
  go_wp2_with fail
  generalize w.alloc (.cells #[.int .i64 2, .int .i64 0, .string s] 53) = wf at f0 f1 f2 hb ⊢
  refine bodyPost_ret (v := .agg #[.int .i64 2, .int .i64 0, .string s]) (by simp [results, Try.results191, go_sem, f0, f1, f2]) rfl ?_
  exact ⟨rfl, hb⟩
set_option maxRecDepth 100000 in
set_option maxHeartbeats 800000 in
theorem boolValue_spec (b : Bool) (w : World) : Calls Try.prog 192 #[.bool b] w (CopyV 3 (if b then 1 else 0) ⟨#[]⟩ w) := by
  cases b
  · have hR := heap_alloc_new w (.cells #[.int .i64 3, .int .i64 0, .string ⟨#[]⟩] 53)
    have f0 := cell_of_row _ w.heap.size 0 _ 53 (0, 0) hR
    have f1 := cell_of_row _ w.heap.size 1 _ 53 (0, 0) hR
    have f2 := cell_of_row _ w.heap.size 2 _ 53 (0, 0) hR
    have hb := (Below.refl w.heap.size w).alloc (Nat.le_refl _) (.cells #[.int .i64 3, .int .i64 0, .string ⟨#[]⟩] 53)
    go_enter Try.func192, Try.ntmps192
    go_wp2_with fail
    generalize w.alloc (.cells #[.int .i64 3, .int .i64 0, .string ⟨#[]⟩] 53) = wf at f0 f1 f2 hb ⊢
    refine bodyPost_ret (v := .agg #[.int .i64 3, .int .i64 0, .string ⟨#[]⟩]) (by simp [results, Try.results192, go_sem, f0, f1, f2]) rfl ?_
    exact ⟨rfl, hb⟩
  · have hR := heap_alloc_new w (.cells #[.int .i64 3, .int .i64 1, .string ⟨#[]⟩] 53)
    have f0 := cell_of_row _ w.heap.size 0 _ 53 (0, 0) hR
    have f1 := cell_of_row _ w.heap.size 1 _ 53 (0, 0) hR
    have f2 := cell_of_row _ w.heap.size 2 _ 53 (0, 0) hR
    have hb := (Below.refl w.heap.size w).alloc (Nat.le_refl _) (.cells #[.int .i64 3, .int .i64 1, .string ⟨#[]⟩] 53)
    go_enter Try.func192, Try.ntmps192
    go_wp2_with fail
    generalize w.alloc (.cells #[.int .i64 3, .int .i64 1, .string ⟨#[]⟩] 53) = wf at f0 f1 f2 hb ⊢
    refine bodyPost_ret (v := .agg #[.int .i64 3, .int .i64 1, .string ⟨#[]⟩]) (by simp [results, Try.results192, go_sem, f0, f1, f2]) rfl ?_
    exact ⟨rfl, hb⟩
end Go.Proofs.Ytfmgkinindkedaa

/- When a tree is right: node by node, and as a whole. No program. -/
namespace Go.Proofs.Ytfmgkinindkedaa
open Go.RowKit

def Dat.num : Dat → Int
  | .v (.int _ n) => n
  | _ => 0
def Dat.txt : Dat → ByteArray
  | .v (.string s) => s
  | _ => ⟨#[]⟩
/-- a value that is one token -/
def litB (k n : Int) (t : ByteArray) : Bool := valOk k n t.data.toList && (decide (0 ≤ n) && decide ((t.size : Int) ≤ 40))
def emptyB (s : ByteArray) : Bool := decide (s.size = 0)
def optB (s : ByteArray) : Bool := emptyB s || okLen s.size
def zeroV (k n : Int) (t : ByteArray) : Bool := (k == 0) && ((n == 0) && emptyB t)
/-- the fields but the names and the parts -/
def headB (k op : Int) (nt : Bool) (vk vn : Int) (vt : ByteArray) : Bool :=
  if k = 1 then (op == 0) && (!nt && litB vk vn vt)
  else if k = 3 then !nt && (zeroV vk vn vt && ((op == 15) || (op == 16)))
  else if k = 4 then !nt && (zeroV vk vn vt && (decide (1 ≤ op) && decide (op ≤ 14)))
  else if k = 5 ∨ k = 6 ∨ k = 7 ∨ k = 8 then (op == 0) && zeroV vk vn vt
  else if k = 2 ∨ k = 9 then (op == 0) && (!nt && zeroV vk vn vt)
  else false
def namesB (k : Int) (q n : ByteArray) : Bool := if k = 2 then okLen n.size && optB q else emptyB q && emptyB n
def takesB (k : Int) (a b : Nat) : Bool :=
  if k = 1 ∨ k = 2 then (a == 0) && (b == 0)
  else if k = 3 ∨ k = 5 then (a == 1) && (b == 0)
  else if k = 4 then (a == 2) && (b == 0)
  else if k = 6 then (a == 3) && (b == 0)
  else if k = 7 then (decide (2 ≤ a) && decide (a ≤ 9)) && (b == 0)
  else if k = 8 then (a == 1) && (b == 1)
  else if k = 9 then (a == 0) && (b == 1)
  else false
def shapeF (k op : Int) (nt : Bool) (vk vn : Int) (vt q n : ByteArray) (a b : Nat) : Bool := headB k op nt vk vn vt && (namesB k q n && takesB k a b)
def shapeB (c : Nat → Dat) : Bool := shapeF (c 0).num (c 1).num (c 2).tru (c 3).num (c 4).num (c 5).txt (c 6).txt (c 7).txt (c 8).len (c 9).len
/-- the expression with nothing in it -/
def zeroNd : Nat → Dat := fun j => match j with
  | 0 => .v (.int .i64 0) | 1 => .v (.int .i64 0) | 2 => .v (.bool false) | 3 => .v (.int .i64 0) | 4 => .v (.int .i64 0) | 5 => .v (.string ⟨#[]⟩) | 6 => .v (.string ⟨#[]⟩) | 7 => .v (.string ⟨#[]⟩)
  | 8 => .sl 0 10 fun _ _ => .v undef
  | _ => .sl 0 6 fun _ _ => .v undef
def itemB (x : Nat → Dat) : Bool :=
  if (x 0).tru then optB (x 1).txt && (emptyB (x 12).txt && sameC exprTy (cut 2 x) zeroNd) else emptyB (x 1).txt && optB (x 12).txt
def sourceB (x : Nat → Dat) : Bool := okLen (x 0).txt.size && (optB (x 1).txt && decide ((x 2).len ≤ 1))
/-- the first source bears no condition -/
def firstB (d : Dat) : Bool := (d.el 0 2).len == 0
def frameB (q : Nat → Dat) : Bool :=
  (decide (1 ≤ (q 1).len) && decide ((q 1).len ≤ 12)) && ((q 1).els.all itemB && ((decide (1 ≤ (q 2).len) && decide ((q 2).len ≤ 3)) && ((q 2).els.all sourceB &&
    (firstB (q 2) && (decide ((q 3).len ≤ 1) && (decide ((q 4).len ≤ 12) && decide (-1 ≤ (q 5).num)))))))
def nodeB (c : Nat → Dat) : Bool := shapeB c && (c 9).els.all frameB
/-- node by node; and query by query -/
def okA : Alg Bool := ⟨and, true, fun c b => nodeB c && b, fun _ b => b⟩
def rightA : Alg Bool := ⟨and, true, fun c b => shapeB c && b, fun q b => frameB q && b⟩
theorem okA_good : okA.Good := ⟨fun a b c => Bool.and_assoc a b c, fun a => Bool.true_and a, fun a => Bool.and_true a⟩
theorem rightA_good : rightA.Good := ⟨fun a b c => Bool.and_assoc a b c, fun a => Bool.true_and a, fun a => Bool.and_true a⟩
theorem okA_of (l : List Bool) : okA.of l = l.all id := by
  induction l with
  | nil => rfl
  | cons a l ih => rw [okA_good.of_cons, ih]; rfl
theorem rightA_of (l : List Bool) : rightA.of l = l.all id := by
  induction l with
  | nil => rfl
  | cons a l ih => rw [rightA_good.of_cons, ih]; rfl
theorem all_and {β : Type} (p q : β → Bool) (l : List β) : (l.all fun x => p x && q x) = (l.all p && l.all q) := by
  induction l with
  | nil => rfl
  | cons a l ih => rw [List.all_cons, List.all_cons, List.all_cons, ih]; cases p a <;> cases q a <;> cases l.all p <;> cases l.all q <;> rfl
/-- the frames of the queries are told at the node above them -/
theorem right_ok : ∀ (d : Dat) (ty : Ty), fold rightA d ty = ((match ty with | .queries => d.els.all frameB | _ => true) && fold okA d ty)
  | .v _, ty => by cases ty <;> rfl
  | .sl n k f, ty => by
    have IH : ∀ i j ty, fold rightA (f i j) ty = ((match ty with | .queries => (f i j).els.all frameB | _ => true) && fold okA (f i j) ty) := fun i j ty => right_ok (f i j) ty
    have HE : ∀ (c : Nat → Dat) i a b, c 9 = f i b → (shapeB c && (fold rightA (f i a) .exprs && fold rightA (f i b) .queries)) = (nodeB c && (fold okA (f i a) .exprs && fold okA (f i b) .queries)) := fun c i a b hc => by
      rw [IH i a .exprs, IH i b .queries]
      unfold nodeB
      rw [hc]
      show (shapeB c && ((true && fold okA (f i a) .exprs) && ((f i b).els.all frameB && fold okA (f i b) .queries))) = _
      cases shapeB c <;> cases (f i b).els.all frameB <;> cases fold okA (f i a) .exprs <;> rfl
    have HL : ∀ g h : Nat → Bool, (∀ i, g i = h i) → rightA.of ((List.range n).map g) = (true && okA.of ((List.range n).map h)) := fun g h e => by
      rw [rightA_of, okA_of, Bool.true_and]
      congr 2
      funext i; exact e i
    cases ty
    case int => rfl
    case bool => rfl
    case str => rfl
    case names => rfl
    case rows => rw [fold, fold]; exact HL _ _ fun i => by rw [IH i 0 .exprs]; rfl
    case exprs => rw [fold, fold]; exact HL _ _ fun i => HE (f i) i 8 9 rfl
    case keys => rw [fold, fold]; exact HL _ _ fun i => HE (f i) i 8 9 rfl
    case items =>
      rw [fold, fold]
      refine HL _ _ fun i => ?_
      cases (f i 0).tru
      · exact HE (cut 2 (f i)) i 10 11 rfl
      · rfl
    case sources => rw [fold, fold]; exact HL _ _ fun i => by rw [IH i 2 .exprs]; rfl
    case queries =>
      rw [fold, fold, rightA_of, okA_of]
      show _ = (((List.range n).map f).all frameB && _)
      rw [List.all_map, List.all_map, List.all_map]
      show ((List.range n).all fun i => frameB (f i) && _) = _
      rw [all_and]
      congr 2
      funext i
      show (((fold rightA (f i 1) .items && fold rightA (f i 2) .sources) && fold rightA (f i 3) .exprs) && fold rightA (f i 4) .keys) = _
      rw [IH i 1 .items, IH i 2 .sources, IH i 3 .exprs, IH i 4 .keys]
      rfl
theorem rightE_ok (c : Nat → Dat) : foldE rightA c = foldE okA c := by
  show (shapeB c && (fold rightA (c 8) .exprs && fold rightA (c 9) .queries)) = (nodeB c && (fold okA (c 8) .exprs && fold okA (c 9) .queries))
  rw [right_ok (c 8) .exprs, right_ok (c 9) .queries]
  unfold nodeB
  show (shapeB c && ((true && fold okA (c 8) .exprs) && ((c 9).els.all frameB && fold okA (c 9) .queries))) = _
  cases shapeB c <;> cases (c 9).els.all frameB <;> cases fold okA (c 8) .exprs <;> rfl
theorem rightQ_ok {q : Nat → Dat} (h1 : Fits (q 1) .items) (h2 : Fits (q 2) .sources) (h3 : Fits (q 3) .exprs) (h4 : Fits (q 4) .keys) : foldQ rightA q = (frameB q && (exprsOf q).all (foldE okA)) := by
  rw [foldQ_is rightA_good h1 h2 h3 h4]
  show (frameB q && rightA.of _) = _
  rw [rightA_of, List.all_map]
  congr 2
  funext c; exact rightE_ok c
/-- all nodes of a tree in order -/
theorem ok_pre (d : Nat) (c : Nd) : foldE okA c = (pre d c).all fun p => nodeB p.2 := by
  unfold pre
  rw [List.all_map]
  refine (fold_homE (G := preA) (H := okA) (fun l => l.all fun p => nodeB p.2) (fun a b => ?_) rfl (fun c l => ?_) (fun _ _ => rfl) c).symm
  · show (a ++ b).all _ = (a.all _ && b.all _)
    rw [List.all_append]
  · show (((0, c) :: l.map (shift 1)).all _) = (nodeB c && l.all _)
    rw [List.all_cons, List.all_map]
    rfl
theorem ok_flat (d : Nat) (L : List Nd) : L.all (foldE okA) = (L.flatMap (pre d)).all fun p => nodeB p.2 := by
  induction L with
  | nil => rfl
  | cons c L ih => rw [List.all_cons, List.flatMap_cons, List.all_append, ← ih, ← ok_pre]
/-- the deepest is no deeper than n where none is -/
theorem mx_le (l : List (Nat × Nd)) (n : Nat) : decide (mx l ≤ n) = l.all fun p => decide (p.1 ≤ n) := by
  induction l with
  | nil => show decide (0 ≤ n) = true; simp
  | cons a l ih =>
    rw [List.all_cons, ← ih]
    show decide (max a.1 (mx l) ≤ n) = _
    rw [← Bool.decide_and, decide_eq_decide]; omega
/-- all that the program asks of the nodes of some trees -/
def listOk (L : List Nd) : Bool := L.all (foldE okA) && (decide (mx (L.flatMap (pre 1)) ≤ 24) && decide ((L.flatMap (pre 1)).length ≤ 200))
/-- at the place i of the walk -/
def stepOk (i : Nat) (p : Nat × Nd) : Bool := decide (p.1 ≤ 24) && (decide (i + 1 ≤ 200) && nodeB p.2)
theorem listOk_true {L : List Nd} {xs : List (Nat × Nd)} (hx : L.flatMap (pre 1) = xs) (h : ∀ i p, xs[i]? = some p → stepOk i p = true) : listOk L = true := by
  unfold listOk
  rw [ok_flat 1, mx_le, hx]
  have h1 : ∀ p ∈ xs, p.1 ≤ 24 ∧ nodeB p.2 = true := fun p hp => by
    obtain ⟨i, hi⟩ := List.getElem?_of_mem hp
    have := h i p hi
    unfold stepOk at this
    simp only [Bool.and_eq_true, decide_eq_true_eq] at this
    exact ⟨this.1, this.2.2⟩
  have h2 : xs.length ≤ 200 := by
    by_cases e : xs.length = 0
    · omega
    · have := h (xs.length - 1) xs[xs.length - 1] (List.getElem?_eq_getElem (by omega))
      unfold stepOk at this
      simp only [Bool.and_eq_true, decide_eq_true_eq] at this
      omega
  simp only [Bool.and_eq_true, List.all_eq_true, decide_eq_true_eq]
  exact ⟨fun p hp => (h1 p hp).2, fun p hp => (h1 p hp).1, h2⟩
theorem listOk_false {L : List Nd} {xs : List (Nat × Nd)} (hx : L.flatMap (pre 1) = xs) {i : Nat} {p : Nat × Nd} (hi : xs[i]? = some p) (h : stepOk i p = false) : listOk L = false := by
  refine Bool.eq_false_iff.2 fun hL => ?_
  unfold listOk at hL
  rw [ok_flat 1, mx_le, hx] at hL
  simp only [Bool.and_eq_true, List.all_eq_true, decide_eq_true_eq] at hL
  have hm := List.mem_of_getElem? hi
  have hlt := (List.getElem?_eq_some_iff.1 hi).1
  have h1 := hL.1 p hm
  have h2 := hL.2.1 p hm
  have h3 := hL.2.2
  unfold stepOk at h
  rw [h1, decide_eq_true h2, decide_eq_true (by omega : i + 1 ≤ 200)] at h
  cases h
theorem listOk_is (L : List Nd) : listOk L = (L.all (foldE okA) && (decide (depA.of (L.map (foldE depA)) ≤ 24) && decide (sizA.of (L.map (foldE sizA)) ≤ 200))) := by
  unfold listOk
  rw [mx_flat, len_flat]
end Go.Proofs.Ytfmgkinindkedaa

/- Levels of expressions, what they need of their Kids, which Kids are wrapped, and how many in a tree. No program. -/
namespace Go.Proofs.Ytfmgkinindkedaa
open Go.RowKit

theorem num_is {d : Dat} {k : IntKind} {n : Int} (h : d = .v (.int k n)) : d.num = n := by rw [h]; rfl
/-- the level of a binary operator -/
def binLev (op : Int) : Int :=
  match op with
  | 1 => 1
  | 2 => 2
  | 3 => 4
  | 4 => 4
  | 5 => 4
  | 6 => 4
  | 7 => 4
  | 8 => 4
  | 9 => 5
  | 10 => 6
  | 11 => 6
  | 12 => 7
  | 13 => 7
  | 14 => 7
  | _ => 0
def unLev (op : Int) : Int :=
  match op with
  | 15 => 3
  | 16 => 8
  | _ => 0
/-- the level of an expression of that kind with that operator -/
def levV (k op : Int) : Int :=
  match k with
  | 1 => 9
  | 2 => 9
  | 3 => unLev op
  | 4 => binLev op
  | 5 => 4
  | 6 => 4
  | 7 => 4
  | 8 => 4
  | 9 => 9
  | _ => 0
theorem binLev_no {op : Int} (h : ¬ (1 ≤ op ∧ op ≤ 14)) : binLev op = 0 := by
  unfold binLev
  split <;> first | rfl | (exfalso; apply h; decide)
theorem unLev_no {op : Int} (h1 : op ≠ 15) (h2 : op ≠ 16) : unLev op = 0 := by
  unfold unLev
  split <;> first | rfl | contradiction
theorem levV_no {k op : Int} (h : ¬ (1 ≤ k ∧ k ≤ 9)) : levV k op = 0 := by
  unfold levV
  split <;> first | rfl | (exfalso; apply h; decide)
theorem bin_cases {op : Int} (h0 : 1 ≤ op) (h1 : op ≤ 14) : op = 1 ∨ op = 2 ∨ op = 3 ∨ op = 4 ∨ op = 5 ∨ op = 6 ∨ op = 7 ∨ op = 8 ∨ op = 9 ∨ op = 10 ∨ op = 11 ∨ op = 12 ∨ op = 13 ∨ op = 14 := by omega
theorem kind_cases {k : Int} (h0 : 1 ≤ k) (h1 : k ≤ 9) : k = 1 ∨ k = 2 ∨ k = 3 ∨ k = 4 ∨ k = 5 ∨ k = 6 ∨ k = 7 ∨ k = 8 ∨ k = 9 := by omega
theorem binLev_cases (op : Int) : binLev op = 0 ∨ binLev op = 1 ∨ binLev op = 2 ∨ binLev op = 4 ∨ binLev op = 5 ∨ binLev op = 6 ∨ binLev op = 7 := by
  by_cases h : 1 ≤ op ∧ op ≤ 14
  · rcases bin_cases h.1 h.2 with rfl | rfl | rfl | rfl | rfl | rfl | rfl | rfl | rfl | rfl | rfl | rfl | rfl | rfl <;> decide
  · exact .inl (binLev_no h)
theorem unLev_cases (op : Int) : unLev op = 0 ∨ unLev op = 3 ∨ unLev op = 8 := by
  by_cases h1 : op = 15
  · subst h1; decide
  · by_cases h2 : op = 16
    · subst h2; decide
    · exact .inl (unLev_no h1 h2)
theorem lev_cases (k op : Int) : levV k op = 0 ∨ levV k op = 9 ∨ (k = 3 ∧ (levV k op = 3 ∨ levV k op = 8)) ∨ (k = 4 ∧ (levV k op = 1 ∨ levV k op = 2 ∨ levV k op = 4 ∨ levV k op = 5 ∨ levV k op = 6 ∨ levV k op = 7)) ∨ ((k = 5 ∨ k = 6 ∨ k = 7 ∨ k = 8) ∧ levV k op = 4) := by
  by_cases h : 1 ≤ k ∧ k ≤ 9
  · rcases kind_cases h.1 h.2 with rfl | rfl | rfl | rfl | rfl | rfl | rfl | rfl | rfl
    · exact .inr (.inl rfl)
    · exact .inr (.inl rfl)
    · have := unLev_cases op
      show unLev op = 0 ∨ unLev op = 9 ∨ ((3 : Int) = 3 ∧ (unLev op = 3 ∨ unLev op = 8)) ∨ _
      rcases this with h | h | h
      · exact .inl h
      · exact .inr (.inr (.inl ⟨rfl, .inl h⟩))
      · exact .inr (.inr (.inl ⟨rfl, .inr h⟩))
    · have := binLev_cases op
      show binLev op = 0 ∨ binLev op = 9 ∨ ((4 : Int) = 3 ∧ _) ∨ ((4 : Int) = 4 ∧ (binLev op = 1 ∨ binLev op = 2 ∨ binLev op = 4 ∨ binLev op = 5 ∨ binLev op = 6 ∨ binLev op = 7)) ∨ _
      rcases this with h | h
      · exact .inl h
      · exact .inr (.inr (.inr (.inl ⟨rfl, h⟩)))
    · exact .inr (.inr (.inr (.inr ⟨.inl rfl, rfl⟩)))
    · exact .inr (.inr (.inr (.inr ⟨.inr (.inl rfl), rfl⟩)))
    · exact .inr (.inr (.inr (.inr ⟨.inr (.inr (.inl rfl)), rfl⟩)))
    · exact .inr (.inr (.inr (.inr ⟨.inr (.inr (.inr rfl)), rfl⟩)))
    · exact .inr (.inl rfl)
  · exact .inl (levV_no h)
theorem lev_le (k op : Int) : 0 ≤ levV k op ∧ levV k op ≤ 9 := by
  rcases lev_cases k op with h | h | ⟨_, h | h⟩ | ⟨_, h | h | h | h | h | h⟩ | ⟨_, h⟩ <;> rw [h] <;> decide
/-- what an expression of that kind and level needs of one of its Kids, k -/
def needK (kind lv k : Int) : Int :=
  if lv = 0 ∨ lv = 9 then 0
  else if kind = 3 then lv
  else if kind = 4 then (if lv = 4 then 5 else if k = 0 then lv else lv + 1)
  else if kind = 7 ∧ 0 < k then 1
  else 5
def isKid (n : Nat) (k : Int) : Bool := decide (0 ≤ k ∧ k ≤ (n : Int) - 1)
def needV (kind lv : Int) (n : Nat) (k : Int) : Int := if isKid n k then needK kind lv k else 0
def lev (c : Nd) : Int := levV (c 0).num (c 1).num
def needs (c : Nd) (k : Int) : Int := needV (c 0).num (lev c) (c 8).len k
def wrapB (c : Nd) (k : Int) : Bool := isKid (c 8).len k && decide (lev ((c 8).el k.toNat) < needs c k)
/-- the wrapped ones among the first j Kids -/
def wupto (c : Nd) : Nat → Nat
  | 0 => 0
  | j + 1 => wupto c j + (if wrapB c (j : Int) then 1 else 0)
def wcnt (c : Nd) : Nat := wupto c (c 8).len
theorem wupto_le (c : Nd) : ∀ j, wupto c j ≤ j
  | 0 => Nat.le_refl _
  | j + 1 => by
    have := wupto_le c j
    show wupto c j + (if wrapB c (j : Int) then 1 else 0) ≤ _
    split <;> omega
def wrapA : Alg Nat := ⟨(· + ·), 0, fun c n => wcnt c + n, fun _ n => n⟩
theorem wrapA_good : wrapA.Good := ⟨fun a b c => Nat.add_assoc a b c, fun a => Nat.zero_add a, fun _ => rfl⟩
theorem wr_of_le {g h : Nat → Nat} : ∀ (j : Nat), (∀ i, i < j → g i ≤ h i) → wrapA.of ((List.range j).map g) ≤ sizA.of ((List.range j).map h)
  | 0, _ => Nat.le_refl _
  | j + 1, H => by
    rw [of_range, of_range]
    have h1 := wr_of_le j fun i hi => H i (by omega)
    have h2 := H j (by omega)
    show _ + _ ≤ _ + _
    omega
theorem wr_of_le1 {g h : Nat → Nat} : ∀ (j : Nat), (∀ i, i < j → g i + 1 ≤ h i) → wrapA.of ((List.range j).map g) + j ≤ sizA.of ((List.range j).map h)
  | 0, _ => Nat.le_refl _
  | j + 1, H => by
    rw [of_range, of_range]
    have h1 := wr_of_le1 j fun i hi => H i (by omega)
    have h2 := H j (by omega)
    show (_ + _) + (j + 1) ≤ _ + _
    omega
/-- the Kids of the row that a node counts, where the row is a node's own -/
def kidsE (d : Dat) : Ty → Nat
  | .exprs => d.len
  | _ => 0
theorem wr_le : ∀ (d : Dat) (ty : Ty), fold wrapA d ty + kidsE d ty ≤ fold sizA d ty
  | .v _, ty => by cases ty <;> exact Nat.le_refl _
  | .sl n k f, ty => by
    have IH : ∀ i j ty, fold wrapA (f i j) ty + kidsE (f i j) ty ≤ fold sizA (f i j) ty := fun i j ty => wr_le (f i j) ty
    have HE : ∀ (c : Nd) (a b : Dat), a = c 8 → fold wrapA a .exprs + a.len ≤ fold sizA a .exprs → fold wrapA b .queries ≤ fold sizA b .queries → wrapA.node c (wrapA.up (fold wrapA a .exprs) (fold wrapA b .queries)) + 1 ≤ sizA.node c (sizA.up (fold sizA a .exprs) (fold sizA b .queries)) := fun c a b e h1 h2 => by
      have h3 : wcnt c ≤ a.len := e ▸ wupto_le c _
      show (wcnt c + (_ + _)) + 1 ≤ (_ + _) + 1
      omega
    cases ty
    case int => exact Nat.le_refl _
    case bool => exact Nat.le_refl _
    case str => exact Nat.le_refl _
    case names => exact Nat.le_refl _
    case rows => rw [fold, fold]; exact wr_of_le n fun i _ => Nat.le_trans (Nat.le_add_right _ _) (IH i 0 .exprs)
    case exprs => rw [fold, fold]; exact wr_of_le1 n fun i _ => HE (f i) _ _ rfl (IH i 8 .exprs) (IH i 9 .queries)
    case keys => rw [fold, fold]; exact wr_of_le n fun i _ => Nat.le_trans (Nat.le_add_right _ _) (HE (f i) _ _ rfl (IH i 8 .exprs) (IH i 9 .queries))
    case items =>
      rw [fold, fold]
      refine wr_of_le n fun i _ => ?_
      cases (f i 0).tru
      · exact Nat.le_trans (Nat.le_add_right _ _) (HE (cut 2 (f i)) _ _ rfl (IH i 10 .exprs) (IH i 11 .queries))
      · exact Nat.le_refl _
    case sources => rw [fold, fold]; exact wr_of_le n fun i _ => Nat.le_trans (Nat.le_add_right _ _) (IH i 2 .exprs)
    case queries =>
      rw [fold, fold]
      refine wr_of_le n fun i _ => ?_
      have h1 : fold wrapA (f i 1) .items ≤ _ := IH i 1 .items
      have h2 : fold wrapA (f i 2) .sources ≤ _ := IH i 2 .sources
      have h3 := Nat.le_trans (Nat.le_add_right _ _) (IH i 3 .exprs)
      have h4 : fold wrapA (f i 4) .keys ≤ _ := IH i 4 .keys
      show _ + _ + _ + _ ≤ _ + _ + _ + _
      omega
theorem wrE_le (c : Nat → Dat) : foldE wrapA c + 1 ≤ foldE sizA c := by
  have h1 : fold wrapA (c 8) .exprs + (c 8).len ≤ _ := wr_le (c 8) .exprs
  have h2 : fold wrapA (c 9) .queries ≤ _ := wr_le (c 9) .queries
  have h3 : wcnt c ≤ (c 8).len := wupto_le c _
  show (wcnt c + (_ + _)) + 1 ≤ (_ + _) + 1
  omega
theorem wrQ_le (q : Nat → Dat) : foldQ wrapA q ≤ foldQ sizA q := by
  have h1 : fold wrapA (q 1) .items ≤ _ := wr_le (q 1) .items
  have h2 : fold wrapA (q 2) .sources ≤ _ := wr_le (q 2) .sources
  have h3 := Nat.le_trans (Nat.le_add_right _ _) (wr_le (q 3) .exprs)
  have h4 : fold wrapA (q 4) .keys ≤ _ := wr_le (q 4) .keys
  show _ + _ + _ + _ ≤ _ + _ + _ + _
  omega
/-- the nodes of a tree, each with its own count -/
def wsums (l : List (Nat × Nd)) : Nat := l.foldr (fun p m => wcnt p.2 + m) 0
theorem wsums_append (l r : List (Nat × Nd)) : wsums (l ++ r) = wsums l + wsums r := by
  induction l with
  | nil => exact (Nat.zero_add _).symm
  | cons a l ih => show wcnt a.2 + wsums (l ++ r) = (wcnt a.2 + wsums l) + wsums r; rw [ih]; omega
theorem wsums_shift (d : Nat) (l : List (Nat × Nd)) : wsums (l.map (shift d)) = wsums l := by
  induction l with
  | nil => rfl
  | cons a l ih => show wcnt a.2 + wsums (l.map (shift d)) = wcnt a.2 + wsums l; rw [ih]
theorem wsums_pre (d : Nat) (c : Nd) : wsums (pre d c) = foldE wrapA c := by
  unfold pre
  rw [wsums_shift]
  exact fold_homE (G := preA) (H := wrapA) wsums (fun a b => wsums_append a b) rfl (fun c l => by show wcnt c + wsums (l.map _) = wcnt c + wsums l; rw [wsums_shift]) (fun _ _ => rfl) c
theorem wsums_flat (d : Nat) (l : List Nd) : wsums (l.flatMap (pre d)) = wrapA.of (l.map (foldE wrapA)) := by
  induction l with
  | nil => rfl
  | cons c l ih => rw [List.flatMap_cons, wsums_append, ih, wsums_pre, List.map_cons, wrapA_good.of_cons]; rfl
end Go.Proofs.Ytfmgkinindkedaa
