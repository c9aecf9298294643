/- Joined texts: ValS OkMath NameOkI Toks. -/
import Derived.Test.YtbbfanhhldbhhaaQGAF
import Derived.Test.YtbbfanhhldbhhaaQGAE
import Derived.Test.YtbbfanhhldbhhaaQGAQ
import Derived.Test.YtbbfanhhldbhhaaQGAT
import Derived.Test.YtbbfanhhldbhhaaQGAD
import Derived.Test.YtbbfanhhldbhhaaQGAC
/- Contracts of the model's test on values and of the makers of values. -/
namespace Go.Proofs.Ytbbfanhhldbhhaa
open Go.RowKit

/-- the document's condition on a value -/
def valOk (k n : Int) (t : List UInt8) : Bool :=
  if k = 0 then decide (n = 0) && decide (t = [])
  else if k = 1 then decide (t = [])
  else if k = 2 then decide (n = 0) && decide ((t.length : Int) ≤ 200)
  else if k = 3 then (decide (0 ≤ n) && decide (n ≤ 1)) && decide (t = [])
  else false
theorem beq_nil (s : ByteArray) : (s.toList == []) = decide (s.data.toList = []) := beq_lit s []

set_option maxRecDepth 100000 in
set_option maxHeartbeats 2000000 in
theorem valueOk_spec (k n : Int) (t : ByteArray) (w : World) (ht : t.size ≤ 9223372036854775807) :
    Calls Try.prog 242 #[.agg #[.int .i64 k, .int .i64 n, .string t]] w (BoolE (valOk k n t.data.toList) w) := by
  have hbb := (Below.refl w.heap.size w).alloc (Nat.le_refl _) (.cells #[.int .i64 k, .int .i64 n, .string t] 30)
  have hsz : ((t.data.toList.length : Nat) : Int) = (t.size : Int) := rfl
  have hN : (n == 0) = decide (n = 0) := by by_cases h : n = 0 <;> simp [h]
  have hT := beq_nil t
  have hL : decide ((t.size : Int) ≤ 200) = decide (t.size ≤ 200) := by rw [decide_eq_decide]; omega
  have hI := fun w => in_any n 0 1 (decide (0 ≤ n) && decide (n ≤ 1)) w (by rw [Bool.decide_and])
  have hV : valOk k n t.data.toList = (if k = 0 then decide (n = 0) && decide (t.data.toList = []) else if k = 1 then decide (t.data.toList = []) else if k = 2 then decide (n = 0) && decide ((t.size : Int) ≤ 200) else if k = 3 then (decide (0 ≤ n) && decide (n ≤ 1)) && decide (t.data.toList = []) else false) := rfl
  generalize valOk k n t.data.toList = V at hV ⊢
  generalize decide (n = 0) = b0 at hN hV
  generalize decide (t.data.toList = []) = b1 at hT hV
  generalize (decide (0 ≤ n) && decide (n ≤ 1)) = b2 at hI hV
  by_cases h0 : k = 0
  · subst h0
    have HV := Lib.hid (hV.trans (if_pos rfl)); clear hV hI
    cases b0 <;> cases b1
    all_goals
      go_enter Try.func242, Try.ntmps242
      go_wp2_with fail
      go_ret
      exact ⟨by rw [HV.out]; rfl, hbb⟩
  rw [if_neg h0] at hV
  have q0 : (k == 0) = false := by simpa using h0
  by_cases h1 : k = 1
  · subst h1
    have HV := Lib.hid (hV.trans (if_pos rfl)); clear hV hI
    cases b1
    all_goals
      go_enter Try.func242, Try.ntmps242
      go_wp2_with fail
      go_ret
      exact ⟨by rw [HV.out]; rfl, hbb⟩
  rw [if_neg h1] at hV
  have q1 : (k == 1) = false := by simpa using h1
  by_cases h2 : k = 2
  · subst h2
    replace hV := hV.trans (if_pos rfl); clear hI hL
    by_cases hz : t.size ≤ 200
    · have d1 : decide ((t.size : Int) ≤ 200) = true := by simp; omega
      have d2 : decide (t.size ≤ 200) = true := by simp; omega
      rw [d1] at hV
      have HV := Lib.hid hV; clear hV hz
      cases b0
      all_goals
        go_enter Try.func242, Try.ntmps242
        go_wp2_with fail
        go_ret
        exact ⟨by rw [HV.out]; rfl, hbb⟩
    · have d1 : decide ((t.size : Int) ≤ 200) = false := by simp; omega
      have d2 : decide (t.size ≤ 200) = false := by simp; omega
      rw [d1] at hV
      have HV := Lib.hid hV; clear hV hz
      cases b0
      all_goals
        go_enter Try.func242, Try.ntmps242
        go_wp2_with fail
        go_ret
        exact ⟨by rw [HV.out]; rfl, hbb⟩
  rw [if_neg h2] at hV
  have q2 : (k == 2) = false := by simpa using h2
  by_cases h3 : k = 3
  · subst h3
    have HV := Lib.hid (hV.trans (if_pos rfl)); clear hV
    cases b2 <;> cases b1
    all_goals
      go_enter Try.func242, Try.ntmps242
      go_wp2_with fail
      refine (hI _).mono ?_
      rintro e w1 ⟨rfl, rfl⟩
      go_wp2_with fail
      go_ret
      exact ⟨by rw [HV.out]; rfl, hbb⟩
  rw [if_neg h3] at hV
  have q3 : (k == 3) = false := by simpa using h3
  have HV := Lib.hid hV; clear hV hI
  go_enter Try.func242, Try.ntmps242
  go_wp2_with fail
  go_ret
  exact ⟨by rw [HV.out]; rfl, hbb⟩

set_option maxRecDepth 100000 in
set_option maxHeartbeats 800000 in
theorem intValue_spec (n : Int) (w : World) : Calls Try.prog 247 #[.int .i64 n] w (CopyV 1 n ⟨#[]⟩ w) := by
  have hR := heap_alloc_new w (.cells #[.int .i64 1, .int .i64 n, .string ⟨#[]⟩] 30)
  have f0 := cell_of_row _ w.heap.size 0 _ 30 (0, 0) hR
  have f1 := cell_of_row _ w.heap.size 1 _ 30 (0, 0) hR
  have f2 := cell_of_row _ w.heap.size 2 _ 30 (0, 0) hR
  have hb := (Below.refl w.heap.size w).alloc (Nat.le_refl _) (.cells #[.int .i64 1, .int .i64 n, .string ⟨#[]⟩] 30)
  go_enter Try.func247, Try.ntmps247
  go_wp2_with fail
  generalize w.alloc (.cells #[.int .i64 1, .int .i64 n, .string ⟨#[]⟩] 30) = wf at f0 f1 f2 hb ⊢
  refine bodyPost_ret (v := .agg #[.int .i64 1, .int .i64 n, .string ⟨#[]⟩]) (by simp [results, Try.results247, go_sem, f0, f1, f2]) rfl ?_
  exact ⟨rfl, hb⟩
set_option maxRecDepth 100000 in
set_option maxHeartbeats 800000 in
theorem textValue_spec (s : ByteArray) (w : World) : Calls Try.prog 245 #[.string s] w (CopyV 2 0 s w) := by
  have hR := heap_alloc_new w (.cells #[.int .i64 2, .int .i64 0, .string s] 30)
  have f0 := cell_of_row _ w.heap.size 0 _ 30 (0, 0) hR
  have f1 := cell_of_row _ w.heap.size 1 _ 30 (0, 0) hR
  have f2 := cell_of_row _ w.heap.size 2 _ 30 (0, 0) hR
  have hb := (Below.refl w.heap.size w).alloc (Nat.le_refl _) (.cells #[.int .i64 2, .int .i64 0, .string s] 30)
  go_enter Try.func245, Try.ntmps245
  go_wp2_with fail
  generalize w.alloc (.cells #[.int .i64 2, .int .i64 0, .string s] 30) = wf at f0 f1 f2 hb ⊢
  refine bodyPost_ret (v := .agg #[.int .i64 2, .int .i64 0, .string s]) (by simp [results, Try.results245, go_sem, f0, f1, f2]) rfl ?_
  exact ⟨rfl, hb⟩
set_option maxRecDepth 100000 in
set_option maxHeartbeats 800000 in
theorem boolValue_spec (b : Bool) (w : World) : Calls Try.prog 246 #[.bool b] w (CopyV 3 (if b then 1 else 0) ⟨#[]⟩ w) := by
  cases b
  · have hR := heap_alloc_new w (.cells #[.int .i64 3, .int .i64 0, .string ⟨#[]⟩] 30)
    have f0 := cell_of_row _ w.heap.size 0 _ 30 (0, 0) hR
    have f1 := cell_of_row _ w.heap.size 1 _ 30 (0, 0) hR
    have f2 := cell_of_row _ w.heap.size 2 _ 30 (0, 0) hR
    have hb := (Below.refl w.heap.size w).alloc (Nat.le_refl _) (.cells #[.int .i64 3, .int .i64 0, .string ⟨#[]⟩] 30)
    go_enter Try.func246, Try.ntmps246
    go_wp2_with fail
    generalize w.alloc (.cells #[.int .i64 3, .int .i64 0, .string ⟨#[]⟩] 30) = wf at f0 f1 f2 hb ⊢
    refine bodyPost_ret (v := .agg #[.int .i64 3, .int .i64 0, .string ⟨#[]⟩]) (by simp [results, Try.results246, go_sem, f0, f1, f2]) rfl ?_
    exact ⟨rfl, hb⟩
  · have hR := heap_alloc_new w (.cells #[.int .i64 3, .int .i64 1, .string ⟨#[]⟩] 30)
    have f0 := cell_of_row _ w.heap.size 0 _ 30 (0, 0) hR
    have f1 := cell_of_row _ w.heap.size 1 _ 30 (0, 0) hR
    have f2 := cell_of_row _ w.heap.size 2 _ 30 (0, 0) hR
    have hb := (Below.refl w.heap.size w).alloc (Nat.le_refl _) (.cells #[.int .i64 3, .int .i64 1, .string ⟨#[]⟩] 30)
    go_enter Try.func246, Try.ntmps246
    go_wp2_with fail
    generalize w.alloc (.cells #[.int .i64 3, .int .i64 1, .string ⟨#[]⟩] 30) = wf at f0 f1 f2 hb ⊢
    refine bodyPost_ret (v := .agg #[.int .i64 3, .int .i64 1, .string ⟨#[]⟩]) (by simp [results, Try.results246, go_sem, f0, f1, f2]) rfl ?_
    exact ⟨rfl, hb⟩
end Go.Proofs.Ytbbfanhhldbhhaa

/- When a tree is right: node by node, and as a whole. No program. -/
namespace Go.Proofs.Ytbbfanhhldbhhaa
open Go.RowKit

def Dat.num : Dat → Int
  | .v (.int _ n) => n
  | _ => 0
def Dat.txt : Dat → ByteArray
  | .v (.string s) => s
  | _ => ⟨#[]⟩
/-- a value that is one token -/
def litB (k n : Int) (t : ByteArray) : Bool := valOk k n t.data.toList && (decide (0 ≤ n) && decide ((t.size : Int) ≤ 40))
def emptyB (s : ByteArray) : Bool := decide (s.size = 0)
def optB (s : ByteArray) : Bool := emptyB s || okLen s.size
def zeroV (k n : Int) (t : ByteArray) : Bool := (k == 0) && ((n == 0) && emptyB t)
/-- the fields but the names and the parts -/
def headB (k op : Int) (nt : Bool) (vk vn : Int) (vt : ByteArray) : Bool :=
  if k = 1 then (op == 0) && (!nt && litB vk vn vt)
  else if k = 3 then !nt && (zeroV vk vn vt && ((op == 15) || (op == 16)))
  else if k = 4 then !nt && (zeroV vk vn vt && (decide (1 ≤ op) && decide (op ≤ 14)))
  else if k = 5 ∨ k = 6 ∨ k = 7 ∨ k = 8 then (op == 0) && zeroV vk vn vt
  else if k = 2 ∨ k = 9 then (op == 0) && (!nt && zeroV vk vn vt)
  else false
def namesB (k : Int) (q n : ByteArray) : Bool := if k = 2 then okLen n.size && optB q else emptyB q && emptyB n
def takesB (k : Int) (a b : Nat) : Bool :=
  if k = 1 ∨ k = 2 then (a == 0) && (b == 0)
  else if k = 3 ∨ k = 5 then (a == 1) && (b == 0)
  else if k = 4 then (a == 2) && (b == 0)
  else if k = 6 then (a == 3) && (b == 0)
  else if k = 7 then (decide (2 ≤ a) && decide (a ≤ 9)) && (b == 0)
  else if k = 8 then (a == 1) && (b == 1)
  else if k = 9 then (a == 0) && (b == 1)
  else false
def shapeF (k op : Int) (nt : Bool) (vk vn : Int) (vt q n : ByteArray) (a b : Nat) : Bool := headB k op nt vk vn vt && (namesB k q n && takesB k a b)
def shapeB (c : Nat → Dat) : Bool := shapeF (c 0).num (c 1).num (c 2).tru (c 3).num (c 4).num (c 5).txt (c 6).txt (c 7).txt (c 8).len (c 9).len
/-- the expression with nothing in it -/
def zeroNd : Nat → Dat := fun j => match j with
  | 0 => .v (.int .i64 0) | 1 => .v (.int .i64 0) | 2 => .v (.bool false) | 3 => .v (.int .i64 0) | 4 => .v (.int .i64 0) | 5 => .v (.string ⟨#[]⟩) | 6 => .v (.string ⟨#[]⟩) | 7 => .v (.string ⟨#[]⟩)
  | 8 => .sl 0 10 fun _ _ => .v undef
  | _ => .sl 0 6 fun _ _ => .v undef
def itemB (x : Nat → Dat) : Bool :=
  if (x 0).tru then optB (x 1).txt && (emptyB (x 12).txt && sameC exprTy (cut 2 x) zeroNd) else emptyB (x 1).txt && optB (x 12).txt
def sourceB (x : Nat → Dat) : Bool := okLen (x 0).txt.size && (optB (x 1).txt && decide ((x 2).len ≤ 1))
/-- the first source bears no condition -/
def firstB (d : Dat) : Bool := (d.el 0 2).len == 0
def frameB (q : Nat → Dat) : Bool :=
  (decide (1 ≤ (q 1).len) && decide ((q 1).len ≤ 12)) && ((q 1).els.all itemB && ((decide (1 ≤ (q 2).len) && decide ((q 2).len ≤ 3)) && ((q 2).els.all sourceB &&
    (firstB (q 2) && (decide ((q 3).len ≤ 1) && (decide ((q 4).len ≤ 12) && decide (-1 ≤ (q 5).num)))))))
def nodeB (c : Nat → Dat) : Bool := shapeB c && (c 9).els.all frameB
/-- node by node; and query by query -/
def okA : Alg Bool := ⟨and, true, fun c b => nodeB c && b, fun _ b => b⟩
def rightA : Alg Bool := ⟨and, true, fun c b => shapeB c && b, fun q b => frameB q && b⟩
theorem okA_good : okA.Good := ⟨fun a b c => Bool.and_assoc a b c, fun a => Bool.true_and a, fun a => Bool.and_true a⟩
theorem rightA_good : rightA.Good := ⟨fun a b c => Bool.and_assoc a b c, fun a => Bool.true_and a, fun a => Bool.and_true a⟩
theorem okA_of (l : List Bool) : okA.of l = l.all id := by
  induction l with
  | nil => rfl
  | cons a l ih => rw [okA_good.of_cons, ih]; rfl
theorem rightA_of (l : List Bool) : rightA.of l = l.all id := by
  induction l with
  | nil => rfl
  | cons a l ih => rw [rightA_good.of_cons, ih]; rfl
theorem all_and {β : Type} (p q : β → Bool) (l : List β) : (l.all fun x => p x && q x) = (l.all p && l.all q) := by
  induction l with
  | nil => rfl
  | cons a l ih => rw [List.all_cons, List.all_cons, List.all_cons, ih]; cases p a <;> cases q a <;> cases l.all p <;> cases l.all q <;> rfl
/-- the frames of the queries are told at the node above them -/
theorem right_ok : ∀ (d : Dat) (ty : Ty), fold rightA d ty = ((match ty with | .queries => d.els.all frameB | _ => true) && fold okA d ty)
  | .v _, ty => by cases ty <;> rfl
  | .sl n k f, ty => by
    have IH : ∀ i j ty, fold rightA (f i j) ty = ((match ty with | .queries => (f i j).els.all frameB | _ => true) && fold okA (f i j) ty) := fun i j ty => right_ok (f i j) ty
    have HE : ∀ (c : Nat → Dat) i a b, c 9 = f i b → (shapeB c && (fold rightA (f i a) .exprs && fold rightA (f i b) .queries)) = (nodeB c && (fold okA (f i a) .exprs && fold okA (f i b) .queries)) := fun c i a b hc => by
      rw [IH i a .exprs, IH i b .queries]
      unfold nodeB
      rw [hc]
      show (shapeB c && ((true && fold okA (f i a) .exprs) && ((f i b).els.all frameB && fold okA (f i b) .queries))) = _
      cases shapeB c <;> cases (f i b).els.all frameB <;> cases fold okA (f i a) .exprs <;> rfl
    have HL : ∀ g h : Nat → Bool, (∀ i, g i = h i) → rightA.of ((List.range n).map g) = (true && okA.of ((List.range n).map h)) := fun g h e => by
      rw [rightA_of, okA_of, Bool.true_and]
      congr 2
      funext i; exact e i
    cases ty
    case int => rfl
    case bool => rfl
    case str => rfl
    case exprs => rw [fold, fold]; exact HL _ _ fun i => HE (f i) i 8 9 rfl
    case keys => rw [fold, fold]; exact HL _ _ fun i => HE (f i) i 8 9 rfl
    case items =>
      rw [fold, fold]
      refine HL _ _ fun i => ?_
      cases (f i 0).tru
      · exact HE (cut 2 (f i)) i 10 11 rfl
      · rfl
    case sources => rw [fold, fold]; exact HL _ _ fun i => by rw [IH i 2 .exprs]; rfl
    case queries =>
      rw [fold, fold, rightA_of, okA_of]
      show _ = (((List.range n).map f).all frameB && _)
      rw [List.all_map, List.all_map, List.all_map]
      show ((List.range n).all fun i => frameB (f i) && _) = _
      rw [all_and]
      congr 2
      funext i
      show (((fold rightA (f i 1) .items && fold rightA (f i 2) .sources) && fold rightA (f i 3) .exprs) && fold rightA (f i 4) .keys) = _
      rw [IH i 1 .items, IH i 2 .sources, IH i 3 .exprs, IH i 4 .keys]
      rfl
theorem rightE_ok (c : Nat → Dat) : foldE rightA c = foldE okA c := by
  show (shapeB c && (fold rightA (c 8) .exprs && fold rightA (c 9) .queries)) = (nodeB c && (fold okA (c 8) .exprs && fold okA (c 9) .queries))
  rw [right_ok (c 8) .exprs, right_ok (c 9) .queries]
  unfold nodeB
  show (shapeB c && ((true && fold okA (c 8) .exprs) && ((c 9).els.all frameB && fold okA (c 9) .queries))) = _
  cases shapeB c <;> cases (c 9).els.all frameB <;> cases fold okA (c 8) .exprs <;> rfl
theorem rightQ_ok {q : Nat → Dat} (h1 : Fits (q 1) .items) (h2 : Fits (q 2) .sources) (h3 : Fits (q 3) .exprs) (h4 : Fits (q 4) .keys) : foldQ rightA q = (frameB q && (exprsOf q).all (foldE okA)) := by
  rw [foldQ_is rightA_good h1 h2 h3 h4]
  show (frameB q && rightA.of _) = _
  rw [rightA_of, List.all_map]
  congr 2
  funext c; exact rightE_ok c
/-- all nodes of a tree in order -/
theorem ok_pre (d : Nat) (c : Nd) : foldE okA c = (pre d c).all fun p => nodeB p.2 := by
  unfold pre
  rw [List.all_map]
  refine (fold_homE (G := preA) (H := okA) (fun l => l.all fun p => nodeB p.2) (fun a b => ?_) rfl (fun c l => ?_) (fun _ _ => rfl) c).symm
  · show (a ++ b).all _ = (a.all _ && b.all _)
    rw [List.all_append]
  · show (((0, c) :: l.map (shift 1)).all _) = (nodeB c && l.all _)
    rw [List.all_cons, List.all_map]
    rfl
theorem ok_flat (d : Nat) (L : List Nd) : L.all (foldE okA) = (L.flatMap (pre d)).all fun p => nodeB p.2 := by
  induction L with
  | nil => rfl
  | cons c L ih => rw [List.all_cons, List.flatMap_cons, List.all_append, ← ih, ← ok_pre]
/-- the deepest is no deeper than n where none is -/
theorem mx_le (l : List (Nat × Nd)) (n : Nat) : decide (mx l ≤ n) = l.all fun p => decide (p.1 ≤ n) := by
  induction l with
  | nil => show decide (0 ≤ n) = true; simp
  | cons a l ih =>
    rw [List.all_cons, ← ih]
    show decide (max a.1 (mx l) ≤ n) = _
    rw [← Bool.decide_and, decide_eq_decide]; omega
/-- all that the program asks of the nodes of some trees -/
def listOk (L : List Nd) : Bool := L.all (foldE okA) && (decide (mx (L.flatMap (pre 1)) ≤ 24) && decide ((L.flatMap (pre 1)).length ≤ 200))
/-- at the place i of the walk -/
def stepOk (i : Nat) (p : Nat × Nd) : Bool := decide (p.1 ≤ 24) && (decide (i + 1 ≤ 200) && nodeB p.2)
theorem listOk_true {L : List Nd} {xs : List (Nat × Nd)} (hx : L.flatMap (pre 1) = xs) (h : ∀ i p, xs[i]? = some p → stepOk i p = true) : listOk L = true := by
  unfold listOk
  rw [ok_flat 1, mx_le, hx]
  have h1 : ∀ p ∈ xs, p.1 ≤ 24 ∧ nodeB p.2 = true := fun p hp => by
    obtain ⟨i, hi⟩ := List.getElem?_of_mem hp
    have := h i p hi
    unfold stepOk at this
    simp only [Bool.and_eq_true, decide_eq_true_eq] at this
    exact ⟨this.1, this.2.2⟩
  have h2 : xs.length ≤ 200 := by
    by_cases e : xs.length = 0
    · omega
    · have := h (xs.length - 1) xs[xs.length - 1] (List.getElem?_eq_getElem (by omega))
      unfold stepOk at this
      simp only [Bool.and_eq_true, decide_eq_true_eq] at this
      omega
  simp only [Bool.and_eq_true, List.all_eq_true, decide_eq_true_eq]
  exact ⟨fun p hp => (h1 p hp).2, fun p hp => (h1 p hp).1, h2⟩
theorem listOk_false {L : List Nd} {xs : List (Nat × Nd)} (hx : L.flatMap (pre 1) = xs) {i : Nat} {p : Nat × Nd} (hi : xs[i]? = some p) (h : stepOk i p = false) : listOk L = false := by
  refine Bool.eq_false_iff.2 fun hL => ?_
  unfold listOk at hL
  rw [ok_flat 1, mx_le, hx] at hL
  simp only [Bool.and_eq_true, List.all_eq_true, decide_eq_true_eq] at hL
  have hm := List.mem_of_getElem? hi
  have hlt := (List.getElem?_eq_some_iff.1 hi).1
  have h1 := hL.1 p hm
  have h2 := hL.2.1 p hm
  have h3 := hL.2.2
  unfold stepOk at h
  rw [h1, decide_eq_true h2, decide_eq_true (by omega : i + 1 ≤ 200)] at h
  cases h
theorem listOk_is (L : List Nd) : listOk L = (L.all (foldE okA) && (decide (depA.of (L.map (foldE depA)) ≤ 24) && decide (sizA.of (L.map (foldE sizA)) ≤ 200))) := by
  unfold listOk
  rw [mx_flat, len_flat]
end Go.Proofs.Ytbbfanhhldbhhaa

/- The contract of NameOk in the program. -/
namespace Go.Proofs.Ytbbfanhhldbhhaa
open Go.RowKit

set_option maxHeartbeats 400000 in
theorem nameOk_impl (s : ByteArray) (w : World) (_hs : s.size ≤ 9223372036854775807) : Calls Try.prog 219 #[.string s] w (PureE (.bool (okLen s.size)) w) := by
  have hE : okLen s.size = (decide (1 ≤ (s.size : Int)) && decide ((s.size : Int) ≤ 20)) := rfl
  by_cases h0 : 1 ≤ (s.size : Int)
  · have d0 : decide (1 ≤ (s.size : Int)) = true := by simpa using h0
    by_cases h1 : (s.size : Int) ≤ 20
    · have d1 : decide ((s.size : Int) ≤ 20) = true := by simpa using h1
      rw [d0, d1] at hE
      have HE := Lib.hid hE; clear hE
      go_enter Try.func219, Try.ntmps219
      go_wp2
      go_ret
      exact pure_bool (by rw [HE.out]; rfl)
    · have d1 : decide ((s.size : Int) ≤ 20) = false := by simpa using h1
      rw [d0, d1] at hE
      have HE := Lib.hid hE; clear hE
      go_enter Try.func219, Try.ntmps219
      go_wp2
      go_ret
      exact pure_bool (by rw [HE.out]; rfl)
  · have d0 : decide (1 ≤ (s.size : Int)) = false := by simpa using h0
    rw [d0] at hE
    have HE := Lib.hid hE; clear hE
    go_enter Try.func219, Try.ntmps219
    go_wp2
    go_ret
    exact pure_bool (by rw [HE.out]; rfl)
end Go.Proofs.Ytbbfanhhldbhhaa

/- Slices of tokens that a call owns; what a lexer hands back. -/
namespace Go.Proofs.Ytbbfanhhldbhhaa
open Go.RowKit

theorem Try.infoTk : (Try.prog.info? 76).map (fun i => (i.zero, i.size, i.bytes)) = some (some (.agg #[.int .i64 0, .string ByteArray.empty, .int .i64 0]), 3, 32) := by kernel_rfl

/-- a token's cells -/
def tkCells (t : Tk) : List Value := [.int .i64 t.k, .string ⟨t.t.toArray⟩, .int .i64 (t.a : Int)]
def toksCells (L : List Tk) : List Value := L.flatMap tkCells
theorem toksCells_snoc (L : List Tk) (t : Tk) : toksCells (L ++ [t]) = toksCells L ++ tkCells t := by simp [toksCells]
/-- the slice value v of the call's own holds the tokens L -/
def OwnT (w : World) (B : Nat) (v : Value) (L : List Tk) : Prop := w.ownsRow B 76 3 v L.length (toksCells L)

theorem appT {ops : Array Oper} {rest : List Oper} {o : Oper} {a : Act} {Q : Exit → Act → World → Prop}
    (hgd : o.guard = none) (s x : Operand) (ho : o.op = .call { callee := .builtin .append, args := #[s, x], argTypes := #[64, 64] })
    (B : Nat) (v : Value) (L : List Tk) (t : Tk) (S : ByteArray) (hS : S = ⟨t.t.toArray⟩) (W : World) (nb : Nat) (hnb : W.heap.size = nb) (hs : a.eval s = v) (hx : a.eval x = .slice (some ⟨nb, 0, none⟩) 1 1)
    (hown : OwnT W B v L) (hl : L.length ≤ 4000000) (hB : B ≤ W.heap.size)
    (h : ∀ (g cap : Nat) (w' : World), OwnT w' B (.slice (some ⟨g, 0, none⟩) (L.length + 1) cap) (L ++ [t]) → Below B W w' → wpList Try.prog ops Q rest (a.put o.dst (.slice (some ⟨g, 0, none⟩) (L.length + 1) cap)) w') :
    wpList Try.prog ops Q (o :: rest) a (W.alloc (.cells #[.int .i64 t.k, .string S, .int .i64 (t.a : Int)] 76)) := by
  subst hS
  subst hnb
  obtain ⟨i, hi, hz, hsize, hby⟩ := info_parts Try.infoTk
  have hrow := heap_alloc_new W (.cells #[.int .i64 t.k, .string ⟨t.t.toArray⟩, .int .i64 (t.a : Int)] 76)
  refine wpList_append_own _ hgd s x 64 ho B 76 i _ 3 32 Try.underlying64 hi hz hsize hby rfl (by decide) v L.length (toksCells L) hs (World.ownsRow.alloc hown _) ⟨W.heap.size, 0, none⟩ 1 1 (tkCells t) hx rfl (fun j u hj => ?_) (fun u hu => by simp [tkCells] at hu; rcases hu with rfl | rfl | rfl <;> rfl) (by unfold maxLen; omega) (by omega) (by simp; omega) ?_
  · have hp : (⟨W.heap.size, 0, none⟩ : Addr).add j = ⟨W.heap.size, j, none⟩ := by unfold Addr.add; split <;> simp_all
    rw [hp, cell_of_row _ W.heap.size j _ 76 (0, 0) hrow]
    have hj3 : j < 3 := by
      have := (List.getElem?_eq_some_iff.1 hj).1
      simpa [tkCells] using this
    rcases (show j = 0 ∨ j = 1 ∨ j = 2 by omega) with rfl | rfl | rfl <;> exact hj
  · intro v' w' hown' hgrow hnil
    have hb : Below B W w' := ((Below.refl B W).alloc hB _).grown hgrow (by simp; omega) (fun q hq => (World.ownsRow.lt hown q hq).1)
    obtain ⟨g, cap, rfl⟩ : ∃ g cap, v' = .slice (some ⟨g, 0, none⟩) (L.length + 1) cap := by
      rcases hown'.2 with ⟨_, h0⟩ | ⟨g, cap, _, h0, _⟩
      · omega
      · exact ⟨g, cap, h0⟩
    exact h g cap w' (by unfold OwnT; rw [toksCells_snoc, List.length_append]; exact hown') hb

/-- what a lexer hands back -/
def LexE (r : Except Nat (List Tk)) (w : World) (e : Ending) (w' : World) : Prop :=
  (match r with
    | .ok L => ∃ v, e = .returned (.tuple #[v, .int .i64 (-1)]) ∧ OwnT w' w.heap.size v L
    | .error n => ∃ (a : Option Addr) (cap : Nat), e = .returned (.tuple #[.slice a 0 cap, .int .i64 (n : Int)])) ∧ Below w.heap.size w w'
end Go.Proofs.Ytbbfanhhldbhhaa
