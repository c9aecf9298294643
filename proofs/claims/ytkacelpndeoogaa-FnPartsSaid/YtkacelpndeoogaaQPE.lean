/- Joined texts: Exprs PreMath ExprsS. -/
import Derived.Test.YtkacelpndeoogaaQPB
import Derived.Test.YtkacelpndeoogaaQPD
import Derived.Laws.OwnMore
import Derived.Maps.AppendAt
import Derived.Laws.AppendOwnNone
/- The model's list of a query's expressions. -/
namespace Go.Proofs.Ytkacelpndeoogaa
open Go.RowKit

/-- the cells C are those of the expressions L, as w0 had them -/
def OutP (w0 : World) (C : List Value) (L : List (Nat → Dat)) : Prop :=
  C.length = L.length * 10 ∧ ∀ i c, L[i]? = some c → ∀ j (h : j < exprTy.length), ∃ y, C[i * 10 + j]? = some y ∧ Rd w0 0 y (c j) ∧ Fits (c j) exprTy[j]
theorem OutP.nil (w0 : World) : OutP w0 [] [] := ⟨rfl, fun i c h => by simp at h⟩
theorem OutP.append {w0 : World} {C C' : List Value} {L L' : List (Nat → Dat)} (h : OutP w0 C L) (h' : OutP w0 C' L') : OutP w0 (C ++ C') (L ++ L') := by
  refine ⟨by rw [List.length_append, List.length_append, h.1, h'.1, Nat.add_mul], fun i c hc j hj => ?_⟩
  have hj10 : j < 10 := hj
  by_cases e : i < L.length
  · rw [List.getElem?_append_left e] at hc
    obtain ⟨y, hy, hr⟩ := h.2 i c hc j hj
    exact ⟨y, by rw [List.getElem?_append_left (by rw [h.1]; omega)]; exact hy, hr⟩
  · rw [List.getElem?_append_right (by omega)] at hc
    obtain ⟨y, hy, hr⟩ := h'.2 _ c hc j hj
    exact ⟨y, by rw [List.getElem?_append_right (by rw [h.1]; omega), h.1, show i * 10 + j - L.length * 10 = (i - L.length) * 10 + j by omega]; exact hy, hr⟩
theorem OutP.one {w0 : World} {C : List Value} {c : Nat → Dat} (hl : C.length = 10) (h : ∀ j (h : j < exprTy.length), ∃ y, C[j]? = some y ∧ Rd w0 0 y (c j) ∧ Fits (c j) exprTy[j]) : OutP w0 C [c] := by
  refine ⟨by rw [hl]; rfl, fun i c' hc j hj => ?_⟩
  obtain rfl : i = 0 := by
    have := (List.getElem?_eq_some_iff.1 hc).1
    simp at this; exact this
  obtain rfl : c = c' := by simpa using hc
  obtain ⟨y, hy, hr⟩ := h j hj
  exact ⟨y, by rw [Nat.zero_mul, Nat.zero_add]; exact hy, hr⟩
theorem Rd.oneCell {w : World} {L : Nat} {y : Value} {d : Dat} {ty : Ty} (h : Rd w L y d) (hf : Fits d ty) : y.oneCell' = true := by
  cases d with
  | v x =>
    obtain rfl : y = x := h
    cases ty <;> first | (obtain ⟨n, rfl, _⟩ := hf; rfl) | (obtain ⟨n, rfl⟩ := hf; rfl) | exact hf.elim
  | sl n k f =>
    obtain ⟨a, cap, rfl, _⟩ := h
    rfl
theorem OutP.ones {w0 : World} {C : List Value} {L : List (Nat → Dat)} (h : OutP w0 C L) : ∀ u ∈ C, u.oneCell' = true := fun u hu => by
  obtain ⟨x, hx⟩ := List.getElem?_of_mem hu
  have hlt : x < C.length := (List.getElem?_eq_some_iff.1 hx).1
  have hl := h.1
  have hi : x / 10 < L.length := by omega
  obtain ⟨y, hy, hr, hf⟩ := h.2 (x / 10) L[x / 10] (List.getElem?_eq_getElem hi) (x % 10) (show x % 10 < 10 by omega)
  rw [show x / 10 * 10 + x % 10 = x by omega, hx] at hy
  obtain rfl : u = y := by simpa using hy
  exact hr.oneCell hf
/-- the slice v of the call's own holds the expressions L -/
def OutE (w0 wr : World) (B : Nat) (v : Value) (L : List (Nat → Dat)) : Prop := ∃ C, wr.ownsRow B 29 10 v L.length C ∧ OutP w0 C L
theorem Try.infoEx : (Try.prog.info? 29).map (fun i => (i.zero, i.size, i.bytes)) = some (some (.agg #[.int .i64 0, .int .i64 0, .bool false, .int .i64 0, .int .i64 0, .string ByteArray.empty, .string ByteArray.empty, .string ByteArray.empty, .slice none 0 0, .slice none 0 0]), 10, 136) := by kernel_rfl
theorem OutE.slice {w0 wr : World} {B : Nat} {v : Value} {L : List (Nat → Dat)} (h : OutE w0 wr B v L) : ∃ a cap, v = .slice a L.length cap := by
  obtain ⟨C, h, _⟩ := h
  rcases h.2 with ⟨e, h0⟩ | ⟨g, cap, cur, e, _⟩
  · exact ⟨none, 0, by rw [e, h0]⟩
  · exact ⟨_, _, e⟩
theorem OutE.lit {w0 W : World} {B : Nat} (hB : B ≤ W.heap.size) : OutE w0 (W.alloc (.cells #[] 29)) B (.slice (some ⟨W.heap.size, 0, none⟩) 0 0) [] :=
  ⟨[], World.ownsRow_lit W #[] 0 hB (by decide) (by rfl), OutP.nil w0⟩
/-- one expression more -/
theorem appE {ops : Array Oper} {rest : List Oper} {o : Oper} {a : Act} {Q : Exit → Act → World → Prop}
    (hgd : o.guard = none) (s x : Operand) (ho : o.op = .call { callee := .builtin .append, args := #[s, x], argTypes := #[26, 26] })
    (w0 : World) (B : Nat) (v : Value) (L : List (Nat → Dat)) (c : Nat → Dat) (ys : Array Value) (W : World) (nb : Nat) (hnb : W.heap.size = nb) (hs : a.eval s = v) (hx : a.eval x = .slice (some ⟨nb, 0, none⟩) 1 1)
    (hown : OutE w0 W B v L) (hc : OutP w0 ys.toList [c]) (hl : L.length ≤ 4000000) (hB : B ≤ W.heap.size)
    (h : ∀ (v' : Value) (w' : World), OutE w0 w' B v' (L ++ [c]) → Below B W w' → wpList Try.prog ops Q rest (a.put o.dst v') w') :
    wpList Try.prog ops Q (o :: rest) a (W.alloc (.cells ys 29)) := by
  subst hnb
  obtain ⟨i, hi, hz, hsize, hby⟩ := info_parts Try.infoEx
  obtain ⟨C, hC, hP⟩ := hown
  have hrow := heap_alloc_new W (.cells ys 29)
  refine wpList_append_own _ hgd s x 26 ho B 29 i _ 10 136 Try.underlying26 hi hz hsize hby rfl (by decide) v L.length C hs (World.ownsRow.alloc hC _) ⟨W.heap.size, 0, none⟩ 1 1 ys.toList hx (by rw [hc.1]; rfl) (fun j u hj => ?_) hc.ones (by unfold maxLen; omega) (by omega) (by simp; omega) ?_
  · have hp : (⟨W.heap.size, 0, none⟩ : Addr).add j = ⟨W.heap.size, j, none⟩ := by unfold Addr.add; split <;> simp_all
    rw [hp, cell_of_row _ W.heap.size j _ 29 (0, 0) hrow]
    simpa using hj
  · intro v' w' hown' hgrow _
    have hb : Below B W w' := ((Below.refl B W).alloc hB _).grown hgrow (by simp; omega) (fun q hq => (World.ownsRow.lt hC q hq).1)
    exact h v' w' ⟨C ++ ys.toList, by rw [List.length_append]; exact hown', hP.append hc⟩ hb
/-- the cells of a slice of expressions -/
theorem Rd.outP {w : World} {n k : Nat} {f : Nat → Nat → Dat} {a : Option Addr} {m cap : Nat} (h : Rd w 0 (.slice a m cap) (.sl n k f)) (hf : Fits (.sl n k f) .exprs) :
    m = n ∧ (a = none → cap = 0) ∧ ∃ C, OutP w C (Dat.sl n k f).els ∧ (∀ (ad : Addr), a = some ad → ∀ j u, C[j]? = some u → w.cell? (ad.add j) = some u) ∧ (a = none → n = 0) := by
  obtain ⟨_, _, hk, hfit⟩ := hf
  obtain rfl : k = 10 := hk
  obtain ⟨a', cap', e, hc, hz, h⟩ := h
  injection e with e1 e2 e3
  subst e1; subst e2; subst e3
  refine ⟨rfl, hz, ?_⟩
  have hL : (Dat.sl m 10 f).els.length = m := by simp [Dat.els, Dat.len]
  rcases h with rfl | ⟨g, o, rfl, _, hg, hc⟩
  · exact ⟨[], ⟨by rw [hL]; rfl, fun i c hi => by have := (List.getElem?_eq_some_iff.1 hi).1; omega⟩, fun ad _ j u hj => by simp at hj, fun _ => rfl⟩
  · refine ⟨(List.range (m * 10)).map fun x => (w.cell? ⟨g, o + x, none⟩).getD undef, ⟨by rw [hL]; simp, fun i c hi j hj => ?_⟩, fun ad e j u hj => ?_, fun e => by cases e⟩
    · have him : i < m := by have := (List.getElem?_eq_some_iff.1 hi).1; omega
      have hj10 : j < 10 := hj
      obtain ⟨y, hy, hr⟩ := hc i him j hj
      have hcf : c = f i := by simpa [Dat.els, Dat.len, Dat.el, him] using hi.symm
      subst hcf
      refine ⟨y, ?_, hr, hfit i him j hj⟩
      rw [List.getElem?_map, List.getElem?_range (by omega)]
      rw [show o + i * 10 + j = o + (i * 10 + j) by omega] at hy
      simp [hy]
    · injection e with e
      subst e
      have hj2 : j < m * 10 := by have := (List.getElem?_eq_some_iff.1 hj).1; simpa using this
      rw [List.getElem?_map, List.getElem?_range hj2] at hj
      have hadd : (⟨g, o, none⟩ : Addr).add j = ⟨g, o + j, none⟩ := by unfold Addr.add; split <;> simp_all
      obtain ⟨y, hy, _⟩ := hc (j / 10) (by omega) (j % 10) (by omega)
      rw [show o + j / 10 * 10 + j % 10 = o + j by omega] at hy
      rw [hadd, hy]
      simpa [hy] using hj
/-- the expressions of a slice more -/
theorem appM {ops : Array Oper} {rest : List Oper} {o : Oper} {a : Act} {Q : Exit → Act → World → Prop}
    (hgd : o.guard = none) (s x : Operand) (ho : o.op = .call { callee := .builtin .append, args := #[s, x], argTypes := #[26, 26] })
    (w0 : World) (B : Nat) (v : Value) (L : List (Nat → Dat)) (ax : Option Addr) (m cap n k : Nat) (f : Nat → Nat → Dat) (W : World) (hs : a.eval s = v) (hx : a.eval x = .slice ax m cap)
    (hown : OutE w0 W B v L) (hr : Rd w0 0 (.slice ax m cap) (.sl n k f)) (hf : Fits (.sl n k f) .exprs) (hw : Below w0.heap.size w0 W) (hl : L.length ≤ 2000000) (hn : n ≤ 2000000) (hB : B ≤ W.heap.size)
    (h : ∀ (v' : Value) (w' : World), OutE w0 w' B v' (L ++ (Dat.sl n k f).els) → Below B W w' → wpList Try.prog ops Q rest (a.put o.dst v') w') :
    wpList Try.prog ops Q (o :: rest) a W := by
  obtain ⟨i, hi, hz, hsize, hby⟩ := info_parts Try.infoEx
  obtain ⟨C, hC, hP⟩ := hown
  obtain ⟨rfl, hcz, C', hP', hcell, hnone⟩ := hr.outP hf
  have hlen : (Dat.sl m k f).els.length = m := by simp [Dat.els, Dat.len]
  cases ax with
  | none =>
    obtain rfl : m = 0 := hnone rfl
    have hC' : C' = [] := List.eq_nil_of_length_eq_zero (by rw [hP'.1, hlen])
    subst hC'
    have hnil : (Dat.sl 0 k f).els = [] := rfl
    rw [hnil, List.append_nil] at h
    obtain rfl : cap = 0 := hcz rfl
    exact wpList_append_own_none hgd s x 26 ho B 29 i 10 Try.underlying26 hi v L.length C hs hC hx (h v W ⟨C, hC, hP⟩ (Below.refl B W))
  | some ad =>
    refine wpList_append_own _ hgd s x 26 ho B 29 i _ 10 136 Try.underlying26 hi hz hsize hby rfl (by decide) v L.length C hs hC ad m cap C' hx (by rw [hP'.1, hlen]) (fun j u hj => ?_) hP'.ones (by unfold maxLen; omega) (by omega) hB ?_
    · have h1 := hcell ad rfl j u hj
      exact (hw.cell (cell_block h1)).trans h1
    · intro v' w' hown' hgrow _
      have hb : Below B W w' := (Below.refl B W).grown hgrow hB (fun q hq => (World.ownsRow.lt hC q hq).1)
      exact h v' w' ⟨C ++ C', by rw [List.length_append, hlen]; exact hown', hP.append hP'⟩ hb
end Go.Proofs.Ytkacelpndeoogaa

/- Trees in the order of their nodes: an expression, then all that lies below it, each with its depth. No program. -/
namespace Go.Proofs.Ytkacelpndeoogaa
open Go.RowKit

abbrev Nd := Nat → Dat
/-- a node d deeper -/
def shift (d : Nat) (p : Nat × Nd) : Nat × Nd := (p.1 + d, p.2)
def preA : Alg (List (Nat × Nd)) := ⟨(· ++ ·), [], fun c l => (0, c) :: l.map (shift 1), fun _ l => l⟩
theorem preA_good : preA.Good := ⟨fun a b c => List.append_assoc a b c, fun _ => rfl, fun a => List.append_nil a⟩
theorem preA_of {β : Type} (g : β → List (Nat × Nd)) : ∀ l : List β, preA.of (l.map g) = l.flatMap g
  | [] => rfl
  | a :: l => by rw [List.map_cons, preA_good.of_cons, preA_of g l]; rfl
/-- the nodes of a tree, the tree's root at depth d -/
def pre (d : Nat) (c : Nd) : List (Nat × Nd) := (foldE preA c).map (shift d)
/-- what lies directly below an expression -/
def parts (c : Nd) : List Nd := (c 8).els ++ (c 9).els.flatMap exprsOf
theorem els_fits {d : Dat} {ty : Ty} (h : Fits d ty) {c : Nd} (hc : c ∈ d.els) : ∀ j (hj : j < (rowTy ty).length), Fits (c j) ((rowTy ty)[j]) := by
  cases d with
  | v x => simp [Dat.els, Dat.len] at hc
  | sl n k f =>
    obtain ⟨_, _, _, hfit⟩ := h
    simp only [Dat.els, Dat.len, Dat.el, List.mem_map, List.mem_range] at hc
    obtain ⟨i, hi, rfl⟩ := hc
    exact fun j hj => hfit i hi j hj
theorem fold_flatQ {α : Type} {G : Alg α} {d : Dat} (h : Fits d .queries) : fold G d .queries = G.of (d.els.map (foldQ G)) := by
  cases d with
  | v x => exact h.elim
  | sl n k f => exact fold_queries G
theorem preQ {q : Nd} (h : ∀ j (hj : j < (rowTy .queries).length), Fits (q j) ((rowTy .queries)[j])) : foldQ preA q = (exprsOf q).flatMap (foldE preA) := by
  rw [foldQ_is preA_good (h 1 (by decide)) (h 2 (by decide)) (h 3 (by decide)) (h 4 (by decide)), preA_of]
  rfl
theorem flatMap_congr' {α β : Type} {f g : α → List β} : ∀ {l : List α}, (∀ a ∈ l, f a = g a) → l.flatMap f = l.flatMap g
  | [], _ => rfl
  | a :: l, h => by
    rw [List.flatMap_cons, List.flatMap_cons, h a (List.mem_cons_self ..), flatMap_congr' fun b hb => h b (List.mem_cons_of_mem _ hb)]
theorem pre_eq (d : Nat) {c : Nd} (h8 : Fits (c 8) .exprs) (h9 : Fits (c 9) .queries) : pre d c = (d, c) :: (parts c).flatMap (pre (d + 1)) := by
  have e : foldE preA c = (0, c) :: ((parts c).flatMap (foldE preA)).map (shift 1) := by
    have e8 := fold_flat preA h8
    have e9 := fold_flatQ (G := preA) h9
    rw [preA_of] at e8 e9
    rw [flatMap_congr' fun q hq => preQ (els_fits h9 hq)] at e9
    unfold foldE parts
    rw [e8, e9, List.flatMap_append, List.flatMap_assoc]
    rfl
  unfold pre
  rw [e, List.map_cons, List.map_map, List.map_flatMap]
  have hs : shift d ∘ shift 1 = shift (d + 1) := by funext p; show (p.1 + 1 + d, p.2) = _; rw [Nat.add_assoc, Nat.add_comm 1 d]; rfl
  rw [hs]
  show (0 + d, c) :: _ = _
  rw [Nat.zero_add]
theorem fold_hom {α β : Type} {G : Alg α} {H : Alg β} (h : α → β) (hu : ∀ a b, h (G.up a b) = H.up (h a) (h b)) (hz : h G.z = H.z)
    (hn : ∀ c a, h (G.node c a) = H.node c (h a)) (hq : ∀ c a, h (G.qn c a) = H.qn c (h a)) : ∀ (d : Dat) (ty : Ty), h (fold G d ty) = fold H d ty
  | .v _, ty => by cases ty <;> exact hz
  | .sl n k f, ty => by
    have IH : ∀ i j ty, h (fold G (f i j) ty) = fold H (f i j) ty := fun i j ty => fold_hom h hu hz hn hq (f i j) ty
    have hof : ∀ (l : List α) (a : α), h (l.foldl G.up a) = (l.map h).foldl H.up (h a) := fun l => by
      induction l with
      | nil => intro a; rfl
      | cons b l ih => intro a; rw [List.foldl_cons, ih, hu]; rfl
    have hof' : ∀ l : List α, h (G.of l) = H.of (l.map h) := fun l => by unfold Alg.of; rw [hof, hz]
    cases ty
    case int => exact hz
    case bool => exact hz
    case str => exact hz
    case names => exact hz
    case rows => rw [fold, fold, hof', List.map_map]; congr 2; funext i; exact IH _ _ _
    case exprs => rw [fold, fold, hof', List.map_map]; congr 2; funext i; show h (G.node _ _) = _; rw [hn, hu, IH, IH]
    case items =>
      rw [fold, fold, hof', List.map_map]; congr 2; funext i
      show h (if (f i 0).tru then G.z else _) = _
      by_cases ht : (f i 0).tru
      · rw [if_pos ht, if_pos ht]; exact hz
      · rw [if_neg ht, if_neg ht, hn, hu, IH, IH]
    case sources => rw [fold, fold, hof', List.map_map]; congr 2; funext i; exact IH _ _ _
    case keys => rw [fold, fold, hof', List.map_map]; congr 2; funext i; show h (G.node _ _) = _; rw [hn, hu, IH, IH]
    case queries => rw [fold, fold, hof', List.map_map]; congr 2; funext i; show h (G.qn _ _) = _; rw [hq, hu, hu, hu, IH, IH, IH, IH]
theorem fold_homE {α β : Type} {G : Alg α} {H : Alg β} (h : α → β) (hu : ∀ a b, h (G.up a b) = H.up (h a) (h b)) (hz : h G.z = H.z)
    (hn : ∀ c a, h (G.node c a) = H.node c (h a)) (hq : ∀ c a, h (G.qn c a) = H.qn c (h a)) (c : Nd) : h (foldE G c) = foldE H c := by
  unfold foldE; rw [hn, hu, fold_hom h hu hz hn hq, fold_hom h hu hz hn hq]
/-- the deepest of some nodes -/
def mx (l : List (Nat × Nd)) : Nat := l.foldr (fun p m => max p.1 m) 0
theorem mx_append (l r : List (Nat × Nd)) : mx (l ++ r) = max (mx l) (mx r) := by
  induction l with
  | nil => show mx r = max 0 (mx r); omega
  | cons a l ih => show max a.1 (mx (l ++ r)) = max (max a.1 (mx l)) (mx r); rw [ih]; omega
theorem mx_up (d : Nat) (l : List (Nat × Nd)) : max (d + 1) (mx (l.map (shift (d + 1 + 1)))) = max d (mx (l.map (shift (d + 1)))) + 1 := by
  induction l with
  | nil => show max (d + 1) 0 = max d 0 + 1; omega
  | cons a l ih =>
    show max (d + 1) (max (a.1 + (d + 1 + 1)) (mx (l.map (shift (d + 1 + 1))))) = max d (max (a.1 + (d + 1)) (mx (l.map (shift (d + 1))))) + 1
    omega
theorem mx_pre (c : Nd) : mx (pre 1 c) = foldE depA c := by
  refine fold_homE (G := preA) (H := depA) (fun l => mx (l.map (shift 1))) (fun a b => ?_) rfl (fun c l => ?_) (fun _ _ => rfl) c
  · show mx ((a ++ b).map _) = max _ _
    rw [List.map_append, mx_append]
  · have h := mx_up 0 l
    show max (0 + 1) (mx ((l.map (shift 1)).map (shift 1))) = mx (l.map (shift 1)) + 1
    rw [List.map_map]
    have hs : shift 1 ∘ shift 1 = shift (0 + 1 + 1) := by funext p; rfl
    rw [hs, h]
    show max 0 (mx (l.map (shift (0 + 1)))) + 1 = mx (l.map (shift 1)) + 1
    rw [Nat.zero_max]
theorem len_pre (d : Nat) (c : Nd) : (pre d c).length = foldE sizA c := by
  unfold pre
  rw [List.length_map]
  exact fold_homE (G := preA) (H := sizA) List.length (fun a b => List.length_append) rfl (fun c l => by show ((0, c) :: l.map _).length = l.length + 1; simp) (fun _ _ => rfl) c
theorem mx_flat (l : List Nd) : mx (l.flatMap (pre 1)) = depA.of (l.map (foldE depA)) := by
  induction l with
  | nil => rfl
  | cons c l ih => rw [List.flatMap_cons, mx_append, ih, mx_pre, List.map_cons, depA_good.of_cons]; rfl
theorem len_flat (d : Nat) (l : List Nd) : (l.flatMap (pre d)).length = sizA.of (l.map (foldE sizA)) := by
  induction l with
  | nil => rfl
  | cons c l ih => rw [List.flatMap_cons, List.length_append, ih, len_pre, List.map_cons, sizA_good.of_cons]; rfl
theorem take_next {α : Type} {l : List α} {i : Nat} {x : α} (h : l[i]? = some x) : l.take (i + 1) = l.take i ++ [x] := by
  rw [List.take_add_one, h]; rfl
/-- the nodes that a stack has still to come: its lists, the last first -/
def togo : List (Nat × List Nd) → List (Nat × Nd)
  | [] => []
  | (d, L) :: r => L.flatMap (pre d) ++ togo r
end Go.Proofs.Ytkacelpndeoogaa

/- The contract of the model's list of a query's expressions. -/
namespace Go.Proofs.Ytkacelpndeoogaa
open Go.RowKit

theorem exItems_succ (j k : Nat) (f : Nat → Nat → Dat) : exItems (.sl (j + 1) k f) = exItems (.sl j k f) ++ (if (f j 0).tru then [] else [cut 2 (f j)]) := by
  unfold exItems Dat.els
  show List.map (cut 2) (List.filter _ (List.map f (List.range (j + 1)))) = List.map (cut 2) (List.filter _ (List.map f (List.range j))) ++ _
  rw [List.range_succ, List.map_append, List.filter_append, List.map_append]
  congr 1
  simp only [List.map_cons, List.map_nil, List.filter_cons, List.filter_nil]
  cases (f j 0).tru <;> rfl
theorem exFrom_succ (j k : Nat) (f : Nat → Nat → Dat) : exFrom (.sl (j + 1) k f) = exFrom (.sl j k f) ++ (f j 2).els := by
  unfold exFrom
  show List.flatMap _ (List.map f (List.range (j + 1))) = List.flatMap _ (List.map f (List.range j)) ++ _
  rw [List.range_succ, List.map_append, List.flatMap_append]
  simp
theorem els_succ (j k : Nat) (f : Nat → Nat → Dat) : (Dat.sl (j + 1) k f).els = (Dat.sl j k f).els ++ [f j] := by
  show List.map f (List.range (j + 1)) = List.map f (List.range j) ++ _
  rw [List.range_succ, List.map_append]; rfl
theorem exItems_mono (k : Nat) (f : Nat → Nat → Dat) {j n : Nat} (h : j ≤ n) : (exItems (.sl j k f)).length ≤ (exItems (.sl n k f)).length := by
  induction n with
  | zero => obtain rfl : j = 0 := by omega
            exact Nat.le_refl _
  | succ n ih =>
    by_cases e : j = n + 1
    · rw [e]; exact Nat.le_refl _
    · have := ih (by omega)
      rw [exItems_succ, List.length_append]; omega
theorem exFrom_mono (k : Nat) (f : Nat → Nat → Dat) {j n : Nat} (h : j ≤ n) : (exFrom (.sl j k f)).length ≤ (exFrom (.sl n k f)).length := by
  induction n with
  | zero => obtain rfl : j = 0 := by omega
            exact Nat.le_refl _
  | succ n ih =>
    by_cases e : j = n + 1
    · rw [e]; exact Nat.le_refl _
    · have := ih (by omega)
      rw [exFrom_succ, List.length_append]; omega
theorem els_len (n k : Nat) (f : Nat → Nat → Dat) : (Dat.sl n k f).els.length = n := by simp [Dat.els, Dat.len]
/-- the query's box and the list so far -/
structure LX (w wr : World) (arr : Array Value) (out : Value) (L : List (Nat → Dat)) : Prop where
  box : RowAt wr w.heap.size 38 arr
  own : OutE w wr (w.heap.size + 1) out L
  b : Below w.heap.size w wr
theorem LX.app {w wr w' : World} {arr : Array Value} {out out' : Value} {L L' : List (Nat → Dat)} (H : LX w wr arr out L) (h : OutE w w' (w.heap.size + 1) out' L') (hb : Below (w.heap.size + 1) wr w') : LX w w' arr out' L' :=
  ⟨(hb.block _ (Nat.lt_succ_self _)).trans H.box, h, H.b.trans (hb.mono (Nat.le_succ _))⟩
theorem LX.sz {w wr : World} {arr : Array Value} {out : Value} {L : List (Nat → Dat)} (H : LX w wr arr out L) : w.heap.size + 1 ≤ wr.heap.size := H.box.lt
def ExprsE (L : List (Nat → Dat)) (w : World) (e : Ending) (w' : World) : Prop := ∃ v : Value, e = .returned v ∧ OutE w w' (w.heap.size + 1) v L ∧ Below w.heap.size w w'
set_option maxRecDepth 100000 in
set_option maxHeartbeats 8000000 in
theorem exprs_spec (c0 : Bool) (a1 : Option Addr) (n1 p1 : Nat) (a2 : Option Addr) (n2 p2 : Nat) (a3 : Option Addr) (n3 p3 : Nat) (a4 : Option Addr) (n4 p4 : Nat) (c5 : Int) (f1 f2 f3 f4 : Nat → Nat → Dat) (w : World)
    (r1 : Rd w 0 (.slice a1 n1 p1) (.sl n1 13 f1)) (q1 : Fits (.sl n1 13 f1) .items) (r2 : Rd w 0 (.slice a2 n2 p2) (.sl n2 3 f2)) (q2 : Fits (.sl n2 3 f2) .sources)
    (r3 : Rd w 0 (.slice a3 n3 p3) (.sl n3 10 f3)) (q3 : Fits (.sl n3 10 f3) .exprs) (r4 : Rd w 0 (.slice a4 n4 p4) (.sl n4 11 f4)) (q4 : Fits (.sl n4 11 f4) .keys)
    (hN : (exItems (.sl n1 13 f1)).length + (exFrom (.sl n2 3 f2)).length + n3 + n4 ≤ 1048576) :
    Calls Try.prog 96 #[.agg #[.bool c0, .slice a1 n1 p1, .slice a2 n2 p2, .slice a3 n3 p3, .slice a4 n4 p4, .int .i64 c5]] w (ExprsE (((exItems (.sl n1 13 f1) ++ exFrom (.sl n2 3 f2)) ++ (Dat.sl n3 10 f3).els) ++ (Dat.sl n4 11 f4).els) w) := by
  have H0 : LX w ((w.alloc (.cells #[.bool c0, .slice a1 n1 p1, .slice a2 n2 p2, .slice a3 n3 p3, .slice a4 n4 p4, .int .i64 c5] 38)).alloc (.cells #[] 29)) #[.bool c0, .slice a1 n1 p1, .slice a2 n2 p2, .slice a3 n3 p3, .slice a4 n4 p4, .int .i64 c5] (.slice (some ⟨w.heap.size + 1, 0, none⟩) 0 0) (exItems (.sl 0 13 f1)) := ⟨(RowAt.new w _ _).alloc _, by
    have h := OutE.lit (w0 := w) (W := w.alloc (.cells #[.bool c0, .slice a1 n1 p1, .slice a2 n2 p2, .slice a3 n3 p3, .slice a4 n4 p4, .int .i64 c5] 38)) (B := w.heap.size + 1) (by simp)
    have e : (w.alloc (.cells #[.bool c0, .slice a1 n1 p1, .slice a2 n2 p2, .slice a3 n3 p3, .slice a4 n4 p4, .int .i64 c5] 38)).heap.size = w.heap.size + 1 := by simp
    rw [e] at h
    exact h, ((Below.refl _ _).alloc (Nat.le_refl _) _).alloc (by simp) _⟩
  have HN := Lib.hid hN
  clear hN
  have hn1 := q1.2.1
  have hn2 := q2.2.1
  have hn3 := q3.2.1
  have hn4 := q4.2.1
  go_enter Try.func96, Try.ntmps96
  go_wp2_with fail
  generalize ((w.alloc (.cells #[.bool c0, .slice a1 n1 p1, .slice a2 n2 p2, .slice a3 n3 p3, .slice a4 n4 p4, .int .i64 c5] 38)).alloc (.cells #[] 29)) = w0 at H0 ⊢
  go_loopw [3, 4] (fun out i wr => ∃ (j : Nat) (v : Value), j ≤ n1 ∧ i = .int .i64 (j : Int) ∧ v = out ∧ LX w wr #[.bool c0, .slice a1 n1 p1, .slice a2 n2 p2, .slice a3 n3 p3, .slice a4 n4 p4, .int .i64 c5] v (exItems (.sl j 13 f1))) (fun _ i _ => n1 - (intOf i).toNat)
  case atStart => exact ⟨0, _, by omega, rfl, rfl, H0⟩
  case round =>
    obtain ⟨j, v, hj, rfl, rfl, H⟩ := hrel
    have b1 := H.box.cell (i := 1) (v := .slice a1 n1 p1) rfl
    by_cases hlt : j < n1
    · have hlt2 : (j : Int) < (n1 : Int) := by omega
      obtain ⟨g, o, rfl, -, hg, x0, x1, x2, x3, x4, x5, x6, x7, x8, x9, x10, x11, x12, ⟨z0, z1, z2, z3, z4, z5, z6, z7, z8, z9, z10, z11, z12⟩, ⟨e0, ⟨e1, b1⟩, ⟨e2, b2⟩, ⟨e3, b3⟩, e4, ⟨e5, b5⟩, ⟨e6, b6⟩, ⟨e7, b7⟩, ⟨e8, b8⟩, ⟨e9, b9⟩, ⟨r10, q10⟩, ⟨r11, q11⟩, ⟨e12, b12⟩⟩⟩ := row_items r1 q1 hlt
      replace z0 := (H.b.cell (p := ⟨g, o + j * 13, none⟩) hg).trans z0
      replace z1 := (H.b.cell (p := ⟨g, o + j * 13 + 1, none⟩) hg).trans z1
      replace z2 := (H.b.cell (p := ⟨g, o + j * 13 + 2, none⟩) hg).trans z2
      replace z3 := (H.b.cell (p := ⟨g, o + j * 13 + 3, none⟩) hg).trans z3
      replace z4 := (H.b.cell (p := ⟨g, o + j * 13 + 4, none⟩) hg).trans z4
      replace z5 := (H.b.cell (p := ⟨g, o + j * 13 + 5, none⟩) hg).trans z5
      replace z6 := (H.b.cell (p := ⟨g, o + j * 13 + 6, none⟩) hg).trans z6
      replace z7 := (H.b.cell (p := ⟨g, o + j * 13 + 7, none⟩) hg).trans z7
      replace z8 := (H.b.cell (p := ⟨g, o + j * 13 + 8, none⟩) hg).trans z8
      replace z9 := (H.b.cell (p := ⟨g, o + j * 13 + 9, none⟩) hg).trans z9
      replace z10 := (H.b.cell (p := ⟨g, o + j * 13 + 10, none⟩) hg).trans z10
      replace z11 := (H.b.cell (p := ⟨g, o + j * 13 + 11, none⟩) hg).trans z11
      replace z12 := (H.b.cell (p := ⟨g, o + j * 13 + 12, none⟩) hg).trans z12
      cases x0
      case true =>
        have hs : exItems (.sl (j + 1) 13 f1) = exItems (.sl j 13 f1) := by rw [exItems_succ, e0]; simp [Dat.tru]
        have H2 : LX w wr #[.bool c0, .slice (some ⟨g, o, none⟩) n1 p1, .slice a2 n2 p2, .slice a3 n3 p3, .slice a4 n4 p4, .int .i64 c5] v (exItems (.sl (j + 1) 13 f1)) := by rw [hs]; exact H
        clear hs e0 e1 e2 e3 e4 e5 e6 e7 e8 e9 e12
        go_wp2_with fail
        go_roundw
        case rel => exact ⟨j + 1, _, by omega, by go_num, rfl, H2⟩
        case measure => simp [intOf]; omega
      case false =>
        have hs : exItems (.sl (j + 1) 13 f1) = exItems (.sl j 13 f1) ++ [cut 2 (f1 j)] := by rw [exItems_succ, e0]; rfl
        have HS := Lib.hid hs
        clear hs
        have hl := exItems_mono 13 f1 (show j ≤ n1 by omega)
        obtain ⟨ya, yn, yc, rfl⟩ := r10.slice_of q10 rfl
        obtain ⟨za, zn, zc, rfl⟩ := r11.slice_of q11 rfl
        have hc : OutP w [.int .i64 x2, .int .i64 x3, .bool x4, .int .i64 x5, .int .i64 x6, .string x7, .string x8, .string x9, .slice ya yn yc, .slice za zn zc] [cut 2 (f1 j)] := OutP.one rfl (fun m hm => match m, hm with
            | 0, _ => ⟨_, rfl, by show Rd w 0 _ (f1 j 2); rw [e2]; rfl, q1.2.2.2 j hlt 2 (by decide)⟩
            | 1, _ => ⟨_, rfl, by show Rd w 0 _ (f1 j 3); rw [e3]; rfl, q1.2.2.2 j hlt 3 (by decide)⟩
            | 2, _ => ⟨_, rfl, by show Rd w 0 _ (f1 j 4); rw [e4]; rfl, q1.2.2.2 j hlt 4 (by decide)⟩
            | 3, _ => ⟨_, rfl, by show Rd w 0 _ (f1 j 5); rw [e5]; rfl, q1.2.2.2 j hlt 5 (by decide)⟩
            | 4, _ => ⟨_, rfl, by show Rd w 0 _ (f1 j 6); rw [e6]; rfl, q1.2.2.2 j hlt 6 (by decide)⟩
            | 5, _ => ⟨_, rfl, by show Rd w 0 _ (f1 j 7); rw [e7]; rfl, q1.2.2.2 j hlt 7 (by decide)⟩
            | 6, _ => ⟨_, rfl, by show Rd w 0 _ (f1 j 8); rw [e8]; rfl, q1.2.2.2 j hlt 8 (by decide)⟩
            | 7, _ => ⟨_, rfl, by show Rd w 0 _ (f1 j 9); rw [e9]; rfl, q1.2.2.2 j hlt 9 (by decide)⟩
            | 8, _ => ⟨_, rfl, by exact r10, q1.2.2.2 j hlt 10 (by decide)⟩
            | 9, _ => ⟨_, rfl, by exact r11, q1.2.2.2 j hlt 11 (by decide)⟩
            | m + 10, hm => absurd hm (by simp [exprTy]))
        have HC := Lib.hid hc
        clear hc e0 e1 e2 e3 e4 e5 e6 e7 e8 e9 e12 r10 r11
        go_wp2_with (at_builtin; refine appE rfl (.tmp 22) (.tmp 29) rfl w (w.heap.size + 1) v (exItems (.sl j 13 f1)) (cut 2 (f1 j)) #[.int .i64 x2, .int .i64 x3, .bool x4, .int .i64 x5, .int .i64 x6, .string x7, .string x8, .string x9, .slice ya yn yc, .slice za zn zc] wr wr.heap.size rfl rfl rfl H.own HC.out (by have := HN.out; omega) H.sz ?_; intro v' w' hown' hb')
        have H2 := H.app hown' hb'
        rw [← HS.out] at H2
        go_roundw
        case rel => exact ⟨j + 1, _, by omega, by go_num, rfl, H2⟩
        case measure => simp [intOf]; omega
    · obtain rfl : n1 = j := by omega
      clear hlt hj
      go_wp2_with fail
      go_loopw [3, 5] (fun out i wr => ∃ (j : Nat) (v : Value), j ≤ n2 ∧ i = .int .i64 (j : Int) ∧ v = out ∧ LX w wr #[.bool c0, .slice a1 n1 p1, .slice a2 n2 p2, .slice a3 n3 p3, .slice a4 n4 p4, .int .i64 c5] v (exItems (.sl n1 13 f1) ++ exFrom (.sl j 3 f2))) (fun _ i _ => n2 - (intOf i).toNat)
      case atStart => exact ⟨0, _, by omega, rfl, rfl, by show LX w _ _ _ (_ ++ []); rw [List.append_nil]; exact H⟩
      case round =>
        obtain ⟨j, v, hj, rfl, rfl, H⟩ := hrel
        have b1 := H.box.cell (i := 2) (v := .slice a2 n2 p2) rfl
        by_cases hlt : j < n2
        · have hlt2 : (j : Int) < (n2 : Int) := by omega
          obtain ⟨g, o, rfl, -, hg, x0, x1, x2, ⟨z0, z1, z2⟩, ⟨⟨e0, b0⟩, ⟨e1, b1⟩, ⟨r2_, q2_⟩⟩⟩ := row_sources r2 q2 hlt
          replace z0 := (H.b.cell (p := ⟨g, o + j * 3, none⟩) hg).trans z0
          replace z1 := (H.b.cell (p := ⟨g, o + j * 3 + 1, none⟩) hg).trans z1
          replace z2 := (H.b.cell (p := ⟨g, o + j * 3 + 2, none⟩) hg).trans z2
          obtain ⟨nn, kk, ff, hsl⟩ := q2_.deep rfl
          obtain ⟨ya, yn, yc, rfl⟩ := r2_.slice_of q2_ rfl
          have hs : exItems (.sl n1 13 f1) ++ exFrom (.sl (j + 1) 3 f2) = (exItems (.sl n1 13 f1) ++ exFrom (.sl j 3 f2)) ++ (Dat.sl nn kk ff).els := by rw [exFrom_succ, hsl, List.append_assoc]
          have hl : (exItems (.sl n1 13 f1) ++ exFrom (.sl j 3 f2)).length ≤ 1048576 ∧ nn ≤ 1048576 := by
            have h1 := exFrom_mono 3 f2 (show j + 1 ≤ n2 by omega)
            have h2 := HN.out
            rw [exFrom_succ, hsl, List.length_append, els_len] at h1
            rw [List.length_append]
            omega
          rw [hsl] at r2_ q2_
          have HS := Lib.hid hs
          obtain ⟨hl1, hl2⟩ := hl
          clear hs hsl e0 e1
          go_wp2_with (at_builtin; refine appM rfl (.tmp 38) (.tmp 44) rfl w (w.heap.size + 1) v (exItems (.sl n1 13 f1) ++ exFrom (.sl j 3 f2)) ya yn yc nn kk ff wr rfl rfl H.own r2_ q2_ H.b (by omega) (by omega) H.sz ?_; intro v' w' hown' hb')
          have H2 := H.app hown' hb'
          rw [← HS.out] at H2
          go_roundw
          case rel => exact ⟨j + 1, _, by omega, by go_num, rfl, H2⟩
          case measure => simp [intOf]; omega
        · obtain rfl : n2 = j := by omega
          clear hlt hj
          have hl : (exItems (.sl n1 13 f1) ++ exFrom (.sl n2 3 f2)).length ≤ 1048576 ∧ n3 ≤ 1048576 := by
            have h2 := HN.out
            rw [List.length_append]
            omega
          obtain ⟨hl1, hl2⟩ := hl
          have b3 := H.box.cell (i := 3) (v := .slice a3 n3 p3) rfl
          go_wp2_with (at_builtin; refine appM rfl (.tmp 46) (.tmp 48) rfl w (w.heap.size + 1) v (exItems (.sl n1 13 f1) ++ exFrom (.sl n2 3 f2)) a3 n3 p3 n3 10 f3 _ rfl rfl H.own r3 q3 H.b (by omega) (by omega) H.sz ?_; intro v' w' hown' hb')
          replace H : LX w w' #[.bool c0, .slice a1 n1 p1, .slice a2 n2 p2, .slice a3 n3 p3, .slice a4 n4 p4, .int .i64 c5] v' ((exItems (.sl n1 13 f1) ++ exFrom (.sl n2 3 f2)) ++ (Dat.sl n3 10 f3).els) := H.app hown' hb'
          clear hown' hb' hl1 hl2 b1 b3
          go_loopw [3, 6] (fun out i wr => ∃ (j : Nat) (v : Value), j ≤ n4 ∧ i = .int .i64 (j : Int) ∧ v = out ∧ LX w wr #[.bool c0, .slice a1 n1 p1, .slice a2 n2 p2, .slice a3 n3 p3, .slice a4 n4 p4, .int .i64 c5] v (((exItems (.sl n1 13 f1) ++ exFrom (.sl n2 3 f2)) ++ (Dat.sl n3 10 f3).els) ++ (Dat.sl j 11 f4).els)) (fun _ i _ => n4 - (intOf i).toNat)
          case atStart => exact ⟨0, _, by omega, rfl, rfl, by show LX w _ _ _ (_ ++ []); rw [List.append_nil]; exact H⟩
          case round =>
            obtain ⟨j, v, hj, rfl, rfl, H⟩ := hrel
            have b1 := H.box.cell (i := 4) (v := .slice a4 n4 p4) rfl
            by_cases hlt : j < n4
            · have hlt2 : (j : Int) < (n4 : Int) := by omega
              obtain ⟨g, o, rfl, -, hg, x0, x1, x2, x3, x4, x5, x6, x7, x8, x9, x10, ⟨z0, z1, z2, z3, z4, z5, z6, z7, z8, z9, z10⟩, ⟨⟨e0, b0⟩, ⟨e1, b1⟩, e2, ⟨e3, b3⟩, ⟨e4, b4⟩, ⟨e5, b5⟩, ⟨e6, b6⟩, ⟨e7, b7⟩, ⟨r8, q8⟩, ⟨r9, q9⟩, e10⟩⟩ := row_keys r4 q4 hlt
              replace z0 := (H.b.cell (p := ⟨g, o + j * 11, none⟩) hg).trans z0
              replace z1 := (H.b.cell (p := ⟨g, o + j * 11 + 1, none⟩) hg).trans z1
              replace z2 := (H.b.cell (p := ⟨g, o + j * 11 + 2, none⟩) hg).trans z2
              replace z3 := (H.b.cell (p := ⟨g, o + j * 11 + 3, none⟩) hg).trans z3
              replace z4 := (H.b.cell (p := ⟨g, o + j * 11 + 4, none⟩) hg).trans z4
              replace z5 := (H.b.cell (p := ⟨g, o + j * 11 + 5, none⟩) hg).trans z5
              replace z6 := (H.b.cell (p := ⟨g, o + j * 11 + 6, none⟩) hg).trans z6
              replace z7 := (H.b.cell (p := ⟨g, o + j * 11 + 7, none⟩) hg).trans z7
              replace z8 := (H.b.cell (p := ⟨g, o + j * 11 + 8, none⟩) hg).trans z8
              replace z9 := (H.b.cell (p := ⟨g, o + j * 11 + 9, none⟩) hg).trans z9
              replace z10 := (H.b.cell (p := ⟨g, o + j * 11 + 10, none⟩) hg).trans z10
              obtain ⟨ya, yn, yc, rfl⟩ := r8.slice_of q8 rfl
              obtain ⟨za, zn, zc, rfl⟩ := r9.slice_of q9 rfl
              have hs : ((exItems (.sl n1 13 f1) ++ exFrom (.sl n2 3 f2)) ++ (Dat.sl n3 10 f3).els) ++ (Dat.sl (j + 1) 11 f4).els = (((exItems (.sl n1 13 f1) ++ exFrom (.sl n2 3 f2)) ++ (Dat.sl n3 10 f3).els) ++ (Dat.sl j 11 f4).els) ++ [f4 j] := by rw [els_succ, ← List.append_assoc]
              have hl : (((exItems (.sl n1 13 f1) ++ exFrom (.sl n2 3 f2)) ++ (Dat.sl n3 10 f3).els) ++ (Dat.sl j 11 f4).els).length ≤ 1048576 := by
                have h2 := HN.out
                simp only [List.length_append, els_len]
                omega
              have HS := Lib.hid hs
              clear hs
              have hc : OutP w [.int .i64 x0, .int .i64 x1, .bool x2, .int .i64 x3, .int .i64 x4, .string x5, .string x6, .string x7, .slice ya yn yc, .slice za zn zc] [f4 j] := OutP.one rfl (fun m hm => match m, hm with
                  | 0, _ => ⟨_, rfl, by show Rd w 0 _ (f4 j 0); rw [e0]; rfl, q4.2.2.2 j hlt 0 (by decide)⟩
                  | 1, _ => ⟨_, rfl, by show Rd w 0 _ (f4 j 1); rw [e1]; rfl, q4.2.2.2 j hlt 1 (by decide)⟩
                  | 2, _ => ⟨_, rfl, by show Rd w 0 _ (f4 j 2); rw [e2]; rfl, q4.2.2.2 j hlt 2 (by decide)⟩
                  | 3, _ => ⟨_, rfl, by show Rd w 0 _ (f4 j 3); rw [e3]; rfl, q4.2.2.2 j hlt 3 (by decide)⟩
                  | 4, _ => ⟨_, rfl, by show Rd w 0 _ (f4 j 4); rw [e4]; rfl, q4.2.2.2 j hlt 4 (by decide)⟩
                  | 5, _ => ⟨_, rfl, by show Rd w 0 _ (f4 j 5); rw [e5]; rfl, q4.2.2.2 j hlt 5 (by decide)⟩
                  | 6, _ => ⟨_, rfl, by show Rd w 0 _ (f4 j 6); rw [e6]; rfl, q4.2.2.2 j hlt 6 (by decide)⟩
                  | 7, _ => ⟨_, rfl, by show Rd w 0 _ (f4 j 7); rw [e7]; rfl, q4.2.2.2 j hlt 7 (by decide)⟩
                  | 8, _ => ⟨_, rfl, by exact r8, q4.2.2.2 j hlt 8 (by decide)⟩
                  | 9, _ => ⟨_, rfl, by exact r9, q4.2.2.2 j hlt 9 (by decide)⟩
                  | m + 10, hm => absurd hm (by simp [exprTy]))
              have HC := Lib.hid hc
              clear hc e0 e1 e2 e3 e4 e5 e6 e7 e10 r8 r9
              go_wp2_with (at_builtin; refine appE rfl (.tmp 57) (.tmp 64) rfl w (w.heap.size + 1) v (((exItems (.sl n1 13 f1) ++ exFrom (.sl n2 3 f2)) ++ (Dat.sl n3 10 f3).els) ++ (Dat.sl j 11 f4).els) (f4 j) #[.int .i64 x0, .int .i64 x1, .bool x2, .int .i64 x3, .int .i64 x4, .string x5, .string x6, .string x7, .slice ya yn yc, .slice za zn zc] wr wr.heap.size rfl rfl rfl H.own HC.out (by omega) H.sz ?_; intro v' w' hown' hb')
              have H2 := H.app hown' hb'
              rw [← HS.out] at H2
              go_roundw
              case rel => exact ⟨j + 1, _, by omega, by go_num, rfl, H2⟩
              case measure => simp [intOf]; omega
            · obtain rfl : n4 = j := by omega
              clear hlt hj
              go_wp2_with fail
              go_ret
              exact ⟨v, rfl, H.own, H.b⟩
end Go.Proofs.Ytkacelpndeoogaa
