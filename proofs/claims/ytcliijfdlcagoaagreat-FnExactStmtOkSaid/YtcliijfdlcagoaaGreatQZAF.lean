/- Joined texts: TreeMath Exprs ExprsS. -/
import Derived.Test.YtcliijfdlcagoaaGreatQZAA
import Derived.Test.YtcliijfdlcagoaaGreatQZAD
import Derived.Test.YtcliijfdlcagoaaGreatQZAE
import Derived.Laws.OwnMore
import Derived.Maps.AppendAt
import Derived.Laws.AppendOwnNone
namespace Go.Proofs.YtcliijfdlcagoaaGreat
set_option linter.unusedVariables false
set_option linter.unusedSimpArgs false
open Go.RowKit
def Dat.len : Dat → Nat
  | .sl n _ _ => n
  | .v _ => 0
def Dat.el : Dat → Nat → Nat → Dat
  | .sl _ _ f => f
  | .v _ => fun _ _ => .v undef
def Dat.tru : Dat → Bool
  | .v (.bool b) => b
  | _ => false
def Dat.els (d : Dat) : List (Nat → Dat) := (List.range d.len).map d.el
def cut (o : Nat) (c : Nat → Dat) : Nat → Dat := fun m => c (o + m)
def exItems (d : Dat) : List (Nat → Dat) := (d.els.filter fun c => !(c 0).tru).map (cut 2)
def exFrom (d : Dat) : List (Nat → Dat) := d.els.flatMap fun c => (c 2).els
def exprsOf (q : Nat → Dat) : List (Nat → Dat) := ((exItems (q 1) ++ exFrom (q 2)) ++ (q 3).els) ++ (q 4).els
structure Alg (α : Type) where
  up : α → α → α                    -- what two parts make
  z : α                             -- of no parts
  node : (Nat → Dat) → α → α        -- an expression, over its parts
  qn : (Nat → Dat) → α → α          -- a query, over its expressions
variable {α : Type}
def Alg.of (G : Alg α) (l : List α) : α := l.foldl G.up G.z
def fold (G : Alg α) : Dat → Ty → α
  | .sl n _ f, .exprs => G.of ((List.range n).map fun i => G.node (f i) (G.up (fold G (f i 8) .exprs) (fold G (f i 9) .queries)))
  | .sl n _ f, .items => G.of ((List.range n).map fun i => if (f i 0).tru then G.z else G.node (cut 2 (f i)) (G.up (fold G (f i 10) .exprs) (fold G (f i 11) .queries)))
  | .sl n _ f, .sources => G.of ((List.range n).map fun i => fold G (f i 2) .exprs)
  | .sl n _ f, .keys => G.of ((List.range n).map fun i => G.node (f i) (G.up (fold G (f i 8) .exprs) (fold G (f i 9) .queries)))
  | .sl n _ f, .queries => G.of ((List.range n).map fun i => G.qn (f i) (G.up (G.up (G.up (fold G (f i 1) .items) (fold G (f i 2) .sources)) (fold G (f i 3) .exprs)) (fold G (f i 4) .keys)))
  | .sl n _ f, .rows => G.of ((List.range n).map fun i => fold G (f i 0) .exprs)
  | _, _ => G.z
def foldE (G : Alg α) (c : Nat → Dat) : α := G.node c (G.up (fold G (c 8) .exprs) (fold G (c 9) .queries))
def foldQ (G : Alg α) (q : Nat → Dat) : α := G.qn q (G.up (G.up (G.up (fold G (q 1) .items) (fold G (q 2) .sources)) (fold G (q 3) .exprs)) (fold G (q 4) .keys))
structure Alg.Good (G : Alg α) : Prop where
  assoc : ∀ a b c, G.up (G.up a b) c = G.up a (G.up b c)
  left : ∀ a, G.up G.z a = a
  right : ∀ a, G.up a G.z = a
theorem Alg.Good.foldl {G : Alg α} (H : G.Good) : ∀ (l : List α) (a : α), l.foldl G.up a = G.up a (l.foldl G.up G.z)
  | [], a => (H.right a).symm
  | b :: l, a => by
    rw [List.foldl_cons, List.foldl_cons, H.foldl l (G.up a b), H.foldl l (G.up G.z b), H.left, H.assoc]
theorem Alg.Good.of_append {G : Alg α} (H : G.Good) (l r : List α) : G.of (l ++ r) = G.up (G.of l) (G.of r) := by
  unfold Alg.of; rw [List.foldl_append, H.foldl r]
theorem Alg.Good.of_cons {G : Alg α} (H : G.Good) (a : α) (r : List α) : G.of (a :: r) = G.up a (G.of r) := by
  unfold Alg.of; rw [List.foldl_cons, H.left, H.foldl r]
theorem Alg.of_snoc (G : Alg α) (l : List α) (a : α) : G.of (l ++ [a]) = G.up (G.of l) a := by
  unfold Alg.of; rw [List.foldl_append]; rfl
theorem fold_exprs (G : Alg α) {n k : Nat} {f : Nat → Nat → Dat} : fold G (.sl n k f) .exprs = G.of ((Dat.sl n k f).els.map (foldE G)) := by
  unfold fold Dat.els
  simp only [Dat.len, Dat.el, List.map_map]
  rfl
theorem fold_keys (G : Alg α) {n k : Nat} {f : Nat → Nat → Dat} : fold G (.sl n k f) .keys = G.of ((Dat.sl n k f).els.map (foldE G)) := by
  unfold fold Dat.els
  simp only [Dat.len, Dat.el, List.map_map]
  rfl
theorem fold_queries (G : Alg α) {n k : Nat} {f : Nat → Nat → Dat} : fold G (.sl n k f) .queries = G.of ((Dat.sl n k f).els.map (foldQ G)) := by
  unfold fold Dat.els
  simp only [Dat.len, Dat.el, List.map_map]
  rfl
theorem Alg.Good.of_flatMap {β : Type} {G : Alg α} (H : G.Good) (g : β → List α) : ∀ l : List β, G.of (l.flatMap g) = G.of (l.map fun a => G.of (g a))
  | [] => rfl
  | a :: l => by rw [List.flatMap_cons, H.of_append, H.of_flatMap g l, List.map_cons, H.of_cons]
theorem fold_items {G : Alg α} (H : G.Good) {n k : Nat} {f : Nat → Nat → Dat} : fold G (.sl n k f) .items = G.of ((exItems (.sl n k f)).map (foldE G)) := by
  have h : ∀ l : List (Nat → Dat), G.of (l.map fun c => if (c 0).tru then G.z else foldE G (cut 2 c)) = G.of (((l.filter fun c => !(c 0).tru).map (cut 2)).map (foldE G)) := fun l => by
    induction l with
    | nil => rfl
    | cons a l ih =>
      rw [List.map_cons, H.of_cons, ih, List.filter_cons]
      cases (a 0).tru
      · simp only [Bool.not_false, if_true, List.map_cons, H.of_cons]; rfl
      · simp only [Bool.not_true, if_true, H.left]; rfl
  unfold exItems
  rw [← h]
  unfold fold Dat.els
  simp only [Dat.len, Dat.el, List.map_map]
  rfl
theorem fold_flat (G : Alg α) {d : Dat} (h : Fits d .exprs) : fold G d .exprs = G.of (d.els.map (foldE G)) := by
  cases d with
  | v x => exact h.elim
  | sl n k f => exact fold_exprs G
theorem fold_from {G : Alg α} (H : G.Good) {n k : Nat} {f : Nat → Nat → Dat} (hf : Fits (.sl n k f) .sources) : fold G (.sl n k f) .sources = G.of ((exFrom (.sl n k f)).map (foldE G)) := by
  unfold exFrom
  rw [List.map_flatMap, H.of_flatMap]
  show G.of ((List.range n).map fun i => fold G (f i 2) .exprs) = G.of (((List.range n).map f).map fun c => G.of ((c 2).els.map (foldE G)))
  rw [List.map_map]
  congr 1
  refine List.map_congr_left fun i hi => ?_
  obtain ⟨_, _, _, hfit⟩ := hf
  have h2 : Fits (f i 2) .exprs := hfit i (List.mem_range.1 hi) 2 (by decide)
  exact fold_flat G h2
theorem foldQ_is {G : Alg α} (H : G.Good) {q : Nat → Dat} (h1 : Fits (q 1) .items) (h2 : Fits (q 2) .sources) (h3 : Fits (q 3) .exprs) (h4 : Fits (q 4) .keys) :
    foldQ G q = G.qn q (G.of ((exprsOf q).map (foldE G))) := by
  unfold foldQ exprsOf
  rw [List.map_append, List.map_append, List.map_append, H.of_append, H.of_append, H.of_append, ← fold_flat G h3]
  cases h : q 1 with
  | v x => rw [h] at h1; exact h1.elim
  | sl n1 k1 f1 =>
    cases h' : q 2 with
    | v x => rw [h'] at h2; exact h2.elim
    | sl n2 k2 f2 =>
      cases h'' : q 4 with
      | v x => rw [h''] at h4; exact h4.elim
      | sl n4 k4 f4 =>
        rw [h'] at h2
        rw [fold_items H, fold_from H h2, fold_keys]
def depA : Alg Nat := ⟨max, 0, fun _ n => n + 1, fun _ n => n⟩
def sizA : Alg Nat := ⟨(· + ·), 0, fun _ n => n + 1, fun _ n => n⟩
theorem depA_good : depA.Good := ⟨fun a b c => by show max (max a b) c = max a (max b c); omega, fun a => by show max 0 a = a; omega, fun a => by show max a 0 = a; omega⟩
theorem sizA_good : sizA.Good := ⟨fun a b c => Nat.add_assoc a b c, fun a => Nat.zero_add a, fun _ => rfl⟩
def OutP (w0 : World) (C : List Value) (L : List (Nat → Dat)) : Prop :=
  C.length = L.length * 10 ∧ ∀ i c, L[i]? = some c → ∀ j (h : j < exprTy.length), ∃ y, C[i * 10 + j]? = some y ∧ Rd w0 0 y (c j) ∧ Fits (c j) exprTy[j]
theorem OutP.nil (w0 : World) : OutP w0 [] [] := ⟨rfl, fun i c h => by simp at h⟩
theorem OutP.append {w0 : World} {C C' : List Value} {L L' : List (Nat → Dat)} (h : OutP w0 C L) (h' : OutP w0 C' L') : OutP w0 (C ++ C') (L ++ L') := by
  refine ⟨by rw [List.length_append, List.length_append, h.1, h'.1, Nat.add_mul], fun i c hc j hj => ?_⟩
  have hj10 : j < 10 := hj
  by_cases e : i < L.length
  · rw [List.getElem?_append_left e] at hc
    obtain ⟨y, hy, hr⟩ := h.2 i c hc j hj
    exact ⟨y, by rw [List.getElem?_append_left (by rw [h.1]; omega)]; exact hy, hr⟩
  · rw [List.getElem?_append_right (by omega)] at hc
    obtain ⟨y, hy, hr⟩ := h'.2 _ c hc j hj
    exact ⟨y, by rw [List.getElem?_append_right (by rw [h.1]; omega), h.1, show i * 10 + j - L.length * 10 = (i - L.length) * 10 + j by omega]; exact hy, hr⟩
theorem OutP.one {w0 : World} {C : List Value} {c : Nat → Dat} (hl : C.length = 10) (h : ∀ j (h : j < exprTy.length), ∃ y, C[j]? = some y ∧ Rd w0 0 y (c j) ∧ Fits (c j) exprTy[j]) : OutP w0 C [c] := by
  refine ⟨by rw [hl]; rfl, fun i c' hc j hj => ?_⟩
  obtain rfl : i = 0 := by
    have := (List.getElem?_eq_some_iff.1 hc).1
    simp at this; exact this
  obtain rfl : c = c' := by simpa using hc
  obtain ⟨y, hy, hr⟩ := h j hj
  exact ⟨y, by rw [Nat.zero_mul, Nat.zero_add]; exact hy, hr⟩
theorem Rd.oneCell {w : World} {L : Nat} {y : Value} {d : Dat} {ty : Ty} (h : Rd w L y d) (hf : Fits d ty) : y.oneCell' = true := by
  cases d with
  | v x =>
    obtain rfl : y = x := h
    cases ty <;> first | (obtain ⟨n, rfl, _⟩ := hf; rfl) | (obtain ⟨n, rfl⟩ := hf; rfl) | exact hf.elim
  | sl n k f =>
    obtain ⟨a, cap, rfl, _⟩ := h
    rfl
theorem OutP.ones {w0 : World} {C : List Value} {L : List (Nat → Dat)} (h : OutP w0 C L) : ∀ u ∈ C, u.oneCell' = true := fun u hu => by
  obtain ⟨x, hx⟩ := List.getElem?_of_mem hu
  have hlt : x < C.length := (List.getElem?_eq_some_iff.1 hx).1
  have hl := h.1
  have hi : x / 10 < L.length := by omega
  obtain ⟨y, hy, hr, hf⟩ := h.2 (x / 10) L[x / 10] (List.getElem?_eq_getElem hi) (x % 10) (show x % 10 < 10 by omega)
  rw [show x / 10 * 10 + x % 10 = x by omega, hx] at hy
  obtain rfl : u = y := by simpa using hy
  exact hr.oneCell hf
def OutE (w0 wr : World) (B : Nat) (v : Value) (L : List (Nat → Dat)) : Prop := ∃ C, wr.ownsRow B 79 10 v L.length C ∧ OutP w0 C L
theorem Tryz.infoEx : (Tryz.prog.info? 79).map (fun i => (i.zero, i.size, i.bytes)) = some (some (.agg #[.int .i64 0, .int .i64 0, .bool false, .int .i64 0, .int .i64 0, .string ByteArray.empty, .string ByteArray.empty, .string ByteArray.empty, .slice none 0 0, .slice none 0 0]), 10, 136) := by kernel_rfl
theorem OutE.slice {w0 wr : World} {B : Nat} {v : Value} {L : List (Nat → Dat)} (h : OutE w0 wr B v L) : ∃ a cap, v = .slice a L.length cap := by
  obtain ⟨C, h, _⟩ := h
  rcases h.2 with ⟨e, h0⟩ | ⟨g, cap, cur, e, _⟩
  · exact ⟨none, 0, by rw [e, h0]⟩
  · exact ⟨_, _, e⟩
theorem OutE.lit {w0 W : World} {B : Nat} (hB : B ≤ W.heap.size) : OutE w0 (W.alloc (.cells #[] 79)) B (.slice (some ⟨W.heap.size, 0, none⟩) 0 0) [] :=
  ⟨[], World.ownsRow_lit W #[] 0 hB (by decide) (by rfl), OutP.nil w0⟩
theorem appE {ops : Array Oper} {rest : List Oper} {o : Oper} {a : Act} {Q : Exit → Act → World → Prop}
    (hgd : o.guard = none) (s x : Operand) (ho : o.op = .call { callee := .builtin .append, args := #[s, x], argTypes := #[36, 36] })
    (w0 : World) (B : Nat) (v : Value) (L : List (Nat → Dat)) (c : Nat → Dat) (ys : Array Value) (W : World) (nb : Nat) (hnb : W.heap.size = nb) (hs : a.eval s = v) (hx : a.eval x = .slice (some ⟨nb, 0, none⟩) 1 1)
    (hown : OutE w0 W B v L) (hc : OutP w0 ys.toList [c]) (hl : L.length ≤ 4000000) (hB : B ≤ W.heap.size)
    (h : ∀ (v' : Value) (w' : World), OutE w0 w' B v' (L ++ [c]) → Below B W w' → wpList Tryz.prog ops Q rest (a.put o.dst v') w') :
    wpList Tryz.prog ops Q (o :: rest) a (W.alloc (.cells ys 79)) := by
  subst hnb
  obtain ⟨i, hi, hz, hsize, hby⟩ := info_parts Tryz.infoEx
  obtain ⟨C, hC, hP⟩ := hown
  have hrow := heap_alloc_new W (.cells ys 79)
  refine wpList_append_own _ hgd s x 36 ho B 79 i _ 10 136 Tryz.underlying36 hi hz hsize hby rfl (by decide) v L.length C hs (World.ownsRow.alloc hC _) ⟨W.heap.size, 0, none⟩ 1 1 ys.toList hx (by rw [hc.1]; rfl) (fun j u hj => ?_) hc.ones (by unfold maxLen; omega) (by omega) (by simp; omega) ?_
  · have hp : (⟨W.heap.size, 0, none⟩ : Addr).add j = ⟨W.heap.size, j, none⟩ := by unfold Addr.add; split <;> simp_all
    rw [hp, cell_of_row _ W.heap.size j _ 79 (0, 0) hrow]
    simpa using hj
  · intro v' w' hown' hgrow _
    have hb : Below B W w' := ((Below.refl B W).alloc hB _).grown hgrow (by simp; omega) (fun q hq => (World.ownsRow.lt hC q hq).1)
    exact h v' w' ⟨C ++ ys.toList, by rw [List.length_append]; exact hown', hP.append hc⟩ hb
theorem Rd.outP {w : World} {n k : Nat} {f : Nat → Nat → Dat} {a : Option Addr} {m cap : Nat} (h : Rd w 0 (.slice a m cap) (.sl n k f)) (hf : Fits (.sl n k f) .exprs) :
    m = n ∧ (a = none → cap = 0) ∧ ∃ C, OutP w C (Dat.sl n k f).els ∧ (∀ (ad : Addr), a = some ad → ∀ j u, C[j]? = some u → w.cell? (ad.add j) = some u) ∧ (a = none → n = 0) := by
  obtain ⟨_, _, hk, hfit⟩ := hf
  obtain rfl : k = 10 := hk
  obtain ⟨a', cap', e, hc, hz, h⟩ := h
  injection e with e1 e2 e3
  subst e1; subst e2; subst e3
  refine ⟨rfl, hz, ?_⟩
  have hL : (Dat.sl m 10 f).els.length = m := by simp [Dat.els, Dat.len]
  rcases h with rfl | ⟨g, o, rfl, _, hg, hc⟩
  · exact ⟨[], ⟨by rw [hL]; rfl, fun i c hi => by have := (List.getElem?_eq_some_iff.1 hi).1; omega⟩, fun ad _ j u hj => by simp at hj, fun _ => rfl⟩
  · refine ⟨(List.range (m * 10)).map fun x => (w.cell? ⟨g, o + x, none⟩).getD undef, ⟨by rw [hL]; simp, fun i c hi j hj => ?_⟩, fun ad e j u hj => ?_, fun e => by cases e⟩
    · have him : i < m := by have := (List.getElem?_eq_some_iff.1 hi).1; omega
      have hj10 : j < 10 := hj
      obtain ⟨y, hy, hr⟩ := hc i him j hj
      have hcf : c = f i := by simpa [Dat.els, Dat.len, Dat.el, him] using hi.symm
      subst hcf
      refine ⟨y, ?_, hr, hfit i him j hj⟩
      rw [List.getElem?_map, List.getElem?_range (by omega)]
      rw [show o + i * 10 + j = o + (i * 10 + j) by omega] at hy
      simp [hy]
    · injection e with e
      subst e
      have hj2 : j < m * 10 := by have := (List.getElem?_eq_some_iff.1 hj).1; simpa using this
      rw [List.getElem?_map, List.getElem?_range hj2] at hj
      have hadd : (⟨g, o, none⟩ : Addr).add j = ⟨g, o + j, none⟩ := by unfold Addr.add; split <;> simp_all
      obtain ⟨y, hy, _⟩ := hc (j / 10) (by omega) (j % 10) (by omega)
      rw [show o + j / 10 * 10 + j % 10 = o + j by omega] at hy
      rw [hadd, hy]
      simpa [hy] using hj
theorem appM {ops : Array Oper} {rest : List Oper} {o : Oper} {a : Act} {Q : Exit → Act → World → Prop}
    (hgd : o.guard = none) (s x : Operand) (ho : o.op = .call { callee := .builtin .append, args := #[s, x], argTypes := #[36, 36] })
    (w0 : World) (B : Nat) (v : Value) (L : List (Nat → Dat)) (ax : Option Addr) (m cap n k : Nat) (f : Nat → Nat → Dat) (W : World) (hs : a.eval s = v) (hx : a.eval x = .slice ax m cap)
    (hown : OutE w0 W B v L) (hr : Rd w0 0 (.slice ax m cap) (.sl n k f)) (hf : Fits (.sl n k f) .exprs) (hw : Below w0.heap.size w0 W) (hl : L.length ≤ 2000000) (hn : n ≤ 2000000) (hB : B ≤ W.heap.size)
    (h : ∀ (v' : Value) (w' : World), OutE w0 w' B v' (L ++ (Dat.sl n k f).els) → Below B W w' → wpList Tryz.prog ops Q rest (a.put o.dst v') w') :
    wpList Tryz.prog ops Q (o :: rest) a W := by
  obtain ⟨i, hi, hz, hsize, hby⟩ := info_parts Tryz.infoEx
  obtain ⟨C, hC, hP⟩ := hown
  obtain ⟨rfl, hcz, C', hP', hcell, hnone⟩ := hr.outP hf
  have hlen : (Dat.sl m k f).els.length = m := by simp [Dat.els, Dat.len]
  cases ax with
  | none =>
    obtain rfl : m = 0 := hnone rfl
    have hC' : C' = [] := List.eq_nil_of_length_eq_zero (by rw [hP'.1, hlen])
    subst hC'
    have hnil : (Dat.sl 0 k f).els = [] := rfl
    rw [hnil, List.append_nil] at h
    obtain rfl : cap = 0 := hcz rfl
    exact wpList_append_own_none hgd s x 36 ho B 79 i 10 Tryz.underlying36 hi v L.length C hs hC hx (h v W ⟨C, hC, hP⟩ (Below.refl B W))
  | some ad =>
    refine wpList_append_own _ hgd s x 36 ho B 79 i _ 10 136 Tryz.underlying36 hi hz hsize hby rfl (by decide) v L.length C hs hC ad m cap C' hx (by rw [hP'.1, hlen]) (fun j u hj => ?_) hP'.ones (by unfold maxLen; omega) (by omega) hB ?_
    · have h1 := hcell ad rfl j u hj
      exact (hw.cell (cell_block h1)).trans h1
    · intro v' w' hown' hgrow _
      have hb : Below B W w' := (Below.refl B W).grown hgrow hB (fun q hq => (World.ownsRow.lt hC q hq).1)
      exact h v' w' ⟨C ++ C', by rw [List.length_append, hlen]; exact hown', hP.append hP'⟩ hb
theorem exItems_succ (j k : Nat) (f : Nat → Nat → Dat) : exItems (.sl (j + 1) k f) = exItems (.sl j k f) ++ (if (f j 0).tru then [] else [cut 2 (f j)]) := by
  unfold exItems Dat.els
  show List.map (cut 2) (List.filter _ (List.map f (List.range (j + 1)))) = List.map (cut 2) (List.filter _ (List.map f (List.range j))) ++ _
  rw [List.range_succ, List.map_append, List.filter_append, List.map_append]
  congr 1
  simp only [List.map_cons, List.map_nil, List.filter_cons, List.filter_nil]
  cases (f j 0).tru <;> rfl
theorem exFrom_succ (j k : Nat) (f : Nat → Nat → Dat) : exFrom (.sl (j + 1) k f) = exFrom (.sl j k f) ++ (f j 2).els := by
  unfold exFrom
  show List.flatMap _ (List.map f (List.range (j + 1))) = List.flatMap _ (List.map f (List.range j)) ++ _
  rw [List.range_succ, List.map_append, List.flatMap_append]
  simp
theorem els_succ (j k : Nat) (f : Nat → Nat → Dat) : (Dat.sl (j + 1) k f).els = (Dat.sl j k f).els ++ [f j] := by
  show List.map f (List.range (j + 1)) = List.map f (List.range j) ++ _
  rw [List.range_succ, List.map_append]; rfl
theorem exItems_mono (k : Nat) (f : Nat → Nat → Dat) {j n : Nat} (h : j ≤ n) : (exItems (.sl j k f)).length ≤ (exItems (.sl n k f)).length := by
  induction n with
  | zero => obtain rfl : j = 0 := by omega
            exact Nat.le_refl _
  | succ n ih =>
    by_cases e : j = n + 1
    · rw [e]; exact Nat.le_refl _
    · have := ih (by omega)
      rw [exItems_succ, List.length_append]; omega
theorem exFrom_mono (k : Nat) (f : Nat → Nat → Dat) {j n : Nat} (h : j ≤ n) : (exFrom (.sl j k f)).length ≤ (exFrom (.sl n k f)).length := by
  induction n with
  | zero => obtain rfl : j = 0 := by omega
            exact Nat.le_refl _
  | succ n ih =>
    by_cases e : j = n + 1
    · rw [e]; exact Nat.le_refl _
    · have := ih (by omega)
      rw [exFrom_succ, List.length_append]; omega
theorem els_len (n k : Nat) (f : Nat → Nat → Dat) : (Dat.sl n k f).els.length = n := by simp [Dat.els, Dat.len]
structure LX (w wr : World) (arr : Array Value) (out : Value) (L : List (Nat → Dat)) : Prop where
  box : RowAt wr w.heap.size 39 arr
  own : OutE w wr (w.heap.size + 1) out L
  b : Below w.heap.size w wr
theorem LX.app {w wr w' : World} {arr : Array Value} {out out' : Value} {L L' : List (Nat → Dat)} (H : LX w wr arr out L) (h : OutE w w' (w.heap.size + 1) out' L') (hb : Below (w.heap.size + 1) wr w') : LX w w' arr out' L' :=
  ⟨(hb.block _ (Nat.lt_succ_self _)).trans H.box, h, H.b.trans (hb.mono (Nat.le_succ _))⟩
theorem LX.sz {w wr : World} {arr : Array Value} {out : Value} {L : List (Nat → Dat)} (H : LX w wr arr out L) : w.heap.size + 1 ≤ wr.heap.size := H.box.lt
def ExprsE (L : List (Nat → Dat)) (w : World) (e : Ending) (w' : World) : Prop := ∃ v : Value, e = .returned v ∧ OutE w w' (w.heap.size + 1) v L ∧ Below w.heap.size w w'
set_option maxRecDepth 100000 in
set_option maxHeartbeats 8000000 in
theorem exprs_spec (c0 : Bool) (a1 : Option Addr) (n1 p1 : Nat) (a2 : Option Addr) (n2 p2 : Nat) (a3 : Option Addr) (n3 p3 : Nat) (a4 : Option Addr) (n4 p4 : Nat) (c5 : Int) (f1 f2 f3 f4 : Nat → Nat → Dat) (w : World)
    (r1 : Rd w 0 (.slice a1 n1 p1) (.sl n1 13 f1)) (q1 : Fits (.sl n1 13 f1) .items) (r2 : Rd w 0 (.slice a2 n2 p2) (.sl n2 3 f2)) (q2 : Fits (.sl n2 3 f2) .sources)
    (r3 : Rd w 0 (.slice a3 n3 p3) (.sl n3 10 f3)) (q3 : Fits (.sl n3 10 f3) .exprs) (r4 : Rd w 0 (.slice a4 n4 p4) (.sl n4 11 f4)) (q4 : Fits (.sl n4 11 f4) .keys)
    (hN : (exItems (.sl n1 13 f1)).length + (exFrom (.sl n2 3 f2)).length + n3 + n4 ≤ 1048576) :
    Calls Tryz.prog 75 #[.agg #[.bool c0, .slice a1 n1 p1, .slice a2 n2 p2, .slice a3 n3 p3, .slice a4 n4 p4, .int .i64 c5]] w (ExprsE (((exItems (.sl n1 13 f1) ++ exFrom (.sl n2 3 f2)) ++ (Dat.sl n3 10 f3).els) ++ (Dat.sl n4 11 f4).els) w) := by
  have H0 : LX w ((w.alloc (.cells #[.bool c0, .slice a1 n1 p1, .slice a2 n2 p2, .slice a3 n3 p3, .slice a4 n4 p4, .int .i64 c5] 39)).alloc (.cells #[] 79)) #[.bool c0, .slice a1 n1 p1, .slice a2 n2 p2, .slice a3 n3 p3, .slice a4 n4 p4, .int .i64 c5] (.slice (some ⟨w.heap.size + 1, 0, none⟩) 0 0) (exItems (.sl 0 13 f1)) := ⟨(RowAt.new w _ _).alloc _, by
    have h := OutE.lit (w0 := w) (W := w.alloc (.cells #[.bool c0, .slice a1 n1 p1, .slice a2 n2 p2, .slice a3 n3 p3, .slice a4 n4 p4, .int .i64 c5] 39)) (B := w.heap.size + 1) (by simp)
    have e : (w.alloc (.cells #[.bool c0, .slice a1 n1 p1, .slice a2 n2 p2, .slice a3 n3 p3, .slice a4 n4 p4, .int .i64 c5] 39)).heap.size = w.heap.size + 1 := by simp
    rw [e] at h
    exact h, ((Below.refl _ _).alloc (Nat.le_refl _) _).alloc (by simp) _⟩
  have HN := Lib.hid hN
  clear hN
  have hn1 := q1.2.1
  have hn2 := q2.2.1
  have hn3 := q3.2.1
  have hn4 := q4.2.1
  go_enter Tryz.func75, Tryz.ntmps75
  go_wp2_with fail
  generalize ((w.alloc (.cells #[.bool c0, .slice a1 n1 p1, .slice a2 n2 p2, .slice a3 n3 p3, .slice a4 n4 p4, .int .i64 c5] 39)).alloc (.cells #[] 79)) = w0 at H0 ⊢
  go_loopw [3, 4] (fun out i wr => ∃ (j : Nat) (v : Value), j ≤ n1 ∧ i = .int .i64 (j : Int) ∧ v = out ∧ LX w wr #[.bool c0, .slice a1 n1 p1, .slice a2 n2 p2, .slice a3 n3 p3, .slice a4 n4 p4, .int .i64 c5] v (exItems (.sl j 13 f1))) (fun _ i _ => n1 - (intOf i).toNat)
  case atStart => exact ⟨0, _, by omega, rfl, rfl, H0⟩
  case round =>
    obtain ⟨j, v, hj, rfl, rfl, H⟩ := hrel
    have b1 := H.box.cell (i := 1) (v := .slice a1 n1 p1) rfl
    by_cases hlt : j < n1
    · have hlt2 : (j : Int) < (n1 : Int) := by omega
      obtain ⟨g, o, rfl, -, hg, x0, x1, x2, x3, x4, x5, x6, x7, x8, x9, x10, x11, x12, ⟨z0, z1, z2, z3, z4, z5, z6, z7, z8, z9, z10, z11, z12⟩, ⟨e0, ⟨e1, b1⟩, ⟨e2, b2⟩, ⟨e3, b3⟩, e4, ⟨e5, b5⟩, ⟨e6, b6⟩, ⟨e7, b7⟩, ⟨e8, b8⟩, ⟨e9, b9⟩, ⟨r10, q10⟩, ⟨r11, q11⟩, ⟨e12, b12⟩⟩⟩ := row_items r1 q1 hlt
      replace z0 := (H.b.cell (p := ⟨g, o + j * 13, none⟩) hg).trans z0
      replace z1 := (H.b.cell (p := ⟨g, o + j * 13 + 1, none⟩) hg).trans z1
      replace z2 := (H.b.cell (p := ⟨g, o + j * 13 + 2, none⟩) hg).trans z2
      replace z3 := (H.b.cell (p := ⟨g, o + j * 13 + 3, none⟩) hg).trans z3
      replace z4 := (H.b.cell (p := ⟨g, o + j * 13 + 4, none⟩) hg).trans z4
      replace z5 := (H.b.cell (p := ⟨g, o + j * 13 + 5, none⟩) hg).trans z5
      replace z6 := (H.b.cell (p := ⟨g, o + j * 13 + 6, none⟩) hg).trans z6
      replace z7 := (H.b.cell (p := ⟨g, o + j * 13 + 7, none⟩) hg).trans z7
      replace z8 := (H.b.cell (p := ⟨g, o + j * 13 + 8, none⟩) hg).trans z8
      replace z9 := (H.b.cell (p := ⟨g, o + j * 13 + 9, none⟩) hg).trans z9
      replace z10 := (H.b.cell (p := ⟨g, o + j * 13 + 10, none⟩) hg).trans z10
      replace z11 := (H.b.cell (p := ⟨g, o + j * 13 + 11, none⟩) hg).trans z11
      replace z12 := (H.b.cell (p := ⟨g, o + j * 13 + 12, none⟩) hg).trans z12
      cases x0
      case true =>
        have hs : exItems (.sl (j + 1) 13 f1) = exItems (.sl j 13 f1) := by rw [exItems_succ, e0]; simp [Dat.tru]
        have H2 : LX w wr #[.bool c0, .slice (some ⟨g, o, none⟩) n1 p1, .slice a2 n2 p2, .slice a3 n3 p3, .slice a4 n4 p4, .int .i64 c5] v (exItems (.sl (j + 1) 13 f1)) := by rw [hs]; exact H
        clear hs e0 e1 e2 e3 e4 e5 e6 e7 e8 e9 e12
        go_wp2_with fail
        go_roundw
        case rel => exact ⟨j + 1, _, by omega, by go_num, rfl, H2⟩
        case measure => simp [intOf]; omega
      case false =>
        have hs : exItems (.sl (j + 1) 13 f1) = exItems (.sl j 13 f1) ++ [cut 2 (f1 j)] := by rw [exItems_succ, e0]; rfl
        have HS := Lib.hid hs
        clear hs
        have hl := exItems_mono 13 f1 (show j ≤ n1 by omega)
        obtain ⟨ya, yn, yc, rfl⟩ := r10.slice_of q10 rfl
        obtain ⟨za, zn, zc, rfl⟩ := r11.slice_of q11 rfl
        have hc : OutP w [.int .i64 x2, .int .i64 x3, .bool x4, .int .i64 x5, .int .i64 x6, .string x7, .string x8, .string x9, .slice ya yn yc, .slice za zn zc] [cut 2 (f1 j)] := OutP.one rfl (fun m hm => match m, hm with
            | 0, _ => ⟨_, rfl, by show Rd w 0 _ (f1 j 2); rw [e2]; rfl, q1.2.2.2 j hlt 2 (by decide)⟩
            | 1, _ => ⟨_, rfl, by show Rd w 0 _ (f1 j 3); rw [e3]; rfl, q1.2.2.2 j hlt 3 (by decide)⟩
            | 2, _ => ⟨_, rfl, by show Rd w 0 _ (f1 j 4); rw [e4]; rfl, q1.2.2.2 j hlt 4 (by decide)⟩
            | 3, _ => ⟨_, rfl, by show Rd w 0 _ (f1 j 5); rw [e5]; rfl, q1.2.2.2 j hlt 5 (by decide)⟩
            | 4, _ => ⟨_, rfl, by show Rd w 0 _ (f1 j 6); rw [e6]; rfl, q1.2.2.2 j hlt 6 (by decide)⟩
            | 5, _ => ⟨_, rfl, by show Rd w 0 _ (f1 j 7); rw [e7]; rfl, q1.2.2.2 j hlt 7 (by decide)⟩
            | 6, _ => ⟨_, rfl, by show Rd w 0 _ (f1 j 8); rw [e8]; rfl, q1.2.2.2 j hlt 8 (by decide)⟩
            | 7, _ => ⟨_, rfl, by show Rd w 0 _ (f1 j 9); rw [e9]; rfl, q1.2.2.2 j hlt 9 (by decide)⟩
            | 8, _ => ⟨_, rfl, by exact r10, q1.2.2.2 j hlt 10 (by decide)⟩
            | 9, _ => ⟨_, rfl, by exact r11, q1.2.2.2 j hlt 11 (by decide)⟩
            | m + 10, hm => absurd hm (by simp [exprTy]))
        have HC := Lib.hid hc
        clear hc e0 e1 e2 e3 e4 e5 e6 e7 e8 e9 e12 r10 r11
        go_wp2_with (at_builtin; refine appE rfl (.tmp 22) (.tmp 29) rfl w (w.heap.size + 1) v (exItems (.sl j 13 f1)) (cut 2 (f1 j)) #[.int .i64 x2, .int .i64 x3, .bool x4, .int .i64 x5, .int .i64 x6, .string x7, .string x8, .string x9, .slice ya yn yc, .slice za zn zc] wr wr.heap.size rfl rfl rfl H.own HC.out (by have := HN.out; omega) H.sz ?_; intro v' w' hown' hb')
        have H2 := H.app hown' hb'
        rw [← HS.out] at H2
        go_roundw
        case rel => exact ⟨j + 1, _, by omega, by go_num, rfl, H2⟩
        case measure => simp [intOf]; omega
    · obtain rfl : n1 = j := by omega
      clear hlt hj
      go_wp2_with fail
      go_loopw [3, 5] (fun out i wr => ∃ (j : Nat) (v : Value), j ≤ n2 ∧ i = .int .i64 (j : Int) ∧ v = out ∧ LX w wr #[.bool c0, .slice a1 n1 p1, .slice a2 n2 p2, .slice a3 n3 p3, .slice a4 n4 p4, .int .i64 c5] v (exItems (.sl n1 13 f1) ++ exFrom (.sl j 3 f2))) (fun _ i _ => n2 - (intOf i).toNat)
      case atStart => exact ⟨0, _, by omega, rfl, rfl, by show LX w _ _ _ (_ ++ []); rw [List.append_nil]; exact H⟩
      case round =>
        obtain ⟨j, v, hj, rfl, rfl, H⟩ := hrel
        have b1 := H.box.cell (i := 2) (v := .slice a2 n2 p2) rfl
        by_cases hlt : j < n2
        · have hlt2 : (j : Int) < (n2 : Int) := by omega
          obtain ⟨g, o, rfl, -, hg, x0, x1, x2, ⟨z0, z1, z2⟩, ⟨⟨e0, b0⟩, ⟨e1, b1⟩, ⟨r2_, q2_⟩⟩⟩ := row_sources r2 q2 hlt
          replace z0 := (H.b.cell (p := ⟨g, o + j * 3, none⟩) hg).trans z0
          replace z1 := (H.b.cell (p := ⟨g, o + j * 3 + 1, none⟩) hg).trans z1
          replace z2 := (H.b.cell (p := ⟨g, o + j * 3 + 2, none⟩) hg).trans z2
          obtain ⟨nn, kk, ff, hsl⟩ := q2_.deep rfl
          obtain ⟨ya, yn, yc, rfl⟩ := r2_.slice_of q2_ rfl
          have hs : exItems (.sl n1 13 f1) ++ exFrom (.sl (j + 1) 3 f2) = (exItems (.sl n1 13 f1) ++ exFrom (.sl j 3 f2)) ++ (Dat.sl nn kk ff).els := by rw [exFrom_succ, hsl, List.append_assoc]
          have hl : (exItems (.sl n1 13 f1) ++ exFrom (.sl j 3 f2)).length ≤ 1048576 ∧ nn ≤ 1048576 := by
            have h1 := exFrom_mono 3 f2 (show j + 1 ≤ n2 by omega)
            have h2 := HN.out
            rw [exFrom_succ, hsl, List.length_append, els_len] at h1
            rw [List.length_append]
            omega
          rw [hsl] at r2_ q2_
          have HS := Lib.hid hs
          obtain ⟨hl1, hl2⟩ := hl
          clear hs hsl e0 e1
          go_wp2_with (at_builtin; refine appM rfl (.tmp 38) (.tmp 44) rfl w (w.heap.size + 1) v (exItems (.sl n1 13 f1) ++ exFrom (.sl j 3 f2)) ya yn yc nn kk ff wr rfl rfl H.own r2_ q2_ H.b (by omega) (by omega) H.sz ?_; intro v' w' hown' hb')
          have H2 := H.app hown' hb'
          rw [← HS.out] at H2
          go_roundw
          case rel => exact ⟨j + 1, _, by omega, by go_num, rfl, H2⟩
          case measure => simp [intOf]; omega
        · obtain rfl : n2 = j := by omega
          clear hlt hj
          have hl : (exItems (.sl n1 13 f1) ++ exFrom (.sl n2 3 f2)).length ≤ 1048576 ∧ n3 ≤ 1048576 := by
            have h2 := HN.out
            rw [List.length_append]
            omega
          obtain ⟨hl1, hl2⟩ := hl
          have b3 := H.box.cell (i := 3) (v := .slice a3 n3 p3) rfl
          go_wp2_with (at_builtin; refine appM rfl (.tmp 46) (.tmp 48) rfl w (w.heap.size + 1) v (exItems (.sl n1 13 f1) ++ exFrom (.sl n2 3 f2)) a3 n3 p3 n3 10 f3 _ rfl rfl H.own r3 q3 H.b (by omega) (by omega) H.sz ?_; intro v' w' hown' hb')
          replace H : LX w w' #[.bool c0, .slice a1 n1 p1, .slice a2 n2 p2, .slice a3 n3 p3, .slice a4 n4 p4, .int .i64 c5] v' ((exItems (.sl n1 13 f1) ++ exFrom (.sl n2 3 f2)) ++ (Dat.sl n3 10 f3).els) := H.app hown' hb'
          clear hown' hb' hl1 hl2 b1 b3
          go_loopw [3, 6] (fun out i wr => ∃ (j : Nat) (v : Value), j ≤ n4 ∧ i = .int .i64 (j : Int) ∧ v = out ∧ LX w wr #[.bool c0, .slice a1 n1 p1, .slice a2 n2 p2, .slice a3 n3 p3, .slice a4 n4 p4, .int .i64 c5] v (((exItems (.sl n1 13 f1) ++ exFrom (.sl n2 3 f2)) ++ (Dat.sl n3 10 f3).els) ++ (Dat.sl j 11 f4).els)) (fun _ i _ => n4 - (intOf i).toNat)
          case atStart => exact ⟨0, _, by omega, rfl, rfl, by show LX w _ _ _ (_ ++ []); rw [List.append_nil]; exact H⟩
          case round =>
            obtain ⟨j, v, hj, rfl, rfl, H⟩ := hrel
            have b1 := H.box.cell (i := 4) (v := .slice a4 n4 p4) rfl
            by_cases hlt : j < n4
            · have hlt2 : (j : Int) < (n4 : Int) := by omega
              obtain ⟨g, o, rfl, -, hg, x0, x1, x2, x3, x4, x5, x6, x7, x8, x9, x10, ⟨z0, z1, z2, z3, z4, z5, z6, z7, z8, z9, z10⟩, ⟨⟨e0, b0⟩, ⟨e1, b1⟩, e2, ⟨e3, b3⟩, ⟨e4, b4⟩, ⟨e5, b5⟩, ⟨e6, b6⟩, ⟨e7, b7⟩, ⟨r8, q8⟩, ⟨r9, q9⟩, e10⟩⟩ := row_keys r4 q4 hlt
              replace z0 := (H.b.cell (p := ⟨g, o + j * 11, none⟩) hg).trans z0
              replace z1 := (H.b.cell (p := ⟨g, o + j * 11 + 1, none⟩) hg).trans z1
              replace z2 := (H.b.cell (p := ⟨g, o + j * 11 + 2, none⟩) hg).trans z2
              replace z3 := (H.b.cell (p := ⟨g, o + j * 11 + 3, none⟩) hg).trans z3
              replace z4 := (H.b.cell (p := ⟨g, o + j * 11 + 4, none⟩) hg).trans z4
              replace z5 := (H.b.cell (p := ⟨g, o + j * 11 + 5, none⟩) hg).trans z5
              replace z6 := (H.b.cell (p := ⟨g, o + j * 11 + 6, none⟩) hg).trans z6
              replace z7 := (H.b.cell (p := ⟨g, o + j * 11 + 7, none⟩) hg).trans z7
              replace z8 := (H.b.cell (p := ⟨g, o + j * 11 + 8, none⟩) hg).trans z8
              replace z9 := (H.b.cell (p := ⟨g, o + j * 11 + 9, none⟩) hg).trans z9
              replace z10 := (H.b.cell (p := ⟨g, o + j * 11 + 10, none⟩) hg).trans z10
              obtain ⟨ya, yn, yc, rfl⟩ := r8.slice_of q8 rfl
              obtain ⟨za, zn, zc, rfl⟩ := r9.slice_of q9 rfl
              have hs : ((exItems (.sl n1 13 f1) ++ exFrom (.sl n2 3 f2)) ++ (Dat.sl n3 10 f3).els) ++ (Dat.sl (j + 1) 11 f4).els = (((exItems (.sl n1 13 f1) ++ exFrom (.sl n2 3 f2)) ++ (Dat.sl n3 10 f3).els) ++ (Dat.sl j 11 f4).els) ++ [f4 j] := by rw [els_succ, ← List.append_assoc]
              have hl : (((exItems (.sl n1 13 f1) ++ exFrom (.sl n2 3 f2)) ++ (Dat.sl n3 10 f3).els) ++ (Dat.sl j 11 f4).els).length ≤ 1048576 := by
                have h2 := HN.out
                simp only [List.length_append, els_len]
                omega
              have HS := Lib.hid hs
              clear hs
              have hc : OutP w [.int .i64 x0, .int .i64 x1, .bool x2, .int .i64 x3, .int .i64 x4, .string x5, .string x6, .string x7, .slice ya yn yc, .slice za zn zc] [f4 j] := OutP.one rfl (fun m hm => match m, hm with
                  | 0, _ => ⟨_, rfl, by show Rd w 0 _ (f4 j 0); rw [e0]; rfl, q4.2.2.2 j hlt 0 (by decide)⟩
                  | 1, _ => ⟨_, rfl, by show Rd w 0 _ (f4 j 1); rw [e1]; rfl, q4.2.2.2 j hlt 1 (by decide)⟩
                  | 2, _ => ⟨_, rfl, by show Rd w 0 _ (f4 j 2); rw [e2]; rfl, q4.2.2.2 j hlt 2 (by decide)⟩
                  | 3, _ => ⟨_, rfl, by show Rd w 0 _ (f4 j 3); rw [e3]; rfl, q4.2.2.2 j hlt 3 (by decide)⟩
                  | 4, _ => ⟨_, rfl, by show Rd w 0 _ (f4 j 4); rw [e4]; rfl, q4.2.2.2 j hlt 4 (by decide)⟩
                  | 5, _ => ⟨_, rfl, by show Rd w 0 _ (f4 j 5); rw [e5]; rfl, q4.2.2.2 j hlt 5 (by decide)⟩
                  | 6, _ => ⟨_, rfl, by show Rd w 0 _ (f4 j 6); rw [e6]; rfl, q4.2.2.2 j hlt 6 (by decide)⟩
                  | 7, _ => ⟨_, rfl, by show Rd w 0 _ (f4 j 7); rw [e7]; rfl, q4.2.2.2 j hlt 7 (by decide)⟩
                  | 8, _ => ⟨_, rfl, by exact r8, q4.2.2.2 j hlt 8 (by decide)⟩
                  | 9, _ => ⟨_, rfl, by exact r9, q4.2.2.2 j hlt 9 (by decide)⟩
                  | m + 10, hm => absurd hm (by simp [exprTy]))
              have HC := Lib.hid hc
              clear hc e0 e1 e2 e3 e4 e5 e6 e7 e10 r8 r9
              go_wp2_with (at_builtin; refine appE rfl (.tmp 57) (.tmp 64) rfl w (w.heap.size + 1) v (((exItems (.sl n1 13 f1) ++ exFrom (.sl n2 3 f2)) ++ (Dat.sl n3 10 f3).els) ++ (Dat.sl j 11 f4).els) (f4 j) #[.int .i64 x0, .int .i64 x1, .bool x2, .int .i64 x3, .int .i64 x4, .string x5, .string x6, .string x7, .slice ya yn yc, .slice za zn zc] wr wr.heap.size rfl rfl rfl H.own HC.out (by omega) H.sz ?_; intro v' w' hown' hb')
              have H2 := H.app hown' hb'
              rw [← HS.out] at H2
              go_roundw
              case rel => exact ⟨j + 1, _, by omega, by go_num, rfl, H2⟩
              case measure => simp [intOf]; omega
            · obtain rfl : n4 = j := by omega
              clear hlt hj
              go_wp2_with fail
              go_ret
              exact ⟨v, rfl, H.own, H.b⟩
end Go.Proofs.YtcliijfdlcagoaaGreat
