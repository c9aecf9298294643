
/- The model's list of a query's expressions. -/
import Derived.Test.YtgihklohhjhjbaaTreeMath
import Derived.Test.YtgihklohhjhjbaaTreeRow
import Derived.Test.YtgihklohhjhjbaaToDef
import Derived.Test.YtgihklohhjhjbaaTreeFrame
import Derived.Laws.OwnMore
import Derived.Maps.AppendAt
import Derived.Laws.AppendOwnNone
import Derived.Test.YtgihklohhjhjbaaLat
namespace Go.Proofs.Ytgihklohhjhjbaa
open Go.RowKit

/-- the cells C are those of the expressions L, as w0 had them -/
def OutP (w0 : World) (C : List Value) (L : List (Nat → Dat)) : Prop :=
  C.length = L.length * 10 ∧ ∀ i c, L[i]? = some c → ∀ j (h : j < exprTy.length), ∃ y, C[i * 10 + j]? = some y ∧ Rd w0 0 y (c j) ∧ Fits (c j) exprTy[j]
theorem OutP.nil (w0 : World) : OutP w0 [] [] := ⟨rfl, fun i c h => by simp at h⟩
theorem OutP.append {w0 : World} {C C' : List Value} {L L' : List (Nat → Dat)} (h : OutP w0 C L) (h' : OutP w0 C' L') : OutP w0 (C ++ C') (L ++ L') := by
  refine ⟨by rw [List.length_append, List.length_append, h.1, h'.1, Nat.add_mul], fun i c hc j hj => ?_⟩
  have hj10 : j < 10 := hj
  by_cases e : i < L.length
  · rw [List.getElem?_append_left e] at hc
    obtain ⟨y, hy, hr⟩ := h.2 i c hc j hj
    exact ⟨y, by rw [List.getElem?_append_left (by rw [h.1]; omega)]; exact hy, hr⟩
  · rw [List.getElem?_append_right (by omega)] at hc
    obtain ⟨y, hy, hr⟩ := h'.2 _ c hc j hj
    exact ⟨y, by rw [List.getElem?_append_right (by rw [h.1]; omega), h.1, show i * 10 + j - L.length * 10 = (i - L.length) * 10 + j by omega]; exact hy, hr⟩
theorem OutP.one {w0 : World} {C : List Value} {c : Nat → Dat} (hl : C.length = 10) (h : ∀ j (h : j < exprTy.length), ∃ y, C[j]? = some y ∧ Rd w0 0 y (c j) ∧ Fits (c j) exprTy[j]) : OutP w0 C [c] := by
  refine ⟨by rw [hl]; rfl, fun i c' hc j hj => ?_⟩
  obtain rfl : i = 0 := by
    have := (List.getElem?_eq_some_iff.1 hc).1
    simp at this; exact this
  obtain rfl : c = c' := by simpa using hc
  obtain ⟨y, hy, hr⟩ := h j hj
  exact ⟨y, by rw [Nat.zero_mul, Nat.zero_add]; exact hy, hr⟩
theorem Rd.oneCell {w : World} {L : Nat} {y : Value} {d : Dat} {ty : Ty} (h : Rd w L y d) (hf : Fits d ty) : y.oneCell' = true := by
  cases d with
  | v x =>
    obtain rfl : y = x := h
    cases ty <;> first | (obtain ⟨n, rfl, _⟩ := hf; rfl) | (obtain ⟨n, rfl⟩ := hf; rfl) | exact hf.elim
  | sl n k f =>
    obtain ⟨a, cap, rfl, _⟩ := h
    rfl
theorem OutP.ones {w0 : World} {C : List Value} {L : List (Nat → Dat)} (h : OutP w0 C L) : ∀ u ∈ C, u.oneCell' = true := fun u hu => by
  obtain ⟨x, hx⟩ := List.getElem?_of_mem hu
  have hlt : x < C.length := (List.getElem?_eq_some_iff.1 hx).1
  have hl := h.1
  have hi : x / 10 < L.length := by omega
  obtain ⟨y, hy, hr, hf⟩ := h.2 (x / 10) L[x / 10] (List.getElem?_eq_getElem hi) (x % 10) (show x % 10 < 10 by omega)
  rw [show x / 10 * 10 + x % 10 = x by omega, hx] at hy
  obtain rfl : u = y := by simpa using hy
  exact hr.oneCell hf
/-- the slice v of the call's own holds the expressions L -/
def OutE (w0 wr : World) (B : Nat) (v : Value) (L : List (Nat → Dat)) : Prop := ∃ C, wr.ownsRow B 29 10 v L.length C ∧ OutP w0 C L
theorem Try.infoEx : (Try.prog.info? 29).map (fun i => (i.zero, i.size, i.bytes)) = some (some (.agg #[.int .i64 0, .int .i64 0, .bool false, .int .i64 0, .int .i64 0, .string ByteArray.empty, .string ByteArray.empty, .string ByteArray.empty, .slice none 0 0, .slice none 0 0]), 10, 136) := by kernel_rfl
theorem OutE.slice {w0 wr : World} {B : Nat} {v : Value} {L : List (Nat → Dat)} (h : OutE w0 wr B v L) : ∃ a cap, v = .slice a L.length cap := by
  obtain ⟨C, h, _⟩ := h
  rcases h.2 with ⟨e, h0⟩ | ⟨g, cap, cur, e, _⟩
  · exact ⟨none, 0, by rw [e, h0]⟩
  · exact ⟨_, _, e⟩
theorem OutE.lit {w0 W : World} {B : Nat} (hB : B ≤ W.heap.size) : OutE w0 (W.alloc (.cells #[] 29)) B (.slice (some ⟨W.heap.size, 0, none⟩) 0 0) [] :=
  ⟨[], World.ownsRow_lit W #[] 0 hB (by decide) (by rfl), OutP.nil w0⟩
/-- one expression more -/
theorem appE {ops : Array Oper} {rest : List Oper} {o : Oper} {a : Act} {Q : Exit → Act → World → Prop}
    (hgd : o.guard = none) (s x : Operand) (ho : o.op = .call { callee := .builtin .append, args := #[s, x], argTypes := #[26, 26] })
    (w0 : World) (B : Nat) (v : Value) (L : List (Nat → Dat)) (c : Nat → Dat) (ys : Array Value) (W : World) (nb : Nat) (hnb : W.heap.size = nb) (hs : a.eval s = v) (hx : a.eval x = .slice (some ⟨nb, 0, none⟩) 1 1)
    (hown : OutE w0 W B v L) (hc : OutP w0 ys.toList [c]) (hl : L.length ≤ 4000000) (hB : B ≤ W.heap.size)
    (h : ∀ (v' : Value) (w' : World), OutE w0 w' B v' (L ++ [c]) → Below B W w' → wpList Try.prog ops Q rest (a.put o.dst v') w') :
    wpList Try.prog ops Q (o :: rest) a (W.alloc (.cells ys 29)) := by
  subst hnb
  obtain ⟨i, hi, hz, hsize, hby⟩ := info_parts Try.infoEx
  obtain ⟨C, hC, hP⟩ := hown
  have hrow := heap_alloc_new W (.cells ys 29)
  refine wpList_append_own _ hgd s x 26 ho B 29 i _ 10 136 Try.underlying26 hi hz hsize hby rfl (by decide) v L.length C hs (World.ownsRow.alloc hC _) ⟨W.heap.size, 0, none⟩ 1 1 ys.toList hx (by rw [hc.1]; rfl) (fun j u hj => ?_) hc.ones (by unfold maxLen; omega) (by omega) (by simp; omega) ?_
  · have hp : (⟨W.heap.size, 0, none⟩ : Addr).add j = ⟨W.heap.size, j, none⟩ := by unfold Addr.add; split <;> simp_all
    rw [hp, cell_of_row _ W.heap.size j _ 29 (0, 0) hrow]
    simpa using hj
  · intro v' w' hown' hgrow _
    have hb : Below B W w' := ((Below.refl B W).alloc hB _).grown hgrow (by simp; omega) (fun q hq => (World.ownsRow.lt hC q hq).1)
    exact h v' w' ⟨C ++ ys.toList, by rw [List.length_append]; exact hown', hP.append hc⟩ hb
/-- the cells of a slice of expressions -/
theorem Rd.outP {w : World} {n k : Nat} {f : Nat → Nat → Dat} {a : Option Addr} {m cap : Nat} (h : Rd w 0 (.slice a m cap) (.sl n k f)) (hf : Fits (.sl n k f) .exprs) :
    m = n ∧ (a = none → cap = 0) ∧ ∃ C, OutP w C (Dat.sl n k f).els ∧ (∀ (ad : Addr), a = some ad → ∀ j u, C[j]? = some u → w.cell? (ad.add j) = some u) ∧ (a = none → n = 0) := by
  obtain ⟨_, _, hk, hfit⟩ := hf
  obtain rfl : k = 10 := hk
  obtain ⟨a', cap', e, hc, hz, h⟩ := h
  injection e with e1 e2 e3
  subst e1; subst e2; subst e3
  refine ⟨rfl, hz, ?_⟩
  have hL : (Dat.sl m 10 f).els.length = m := by simp [Dat.els, Dat.len]
  rcases h with rfl | ⟨g, o, rfl, _, hg, hc⟩
  · exact ⟨[], ⟨by rw [hL]; rfl, fun i c hi => by have := (List.getElem?_eq_some_iff.1 hi).1; omega⟩, fun ad _ j u hj => by simp at hj, fun _ => rfl⟩
  · refine ⟨(List.range (m * 10)).map fun x => (w.cell? ⟨g, o + x, none⟩).getD undef, ⟨by rw [hL]; simp, fun i c hi j hj => ?_⟩, fun ad e j u hj => ?_, fun e => by cases e⟩
    · have him : i < m := by have := (List.getElem?_eq_some_iff.1 hi).1; omega
      have hj10 : j < 10 := hj
      obtain ⟨y, hy, hr⟩ := hc i him j hj
      have hcf : c = f i := by simpa [Dat.els, Dat.len, Dat.el, him] using hi.symm
      subst hcf
      refine ⟨y, ?_, hr, hfit i him j hj⟩
      rw [List.getElem?_map, List.getElem?_range (by omega)]
      rw [show o + i * 10 + j = o + (i * 10 + j) by omega] at hy
      simp [hy]
    · injection e with e
      subst e
      have hj2 : j < m * 10 := by have := (List.getElem?_eq_some_iff.1 hj).1; simpa using this
      rw [List.getElem?_map, List.getElem?_range hj2] at hj
      have hadd : (⟨g, o, none⟩ : Addr).add j = ⟨g, o + j, none⟩ := by unfold Addr.add; split <;> simp_all
      obtain ⟨y, hy, _⟩ := hc (j / 10) (by omega) (j % 10) (by omega)
      rw [show o + j / 10 * 10 + j % 10 = o + j by omega] at hy
      rw [hadd, hy]
      simpa [hy] using hj
/-- the expressions of a slice more -/
theorem appM {ops : Array Oper} {rest : List Oper} {o : Oper} {a : Act} {Q : Exit → Act → World → Prop}
    (hgd : o.guard = none) (s x : Operand) (ho : o.op = .call { callee := .builtin .append, args := #[s, x], argTypes := #[26, 26] })
    (w0 : World) (B : Nat) (v : Value) (L : List (Nat → Dat)) (ax : Option Addr) (m cap n k : Nat) (f : Nat → Nat → Dat) (W : World) (hs : a.eval s = v) (hx : a.eval x = .slice ax m cap)
    (hown : OutE w0 W B v L) (hr : Rd w0 0 (.slice ax m cap) (.sl n k f)) (hf : Fits (.sl n k f) .exprs) (hw : Below w0.heap.size w0 W) (hl : L.length ≤ 2000000) (hn : n ≤ 2000000) (hB : B ≤ W.heap.size)
    (h : ∀ (v' : Value) (w' : World), OutE w0 w' B v' (L ++ (Dat.sl n k f).els) → Below B W w' → wpList Try.prog ops Q rest (a.put o.dst v') w') :
    wpList Try.prog ops Q (o :: rest) a W := by
  obtain ⟨i, hi, hz, hsize, hby⟩ := info_parts Try.infoEx
  obtain ⟨C, hC, hP⟩ := hown
  obtain ⟨rfl, hcz, C', hP', hcell, hnone⟩ := hr.outP hf
  have hlen : (Dat.sl m k f).els.length = m := by simp [Dat.els, Dat.len]
  cases ax with
  | none =>
    obtain rfl : m = 0 := hnone rfl
    have hC' : C' = [] := List.eq_nil_of_length_eq_zero (by rw [hP'.1, hlen])
    subst hC'
    have hnil : (Dat.sl 0 k f).els = [] := rfl
    rw [hnil, List.append_nil] at h
    obtain rfl : cap = 0 := hcz rfl
    exact wpList_append_own_none hgd s x 26 ho B 29 i 10 Try.underlying26 hi v L.length C hs hC hx (h v W ⟨C, hC, hP⟩ (Below.refl B W))
  | some ad =>
    refine wpList_append_own _ hgd s x 26 ho B 29 i _ 10 136 Try.underlying26 hi hz hsize hby rfl (by decide) v L.length C hs hC ad m cap C' hx (by rw [hP'.1, hlen]) (fun j u hj => ?_) hP'.ones (by unfold maxLen; omega) (by omega) hB ?_
    · have h1 := hcell ad rfl j u hj
      exact (hw.cell (cell_block h1)).trans h1
    · intro v' w' hown' hgrow _
      have hb : Below B W w' := (Below.refl B W).grown hgrow hB (fun q hq => (World.ownsRow.lt hC q hq).1)
      exact h v' w' ⟨C ++ C', by rw [List.length_append, hlen]; exact hown', hP.append hP'⟩ hb
end Go.Proofs.Ytgihklohhjhjbaa
