
/- Lists of elements of several cells, as values; a stack of such lists, each with its depth. -/
import Derived.Test.YtgihklohhjhjbaaExprs
import Derived.Test.YtgihklohhjhjbaaPreMath
import Derived.Test.YtgihklohhjhjbaaFoldS
import Derived.Test.YtgihklohhjhjbaaRangeV
import Derived.WalkSmall
import Derived.OwnWalkIn
namespace Go.Proofs.Ytgihklohhjhjbaa
open Go.RowKit

/-- the cells C are those of the elements L, as w0 had them -/
def OutK (tys : List Ty) (w0 : World) (C : List Value) (L : List Nd) : Prop :=
  C.length = L.length * tys.length ∧ ∀ i c, L[i]? = some c → ∀ j (h : j < tys.length), ∃ y, C[i * tys.length + j]? = some y ∧ Rd w0 0 y (c j) ∧ Fits (c j) tys[j]
theorem outK_exprs {w0 : World} {C : List Value} {L : List Nd} : OutP w0 C L ↔ OutK exprTy w0 C L := Iff.rfl
theorem OutK.nil (tys : List Ty) (w0 : World) : OutK tys w0 [] [] := ⟨by simp, fun i c h => by simp at h⟩
theorem mul_lt_of {i n k j : Nat} (hi : i < n) (hj : j < k) : i * k + j < n * k := by
  have : (i + 1) * k ≤ n * k := Nat.mul_le_mul_right k hi
  rw [Nat.add_mul, Nat.one_mul] at this
  omega
theorem OutK.append {tys : List Ty} {w0 : World} {C C' : List Value} {L L' : List Nd} (h : OutK tys w0 C L) (h' : OutK tys w0 C' L') : OutK tys w0 (C ++ C') (L ++ L') := by
  refine ⟨by rw [List.length_append, List.length_append, h.1, h'.1, Nat.add_mul], fun i c hc j hj => ?_⟩
  by_cases e : i < L.length
  · rw [List.getElem?_append_left e] at hc
    obtain ⟨y, hy, hr⟩ := h.2 i c hc j hj
    exact ⟨y, by rw [List.getElem?_append_left (by rw [h.1]; exact mul_lt_of e hj)]; exact hy, hr⟩
  · rw [List.getElem?_append_right (by omega)] at hc
    obtain ⟨y, hy, hr⟩ := h'.2 _ c hc j hj
    have h1 : L.length * tys.length ≤ i * tys.length := Nat.mul_le_mul_right _ (by omega)
    refine ⟨y, ?_, hr⟩
    rw [List.getElem?_append_right (by rw [h.1]; omega), h.1, show i * tys.length + j - L.length * tys.length = (i - L.length) * tys.length + j by rw [Nat.mul_sub_right_distrib]; omega]
    exact hy
theorem OutK.one {tys : List Ty} {w0 : World} {C : List Value} {c : Nd} (hl : C.length = tys.length) (h : ∀ j (h : j < tys.length), ∃ y, C[j]? = some y ∧ Rd w0 0 y (c j) ∧ Fits (c j) tys[j]) : OutK tys w0 C [c] := by
  refine ⟨by rw [hl]; simp, fun i c' hc j hj => ?_⟩
  obtain rfl : i = 0 := by
    have := (List.getElem?_eq_some_iff.1 hc).1
    simp at this; exact this
  obtain rfl : c = c' := by simpa using hc
  obtain ⟨y, hy, hr⟩ := h j hj
  exact ⟨y, by rw [Nat.zero_mul, Nat.zero_add]; exact hy, hr⟩
theorem OutK.cons {tys : List Ty} {w0 : World} {C : List Value} {c : Nd} {L : List Nd} (h : OutK tys w0 C (c :: L)) : OutK tys w0 (C.take tys.length) [c] ∧ OutK tys w0 (C.drop tys.length) L := by
  have hl : C.length = L.length * tys.length + tys.length := by rw [h.1, List.length_cons, Nat.add_mul, Nat.one_mul]
  refine ⟨OutK.one (by rw [List.length_take]; omega) fun j hj => ?_, by rw [List.length_drop]; omega, fun i c' hc j hj => ?_⟩
  · obtain ⟨y, hy, hr⟩ := h.2 0 c rfl j hj
    rw [Nat.zero_mul, Nat.zero_add] at hy
    exact ⟨y, by rw [List.getElem?_take_of_lt hj]; exact hy, hr⟩
  · obtain ⟨y, hy, hr⟩ := h.2 (i + 1) c' (by simpa using hc) j hj
    refine ⟨y, ?_, hr⟩
    rw [List.getElem?_drop, show tys.length + (i * tys.length + j) = (i + 1) * tys.length + j by rw [Nat.add_mul, Nat.one_mul]; omega]
    exact hy
theorem OutK.cellOf {tys : List Ty} {w0 : World} {C : List Value} {c : Nd} (h : OutK tys w0 C [c]) (j : Nat) (hj : j < tys.length) : ∃ y, C[j]? = some y ∧ Rd w0 0 y (c j) ∧ Fits (c j) tys[j] := by
  obtain ⟨y, hy, hr⟩ := h.2 0 c rfl j hj
  exact ⟨y, by rw [Nat.zero_mul, Nat.zero_add] at hy; exact hy, hr⟩
theorem OutK.ones {tys : List Ty} {w0 : World} {C : List Value} {L : List Nd} (h : OutK tys w0 C L) : ∀ u ∈ C, u.oneCell' = true := fun u hu => by
  obtain ⟨x, hx⟩ := List.getElem?_of_mem hu
  have hlt : x < C.length := (List.getElem?_eq_some_iff.1 hx).1
  have hl := h.1
  by_cases h0 : tys.length = 0
  · rw [h0, Nat.mul_zero] at hl; omega
  · have hi : x / tys.length < L.length := by rw [Nat.div_lt_iff_lt_mul (by omega)]; omega
    obtain ⟨y, hy, hr, hf⟩ := h.2 (x / tys.length) L[x / tys.length] (List.getElem?_eq_getElem hi) (x % tys.length) (Nat.mod_lt _ (by omega))
    rw [show x / tys.length * tys.length + x % tys.length = x from by rw [Nat.mul_comm]; exact Nat.div_add_mod _ _, hx] at hy
    obtain rfl : u = y := by simpa using hy
    exact hr.oneCell hf

/-- v is the list L in w, through a block that G lets in -/
def LK (tys : List Ty) (w0 w : World) (G : Nat → Prop) (v : Value) (L : List Nd) : Prop :=
  ∃ a cap C, v = .slice a L.length cap ∧ OutK tys w0 C L ∧ (L = [] ∨ ∃ g o, a = some ⟨g, o, none⟩ ∧ L.length ≤ cap ∧ G g ∧ g < w.heap.size ∧ ∀ j u, C[j]? = some u → w.cell? ⟨g, o + j, none⟩ = some u)
theorem LK.slice {tys : List Ty} {w0 w : World} {G : Nat → Prop} {v : Value} {L : List Nd} (h : LK tys w0 w G v L) : ∃ a cap, v = .slice a L.length cap := by
  obtain ⟨a, cap, _, e, _⟩ := h
  exact ⟨a, cap, e⟩
theorem LK.keep {tys : List Ty} {w0 w w' : World} {G G' : Nat → Prop} {v : Value} {L : List Nd} (h : LK tys w0 w G v L) (hs : w.heap.size ≤ w'.heap.size) (hk : ∀ g, G g → g < w.heap.size → w'.heap[g]? = w.heap[g]?)
    (hG : ∀ g, G g → g < w.heap.size → G' g) : LK tys w0 w' G' v L := by
  obtain ⟨a, cap, C, e, hC, h⟩ := h
  refine ⟨a, cap, C, e, hC, h.imp id ?_⟩
  rintro ⟨g, o, ea, hle, hg, hlt, hc⟩
  exact ⟨g, o, ea, hle, hG g hg hlt, Nat.lt_of_lt_of_le hlt hs, fun j u hj => (World.cell?_of_block (w := w) (a := ⟨g, o + j, none⟩) (hk g hg hlt)).trans (hc j u hj)⟩
theorem LK.later {tys : List Ty} {w0 w w' : World} {G : Nat → Prop} {v : Value} {L : List Nd} (h : LK tys w0 w G v L) (hb : Below w.heap.size w w') : LK tys w0 w' G v L :=
  h.keep hb.size (fun g _ hlt => hb.block g hlt) fun _ h _ => h
/-- the first element, and the rest -/
theorem LK.head {tys : List Ty} {w0 w : World} {G : Nat → Prop} {v : Value} {c : Nd} {L : List Nd} (h : LK tys w0 w G v (c :: L)) :
    ∃ g o cap ys, v = .slice (some ⟨g, o, none⟩) (L.length + 1) cap ∧ L.length + 1 ≤ cap ∧ OutK tys w0 ys [c] ∧ G g ∧ g < w.heap.size ∧ (∀ j u, ys[j]? = some u → w.cell? ⟨g, o + j, none⟩ = some u) ∧
      ∀ a cap', (L = [] ∨ a = some ⟨g, o + tys.length, none⟩ ∧ L.length ≤ cap') → LK tys w0 w G (.slice a L.length cap') L := by
  obtain ⟨a, cap, C, e, hC, h⟩ := h
  rcases h with h | ⟨g, o, rfl, hle, hg, hlt, hc⟩
  · cases h
  obtain ⟨h1, h2⟩ := hC.cons
  refine ⟨g, o, cap, _, e, hle, h1, hg, hlt, fun j u hj => ?_, fun a cap' ha => ⟨a, cap', _, rfl, h2, ?_⟩⟩
  · have hjl : j < tys.length := by
      have := (List.getElem?_eq_some_iff.1 hj).1
      rw [List.length_take] at this; omega
    rw [List.getElem?_take_of_lt hjl] at hj
    exact hc j u hj
  · refine ha.imp id ?_
    rintro ⟨rfl, hle'⟩
    refine ⟨g, _, rfl, hle', hg, hlt, fun j u hj => ?_⟩
    rw [List.getElem?_drop] at hj
    rw [Nat.add_assoc]
    exact hc _ u hj
/-- an argument's list -/
theorem Rd.lk {w : World} {n k : Nat} {f : Nat → Nat → Dat} {a : Option Addr} {m cap : Nat} {G : Nat → Prop} (h : Rd w 0 (.slice a m cap) (.sl n k f)) (hf : Fits (.sl n k f) .exprs) (hG : ∀ g, g < w.heap.size → G g) :
    LK exprTy w w G (.slice a m cap) (Dat.sl n k f).els := by
  obtain ⟨rfl, _, C, hC, hcell, hnone⟩ := h.outP hf
  have hlen : (Dat.sl m k f).els.length = m := by simp [Dat.els, Dat.len]
  obtain ⟨a', cap', e, hc, hz, h⟩ := h
  injection e with e1 e2 e3
  subst e1; subst e3
  refine ⟨a, cap, C, by rw [hlen], hC, ?_⟩
  rcases h with rfl | ⟨g, o, rfl, _, hg, _⟩
  · exact .inl rfl
  · refine .inr ⟨g, o, rfl, by rw [hlen]; exact hc, hG g hg, hg, fun j u hj => ?_⟩
    have := hcell _ rfl j u hj
    have hadd : (⟨g, o, none⟩ : Addr).add j = ⟨g, o + j, none⟩ := by unfold Addr.add; split <;> simp_all
    rw [hadd] at this
    exact this
/-- a list of the call's own -/
theorem OutE.lk {w0 wr : World} {B : Nat} {v : Value} {L : List Nd} {G : Nat → Prop} (h : OutE w0 wr B v L) (hG : ∀ g, B ≤ g → g < wr.heap.size → G g) : LK exprTy w0 wr G v L := by
  obtain ⟨C, hC, hP⟩ := h
  rcases hC.2 with ⟨e, h0⟩ | ⟨g, cap, cur, e, hg, hrow, hnc, hcm, hsz, hcur⟩
  · exact ⟨none, 0, C, by rw [e, h0], hP, .inl (List.eq_nil_of_length_eq_zero h0)⟩
  · refine ⟨_, cap, C, e, hP, .inr ⟨g, 0, rfl, hnc, hG g hg (Array.getElem?_eq_some_iff.1 hrow).1, (Array.getElem?_eq_some_iff.1 hrow).1, fun j u hj => ?_⟩⟩
    subst e
    have hj' : j < L.length * 10 := by have := (List.getElem?_eq_some_iff.1 hj).1; rw [hP.1] at this; exact this
    have := World.ownsRow.cellAt (w := wr) (base := B) (e := 29) (size := 10) (g := g) (n := L.length) (cap := cap) (xs := C) hC j hj'
    rw [Nat.zero_add, this]; exact hj

/-- an entry of the stack -/
structure Ent where
  d : Nat
  v : Value
  L : List Nd
def entCells : List Ent → List Value
  | [] => []
  | e :: r => entCells r ++ [.int .i64 (e.d : Int), e.v]
theorem entCells_len : ∀ S : List Ent, (entCells S).length = S.length * 2
  | [] => rfl
  | e :: r => by unfold entCells; rw [List.length_append, entCells_len r, List.length_cons]; simp; omega
/-- what a stack has still to come -/
def left (pre : Nat → Nd → List (Nat × Nd)) (S : List Ent) : List (Nat × Nd) := S.flatMap fun e => e.L.flatMap (pre e.d)
/-- the last entry, its two cells -/
theorem ent_cells {w : World} {B T g cap : Nat} {e : Ent} {r : List Ent} (h : w.ownsRow B T 2 (.slice (some ⟨g, 0, none⟩) (r.length + 1) cap) (r.length + 1) (entCells (e :: r))) :
    w.cell? ⟨g, r.length * 2, none⟩ = some (.int .i64 (e.d : Int)) ∧ w.cell? ⟨g, r.length * 2 + 1, none⟩ = some e.v ∧ w.frozen? ⟨g, r.length * 2 + 1, none⟩ = false := by
  have hl := entCells_len r
  refine ⟨?_, ?_, h.frozenAt _⟩
  · rw [h.cellAt _ (by omega)]
    show (entCells r ++ _)[r.length * 2]? = _
    rw [List.getElem?_append_right (by omega), hl, Nat.sub_self]; rfl
  · rw [h.cellAt _ (by omega)]
    show (entCells r ++ _)[r.length * 2 + 1]? = _
    rw [List.getElem?_append_right (by omega), hl, show r.length * 2 + 1 - r.length * 2 = 1 by omega]; rfl
theorem ent_pop {w : World} {B T g cap : Nat} {e : Ent} {r : List Ent} (h : w.ownsRow B T 2 (.slice (some ⟨g, 0, none⟩) (r.length + 1) cap) (r.length + 1) (entCells (e :: r))) :
    w.ownsRow B T 2 (.slice (some ⟨g, 0, none⟩) r.length cap) r.length (entCells r) := ownsRow_pop (entCells_len r) h
theorem ent_set {w : World} {B T g cap : Nat} {e : Ent} {r : List Ent} (h : w.ownsRow B T 2 (.slice (some ⟨g, 0, none⟩) (r.length + 1) cap) (r.length + 1) (entCells (e :: r))) (v' : Value) (L' : List Nd) :
    (w.setCell ⟨g, r.length * 2 + 1, none⟩ v').ownsRow B T 2 (.slice (some ⟨g, 0, none⟩) (r.length + 1) cap) (r.length + 1) (entCells (⟨e.d, v', L'⟩ :: r)) := by
  have h1 := (h.stored (r.length * 2 + 1) v').1
  have hl := entCells_len r
  have e1 : (entCells (e :: r)).set (r.length * 2 + 1) v' = entCells (⟨e.d, v', L'⟩ :: r) := by
    show (entCells r ++ [_, _]).set _ _ = entCells r ++ _
    rw [List.set_append_right _ _ (by omega), hl, show r.length * 2 + 1 - r.length * 2 = 1 by omega]; rfl
  rw [e1] at h1
  exact h1
theorem ownsRow_facts {w : World} {B T sz g n cap : Nat} {xs : List Value} (h : w.ownsRow B T sz (.slice (some ⟨g, 0, none⟩) n cap) n xs) : n ≤ cap ∧ B ≤ g ∧ g < w.heap.size := by
  rcases h.2 with ⟨e, _⟩ | ⟨g', cap', cur, e, hg, hrow, hnc, _⟩
  · cases e
  · cases e
    exact ⟨hnc, hg, (Array.getElem?_eq_some_iff.1 hrow).1⟩
theorem ownsRow_same {w w' : World} {B T sz g n cap : Nat} {xs : List Value} (h : w.ownsRow B T sz (.slice (some ⟨g, 0, none⟩) n cap) n xs) (hs : w'.heap[g]? = w.heap[g]?) : w'.ownsRow B T sz (.slice (some ⟨g, 0, none⟩) n cap) n xs := by
  refine ⟨h.1, h.2.imp id ?_⟩
  rintro ⟨g', cap', cur, e, hg, hrow, hr⟩
  cases e
  exact ⟨g, cap, cur, rfl, hg, hs.trans hrow, hr⟩
theorem wpListIn_append_own_at {F : Fence} {n : Nat} {P : Program} (w : World) {ops : Array Oper} {rest : List Oper} {o : Oper} {a : Act} {Q : Exit → Act → World → Prop}
    (hg : o.guard = none) (s x : Operand) (t : TypeId) (hop : o.op = Op.call { callee := Callee.builtin Builtin.append, args := #[s, x], argTypes := #[t, t] })
    (base : Nat) (e : TypeId) (i : TypeInfo) (z : Value) (size bytes : Nat) (h1 : P.underlying t = some (.slice e)) (h2 : P.info? e = some i) (h3 : i.zero = some z) (h4 : i.size = size) (h5 : i.bytes = bytes) (h6 : z.cells.size = size) (h7 : 0 < size)
    (v : Value) (k : Nat) (xs : List Value) (hs : a.eval s = v) (hown : w.ownsRow base e size v k xs) (ad : Addr) (m c : Nat) (news : List Value) (hx : a.eval x = .slice (some ad) m c) (hn : news.length = m * size)
    (hc : ∀ j u, news[j]? = some u → w.cell? (ad.add j) = some u) (h1c : ∀ u ∈ news, u.oneCell' = true) (b1 : k + m ≤ maxLen) (b2 : (k + m) * bytes ≤ 140737488355328) (b3 : base ≤ w.heap.size)
    (hK : ∀ v' w', w'.ownsRow base e size v' (k + m) (xs ++ news) → w.grownBy w' v.ownBlock → (v'.ownBlock = v.ownBlock ∨ v'.ownBlock = some w.heap.size) → wpListIn F n P ops Q rest (a.put o.dst v') w') :
    wpListIn F n P ops Q (o :: rest) a w := by
  refine wpListIn_plain hg fun K hK' => ?_
  obtain ⟨v', w', hrun, r1, r2, _, r3⟩ := run_append_own_at (P := P) w base t o.type e i z size bytes h1 h2 h3 h4 h5 h6 h7 v k xs hown ad m c news hn hc h1c b1 b2 b3
  unfold Oper.wpIn
  refine ⟨?_, ?_⟩
  · simp [Oper.about, hop, resolve, Target.leads, Sem.run_pure]
  · rw [Oper.semAt_plain F _ _ (by rw [hop]; intro c hc'; cases hc')]
    simp [execOp, hop, resolve, invoke, builtin, hs, hx, hrun, Result.andThen]
    exact hK' _ _ (hK v' w' r1 r2 r3)
theorem has_least {R : Nat → Prop} : ∀ {n : Nat}, R n → ∃ m, R m ∧ ∀ k, R k → m ≤ k := fun {n} => by
  induction n using Nat.strongRecOn with
  | _ n ih =>
    intro h
    by_cases e : ∃ k, k < n ∧ R k
    · obtain ⟨k, hk, hr⟩ := e
      exact ih k hk hr
    · exact ⟨n, h, fun k hk => Nat.le_of_not_lt fun hlt => e ⟨k, hlt, hk⟩⟩
open Classical in
/-- the least number of which R tells -/
noncomputable def least (R : Nat → Prop) : Nat := if h : ∃ m, R m ∧ ∀ k, R k → m ≤ k then Classical.choose h else 0
theorem least_le {R : Nat → Prop} {n : Nat} (h : R n) : least R ≤ n := by
  unfold least
  rw [dif_pos (has_least h)]
  exact (Classical.choose_spec (has_least h)).2 n h
theorem least_is {R : Nat → Prop} {n : Nat} (h : R n) : R (least R) := by
  unfold least
  rw [dif_pos (has_least h)]
  exact (Classical.choose_spec (has_least h)).1
end Go.Proofs.Ytgihklohhjhjbaa
