/- Joined texts: Stk LatTail Det Float. -/
import Derived.Test.YtfmgkinindkedaaQSSG
import Derived.Test.YtfmgkinindkedaaQSSJ
import Derived.Test.YtfmgkinindkedaaQHFoldS
import Derived.Test.YtfmgkinindkedaaQSSF
import Derived.WalkSmall
import Derived.OwnWalkIn
import Derived.StillTail
import Derived.WalkKit
import Derived.Below
import Derived.BigQuiet
/- Lists of elements of several cells, as values; a stack of such lists, each with its depth. -/
namespace Go.Proofs.Ytfmgkinindkedaa
open Go.RowKit

/-- the cells C are those of the elements L, as w0 had them -/
def OutK (tys : List Ty) (w0 : World) (C : List Value) (L : List Nd) : Prop :=
  C.length = L.length * tys.length ∧ ∀ i c, L[i]? = some c → ∀ j (h : j < tys.length), ∃ y, C[i * tys.length + j]? = some y ∧ Rd w0 0 y (c j) ∧ Fits (c j) tys[j]
theorem outK_exprs {w0 : World} {C : List Value} {L : List Nd} : OutP w0 C L ↔ OutK exprTy w0 C L := Iff.rfl
theorem OutK.nil (tys : List Ty) (w0 : World) : OutK tys w0 [] [] := ⟨by simp, fun i c h => by simp at h⟩
theorem mul_lt_of {i n k j : Nat} (hi : i < n) (hj : j < k) : i * k + j < n * k := by
  have : (i + 1) * k ≤ n * k := Nat.mul_le_mul_right k hi
  rw [Nat.add_mul, Nat.one_mul] at this
  omega
theorem OutK.append {tys : List Ty} {w0 : World} {C C' : List Value} {L L' : List Nd} (h : OutK tys w0 C L) (h' : OutK tys w0 C' L') : OutK tys w0 (C ++ C') (L ++ L') := by
  refine ⟨by rw [List.length_append, List.length_append, h.1, h'.1, Nat.add_mul], fun i c hc j hj => ?_⟩
  by_cases e : i < L.length
  · rw [List.getElem?_append_left e] at hc
    obtain ⟨y, hy, hr⟩ := h.2 i c hc j hj
    exact ⟨y, by rw [List.getElem?_append_left (by rw [h.1]; exact mul_lt_of e hj)]; exact hy, hr⟩
  · rw [List.getElem?_append_right (by omega)] at hc
    obtain ⟨y, hy, hr⟩ := h'.2 _ c hc j hj
    have h1 : L.length * tys.length ≤ i * tys.length := Nat.mul_le_mul_right _ (by omega)
    refine ⟨y, ?_, hr⟩
    rw [List.getElem?_append_right (by rw [h.1]; omega), h.1, show i * tys.length + j - L.length * tys.length = (i - L.length) * tys.length + j by rw [Nat.mul_sub_right_distrib]; omega]
    exact hy
theorem OutK.one {tys : List Ty} {w0 : World} {C : List Value} {c : Nd} (hl : C.length = tys.length) (h : ∀ j (h : j < tys.length), ∃ y, C[j]? = some y ∧ Rd w0 0 y (c j) ∧ Fits (c j) tys[j]) : OutK tys w0 C [c] := by
  refine ⟨by rw [hl]; simp, fun i c' hc j hj => ?_⟩
  obtain rfl : i = 0 := by
    have := (List.getElem?_eq_some_iff.1 hc).1
    simp at this; exact this
  obtain rfl : c = c' := by simpa using hc
  obtain ⟨y, hy, hr⟩ := h j hj
  exact ⟨y, by rw [Nat.zero_mul, Nat.zero_add]; exact hy, hr⟩
theorem OutK.cons {tys : List Ty} {w0 : World} {C : List Value} {c : Nd} {L : List Nd} (h : OutK tys w0 C (c :: L)) : OutK tys w0 (C.take tys.length) [c] ∧ OutK tys w0 (C.drop tys.length) L := by
  have hl : C.length = L.length * tys.length + tys.length := by rw [h.1, List.length_cons, Nat.add_mul, Nat.one_mul]
  refine ⟨OutK.one (by rw [List.length_take]; omega) fun j hj => ?_, by rw [List.length_drop]; omega, fun i c' hc j hj => ?_⟩
  · obtain ⟨y, hy, hr⟩ := h.2 0 c rfl j hj
    rw [Nat.zero_mul, Nat.zero_add] at hy
    exact ⟨y, by rw [List.getElem?_take_of_lt hj]; exact hy, hr⟩
  · obtain ⟨y, hy, hr⟩ := h.2 (i + 1) c' (by simpa using hc) j hj
    refine ⟨y, ?_, hr⟩
    rw [List.getElem?_drop, show tys.length + (i * tys.length + j) = (i + 1) * tys.length + j by rw [Nat.add_mul, Nat.one_mul]; omega]
    exact hy
theorem OutK.cellOf {tys : List Ty} {w0 : World} {C : List Value} {c : Nd} (h : OutK tys w0 C [c]) (j : Nat) (hj : j < tys.length) : ∃ y, C[j]? = some y ∧ Rd w0 0 y (c j) ∧ Fits (c j) tys[j] := by
  obtain ⟨y, hy, hr⟩ := h.2 0 c rfl j hj
  exact ⟨y, by rw [Nat.zero_mul, Nat.zero_add] at hy; exact hy, hr⟩
theorem OutK.ones {tys : List Ty} {w0 : World} {C : List Value} {L : List Nd} (h : OutK tys w0 C L) : ∀ u ∈ C, u.oneCell' = true := fun u hu => by
  obtain ⟨x, hx⟩ := List.getElem?_of_mem hu
  have hlt : x < C.length := (List.getElem?_eq_some_iff.1 hx).1
  have hl := h.1
  by_cases h0 : tys.length = 0
  · rw [h0, Nat.mul_zero] at hl; omega
  · have hi : x / tys.length < L.length := by rw [Nat.div_lt_iff_lt_mul (by omega)]; omega
    obtain ⟨y, hy, hr, hf⟩ := h.2 (x / tys.length) L[x / tys.length] (List.getElem?_eq_getElem hi) (x % tys.length) (Nat.mod_lt _ (by omega))
    rw [show x / tys.length * tys.length + x % tys.length = x from by rw [Nat.mul_comm]; exact Nat.div_add_mod _ _, hx] at hy
    obtain rfl : u = y := by simpa using hy
    exact hr.oneCell hf

/-- v is the list L in w, through a block that G lets in -/
def LK (tys : List Ty) (w0 w : World) (G : Nat → Prop) (v : Value) (L : List Nd) : Prop :=
  ∃ a cap C, v = .slice a L.length cap ∧ OutK tys w0 C L ∧ (L = [] ∨ ∃ g o, a = some ⟨g, o, none⟩ ∧ L.length ≤ cap ∧ G g ∧ g < w.heap.size ∧ ∀ j u, C[j]? = some u → w.cell? ⟨g, o + j, none⟩ = some u)
theorem LK.slice {tys : List Ty} {w0 w : World} {G : Nat → Prop} {v : Value} {L : List Nd} (h : LK tys w0 w G v L) : ∃ a cap, v = .slice a L.length cap := by
  obtain ⟨a, cap, _, e, _⟩ := h
  exact ⟨a, cap, e⟩
theorem LK.keep {tys : List Ty} {w0 w w' : World} {G G' : Nat → Prop} {v : Value} {L : List Nd} (h : LK tys w0 w G v L) (hs : w.heap.size ≤ w'.heap.size) (hk : ∀ g, G g → g < w.heap.size → w'.heap[g]? = w.heap[g]?)
    (hG : ∀ g, G g → g < w.heap.size → G' g) : LK tys w0 w' G' v L := by
  obtain ⟨a, cap, C, e, hC, h⟩ := h
  refine ⟨a, cap, C, e, hC, h.imp id ?_⟩
  rintro ⟨g, o, ea, hle, hg, hlt, hc⟩
  exact ⟨g, o, ea, hle, hG g hg hlt, Nat.lt_of_lt_of_le hlt hs, fun j u hj => (World.cell?_of_block (w := w) (a := ⟨g, o + j, none⟩) (hk g hg hlt)).trans (hc j u hj)⟩
theorem LK.later {tys : List Ty} {w0 w w' : World} {G : Nat → Prop} {v : Value} {L : List Nd} (h : LK tys w0 w G v L) (hb : Below w.heap.size w w') : LK tys w0 w' G v L :=
  h.keep hb.size (fun g _ hlt => hb.block g hlt) fun _ h _ => h
/-- the first element, and the rest -/
theorem LK.head {tys : List Ty} {w0 w : World} {G : Nat → Prop} {v : Value} {c : Nd} {L : List Nd} (h : LK tys w0 w G v (c :: L)) :
    ∃ g o cap ys, v = .slice (some ⟨g, o, none⟩) (L.length + 1) cap ∧ L.length + 1 ≤ cap ∧ OutK tys w0 ys [c] ∧ G g ∧ g < w.heap.size ∧ (∀ j u, ys[j]? = some u → w.cell? ⟨g, o + j, none⟩ = some u) ∧
      ∀ a cap', (L = [] ∨ a = some ⟨g, o + tys.length, none⟩ ∧ L.length ≤ cap') → LK tys w0 w G (.slice a L.length cap') L := by
  obtain ⟨a, cap, C, e, hC, h⟩ := h
  rcases h with h | ⟨g, o, rfl, hle, hg, hlt, hc⟩
  · cases h
  obtain ⟨h1, h2⟩ := hC.cons
  refine ⟨g, o, cap, _, e, hle, h1, hg, hlt, fun j u hj => ?_, fun a cap' ha => ⟨a, cap', _, rfl, h2, ?_⟩⟩
  · have hjl : j < tys.length := by
      have := (List.getElem?_eq_some_iff.1 hj).1
      rw [List.length_take] at this; omega
    rw [List.getElem?_take_of_lt hjl] at hj
    exact hc j u hj
  · refine ha.imp id ?_
    rintro ⟨rfl, hle'⟩
    refine ⟨g, _, rfl, hle', hg, hlt, fun j u hj => ?_⟩
    rw [List.getElem?_drop] at hj
    rw [Nat.add_assoc]
    exact hc _ u hj
/-- an argument's list -/
theorem Rd.lk {w : World} {n k : Nat} {f : Nat → Nat → Dat} {a : Option Addr} {m cap : Nat} {G : Nat → Prop} (h : Rd w 0 (.slice a m cap) (.sl n k f)) (hf : Fits (.sl n k f) .exprs) (hG : ∀ g, g < w.heap.size → G g) :
    LK exprTy w w G (.slice a m cap) (Dat.sl n k f).els := by
  obtain ⟨rfl, _, C, hC, hcell, hnone⟩ := h.outP hf
  have hlen : (Dat.sl m k f).els.length = m := by simp [Dat.els, Dat.len]
  obtain ⟨a', cap', e, hc, hz, h⟩ := h
  injection e with e1 e2 e3
  subst e1; subst e3
  refine ⟨a, cap, C, by rw [hlen], hC, ?_⟩
  rcases h with rfl | ⟨g, o, rfl, _, hg, _⟩
  · exact .inl rfl
  · refine .inr ⟨g, o, rfl, by rw [hlen]; exact hc, hG g hg, hg, fun j u hj => ?_⟩
    have := hcell _ rfl j u hj
    have hadd : (⟨g, o, none⟩ : Addr).add j = ⟨g, o + j, none⟩ := by unfold Addr.add; split <;> simp_all
    rw [hadd] at this
    exact this
/-- a list of the call's own -/
theorem OutE.lk {w0 wr : World} {B : Nat} {v : Value} {L : List Nd} {G : Nat → Prop} (h : OutE w0 wr B v L) (hG : ∀ g, B ≤ g → g < wr.heap.size → G g) : LK exprTy w0 wr G v L := by
  obtain ⟨C, hC, hP⟩ := h
  rcases hC.2 with ⟨e, h0⟩ | ⟨g, cap, cur, e, hg, hrow, hnc, hcm, hsz, hcur⟩
  · exact ⟨none, 0, C, by rw [e, h0], hP, .inl (List.eq_nil_of_length_eq_zero h0)⟩
  · refine ⟨_, cap, C, e, hP, .inr ⟨g, 0, rfl, hnc, hG g hg (Array.getElem?_eq_some_iff.1 hrow).1, (Array.getElem?_eq_some_iff.1 hrow).1, fun j u hj => ?_⟩⟩
    subst e
    have hj' : j < L.length * 10 := by have := (List.getElem?_eq_some_iff.1 hj).1; rw [hP.1] at this; exact this
    have := World.ownsRow.cellAt (w := wr) (base := B) (e := 56) (size := 10) (g := g) (n := L.length) (cap := cap) (xs := C) hC j hj'
    rw [Nat.zero_add, this]; exact hj

/-- an entry of the stack -/
structure Ent where
  d : Nat
  v : Value
  L : List Nd
def entCells : List Ent → List Value
  | [] => []
  | e :: r => entCells r ++ [.int .i64 (e.d : Int), e.v]
theorem entCells_len : ∀ S : List Ent, (entCells S).length = S.length * 2
  | [] => rfl
  | e :: r => by unfold entCells; rw [List.length_append, entCells_len r, List.length_cons]; simp; omega
/-- what a stack has still to come -/
def left (pre : Nat → Nd → List (Nat × Nd)) (S : List Ent) : List (Nat × Nd) := S.flatMap fun e => e.L.flatMap (pre e.d)
/-- the last entry, its two cells -/
theorem ent_cells {w : World} {B T g cap : Nat} {e : Ent} {r : List Ent} (h : w.ownsRow B T 2 (.slice (some ⟨g, 0, none⟩) (r.length + 1) cap) (r.length + 1) (entCells (e :: r))) :
    w.cell? ⟨g, r.length * 2, none⟩ = some (.int .i64 (e.d : Int)) ∧ w.cell? ⟨g, r.length * 2 + 1, none⟩ = some e.v ∧ w.frozen? ⟨g, r.length * 2 + 1, none⟩ = false := by
  have hl := entCells_len r
  refine ⟨?_, ?_, h.frozenAt _⟩
  · rw [h.cellAt _ (by omega)]
    show (entCells r ++ _)[r.length * 2]? = _
    rw [List.getElem?_append_right (by omega), hl, Nat.sub_self]; rfl
  · rw [h.cellAt _ (by omega)]
    show (entCells r ++ _)[r.length * 2 + 1]? = _
    rw [List.getElem?_append_right (by omega), hl, show r.length * 2 + 1 - r.length * 2 = 1 by omega]; rfl
theorem ent_pop {w : World} {B T g cap : Nat} {e : Ent} {r : List Ent} (h : w.ownsRow B T 2 (.slice (some ⟨g, 0, none⟩) (r.length + 1) cap) (r.length + 1) (entCells (e :: r))) :
    w.ownsRow B T 2 (.slice (some ⟨g, 0, none⟩) r.length cap) r.length (entCells r) := ownsRow_pop (entCells_len r) h
theorem ent_set {w : World} {B T g cap : Nat} {e : Ent} {r : List Ent} (h : w.ownsRow B T 2 (.slice (some ⟨g, 0, none⟩) (r.length + 1) cap) (r.length + 1) (entCells (e :: r))) (v' : Value) (L' : List Nd) :
    (w.setCell ⟨g, r.length * 2 + 1, none⟩ v').ownsRow B T 2 (.slice (some ⟨g, 0, none⟩) (r.length + 1) cap) (r.length + 1) (entCells (⟨e.d, v', L'⟩ :: r)) := by
  have h1 := (h.stored (r.length * 2 + 1) v').1
  have hl := entCells_len r
  have e1 : (entCells (e :: r)).set (r.length * 2 + 1) v' = entCells (⟨e.d, v', L'⟩ :: r) := by
    show (entCells r ++ [_, _]).set _ _ = entCells r ++ _
    rw [List.set_append_right _ _ (by omega), hl, show r.length * 2 + 1 - r.length * 2 = 1 by omega]; rfl
  rw [e1] at h1
  exact h1
theorem ownsRow_facts {w : World} {B T sz g n cap : Nat} {xs : List Value} (h : w.ownsRow B T sz (.slice (some ⟨g, 0, none⟩) n cap) n xs) : n ≤ cap ∧ B ≤ g ∧ g < w.heap.size := by
  rcases h.2 with ⟨e, _⟩ | ⟨g', cap', cur, e, hg, hrow, hnc, _⟩
  · cases e
  · cases e
    exact ⟨hnc, hg, (Array.getElem?_eq_some_iff.1 hrow).1⟩
theorem ownsRow_same {w w' : World} {B T sz g n cap : Nat} {xs : List Value} (h : w.ownsRow B T sz (.slice (some ⟨g, 0, none⟩) n cap) n xs) (hs : w'.heap[g]? = w.heap[g]?) : w'.ownsRow B T sz (.slice (some ⟨g, 0, none⟩) n cap) n xs := by
  refine ⟨h.1, h.2.imp id ?_⟩
  rintro ⟨g', cap', cur, e, hg, hrow, hr⟩
  cases e
  exact ⟨g, cap, cur, rfl, hg, hs.trans hrow, hr⟩
theorem wpListIn_append_own_at {F : Fence} {n : Nat} {P : Program} (w : World) {ops : Array Oper} {rest : List Oper} {o : Oper} {a : Act} {Q : Exit → Act → World → Prop}
    (hg : o.guard = none) (s x : Operand) (t : TypeId) (hop : o.op = Op.call { callee := Callee.builtin Builtin.append, args := #[s, x], argTypes := #[t, t] })
    (base : Nat) (e : TypeId) (i : TypeInfo) (z : Value) (size bytes : Nat) (h1 : P.underlying t = some (.slice e)) (h2 : P.info? e = some i) (h3 : i.zero = some z) (h4 : i.size = size) (h5 : i.bytes = bytes) (h6 : z.cells.size = size) (h7 : 0 < size)
    (v : Value) (k : Nat) (xs : List Value) (hs : a.eval s = v) (hown : w.ownsRow base e size v k xs) (ad : Addr) (m c : Nat) (news : List Value) (hx : a.eval x = .slice (some ad) m c) (hn : news.length = m * size)
    (hc : ∀ j u, news[j]? = some u → w.cell? (ad.add j) = some u) (h1c : ∀ u ∈ news, u.oneCell' = true) (b1 : k + m ≤ maxLen) (b2 : (k + m) * bytes ≤ 140737488355328) (b3 : base ≤ w.heap.size)
    (hK : ∀ v' w', w'.ownsRow base e size v' (k + m) (xs ++ news) → w.grownBy w' v.ownBlock → (v'.ownBlock = v.ownBlock ∨ v'.ownBlock = some w.heap.size) → wpListIn F n P ops Q rest (a.put o.dst v') w') :
    wpListIn F n P ops Q (o :: rest) a w := by
  refine wpListIn_plain hg fun K hK' => ?_
  obtain ⟨v', w', hrun, r1, r2, _, r3⟩ := run_append_own_at (P := P) w base t o.type e i z size bytes h1 h2 h3 h4 h5 h6 h7 v k xs hown ad m c news hn hc h1c b1 b2 b3
  unfold Oper.wpIn
  refine ⟨?_, ?_⟩
  · simp [Oper.about, hop, resolve, Target.leads, Sem.run_pure]
  · rw [Oper.semAt_plain F _ _ (by rw [hop]; intro c hc'; cases hc')]
    simp [execOp, hop, resolve, invoke, builtin, hs, hx, hrun, Result.andThen]
    exact hK' _ _ (hK v' w' r1 r2 r3)
theorem has_least {R : Nat → Prop} : ∀ {n : Nat}, R n → ∃ m, R m ∧ ∀ k, R k → m ≤ k := fun {n} => by
  induction n using Nat.strongRecOn with
  | _ n ih =>
    intro h
    by_cases e : ∃ k, k < n ∧ R k
    · obtain ⟨k, hk, hr⟩ := e
      exact ih k hk hr
    · exact ⟨n, h, fun k hk => Nat.le_of_not_lt fun hlt => e ⟨k, hlt, hk⟩⟩
open Classical in
/-- the least number of which R tells -/
noncomputable def least (R : Nat → Prop) : Nat := if h : ∃ m, R m ∧ ∀ k, R k → m ≤ k then Classical.choose h else 0
theorem least_le {R : Nat → Prop} {n : Nat} (h : R n) : least R ≤ n := by
  unfold least
  rw [dif_pos (has_least h)]
  exact (Classical.choose_spec (has_least h)).2 n h
theorem least_is {R : Nat → Prop} {n : Nat} (h : R n) : R (least R) := by
  unfold least
  rw [dif_pos (has_least h)]
  exact (Classical.choose_spec (has_least h)).1
end Go.Proofs.Ytfmgkinindkedaa

/- A region that draws its order: its first n operations are quiet (calls that make memory among them), the rest is a chain behind them: one walk. -/
namespace Go.Proofs.Ytfmgkinindkedaa
open Go.RowKit

section
variable {P : Program} {md : Region.Mode} {l : List Oper} {n : Nat}

/-- an operation that hangs on earlier ones alone -/
def backB (md : Region.Mode) (l : List Oper) (n i : Nat) : Bool :=
  match l[i]? with
  | none => false
  | some o => (o.after.all fun e => !Region.binds md e || decide (e.on < i)) && (match o.guard with
    | none => true
    | some g => decide (g.1 < n))
/-- where the region may be cut -/
def cutB (md : Region.Mode) (l : List Oper) (n : Nat) : Bool :=
  (decide (n < l.length) && ((List.range n).all fun i => backB md l n i)) &&
  ((Region.noSelect (l.take n).toArray && Region.lexFrom md (l.take n).toArray n 0 (Array.replicate l.length false)) &&
  ((Region.sinkB md l.toArray n && Region.chainB md l.toArray n) && Region.seqB md l.toArray (l.length - n) n (Array.replicate n true ++ Array.replicate (l.length - n) false)))

theorem head_get {i : Nat} (hi : i < n) : (l.take n).toArray[i]? = l.toArray[i]? := by
  simp [List.getElem?_take, hi]
theorem head_of {i : Nat} {o : Oper} (h : (l.take n).toArray[i]? = some o) : i < n := by
  have h2 := (Array.getElem?_eq_some_iff.1 h).1
  simp at h2
  omega
theorem ready_up {i : Nat} {listed : Array Bool} (h : i ∈ Region.ready md (l.take n).toArray listed) : i < n ∧ i ∈ Region.ready md l.toArray listed := by
  obtain ⟨h1, o, ho, ha⟩ := mem_ready.1 h
  have hi := head_of ho
  exact ⟨hi, mem_ready.2 ⟨h1, o, (head_get hi).symm.trans ho, ha⟩⟩
theorem ready_down {i : Nat} {listed : Array Bool} (hi : i < n) (h : i ∈ Region.ready md l.toArray listed) : i ∈ Region.ready md (l.take n).toArray listed := by
  obtain ⟨h1, o, ho, ha⟩ := mem_ready.1 h
  exact mem_ready.2 ⟨h1, o, (head_get hi).trans ho, ha⟩
theorem yielded_head {i : Nat} (hi : i < n) (ts : Array Value) : yielded (l.take n).toArray ts i = yielded l.toArray ts i := by
  unfold yielded
  rw [head_get hi]
/-- if no operation of the head may come up, all have -/
theorem all_listed {listed : Array Bool} (hs : listed.size = l.length) (hn : n < l.length) (hb : ∀ i, i < n → backB md l n i = true) (h : Region.ready md (l.take n).toArray listed = []) :
    ∀ i, i < n → listed.getD i true = true := by
  intro i
  induction i using Nat.strongRecOn with
  | _ i ih =>
    intro hi
    cases hl : listed.getD i true
    · exfalso
      have h1 := hb i hi
      unfold backB at h1
      have hil : i < l.length := by omega
      rw [List.getElem?_eq_getElem hil] at h1
      rw [Bool.and_eq_true] at h1
      have hm : i ∈ Region.ready md (l.take n).toArray listed := by
        refine mem_ready.2 ⟨hl, l[i], ?_, fun e he hbd => ?_⟩
        · rw [head_get hi]; simp [hil]
        · have h2 := Array.all_eq_true_iff_forall_mem.1 h1.1 e he
          rw [hbd] at h2
          have h3 : e.on < i := by simpa using h2
          have h4 := ih e.on h3 (by omega)
          have h5 : e.on < listed.size := by rw [hs]; omega
          simpa [h5] using h4
      rw [h] at hm
      cases hm
    · rfl

theorem any_seq {Q' : Exit → Act → World → Prop} (x : Nat) : ∀ (t : List Oper) (k : Nat) (listed : Array Bool) (a : Act) (w : World), (∀ j, t[j]? = l.toArray[k + j]?) →
    Region.seqB md l.toArray t.length k listed = true → wpList P l.toArray Q' t a w → wpAny P md l.toArray Q' (t.length + x) listed a w
  | [], k, listed, a, w, _, hB, h => by
    have hr : Region.ready md l.toArray listed = [] := by simpa [Region.seqB] using hB
    cases x with
    | zero => exact ⟨hr, h⟩
    | succ x => exact ⟨fun _ => h, fun i hi => by rw [hr] at hi; cases hi⟩
  | o :: t, k, listed, a, w, hl, hB, h => by
    have h0 : l.toArray[k]? = some o := by simpa using (hl 0).symm
    simp only [List.length_cons, Region.seqB, Bool.and_eq_true, decide_eq_true_eq] at hB
    rw [show (o :: t).length + x = (t.length + x) + 1 by simp only [List.length_cons]; omega]
    refine ⟨fun h1 => (by rw [hB.1] at h1; cases h1), fun i hi => ?_⟩
    rw [hB.1] at hi
    obtain rfl : i = k := by simpa using hi
    have hw : wpOp P l.toArray Q' i (wpList P l.toArray Q' t) a w := by unfold wpOp; simp only [h0]; exact h
    exact wpOp_mono (fun a' w' h' => any_seq x t (i + 1) _ a' w' (fun j => by have := hl (j + 1); simpa [Nat.add_assoc, Nat.add_comm 1 j] using this) hB.2 h') hw

theorem cut_any {C : World → Prop} {Q' : Exit → Act → World → Prop} (hn : n < l.length) (hb : ∀ i, i < n → backB md l n i = true) (hs : Region.sinkB md l.toArray n = true) (hc : Region.chainB md l.toArray n = true)
    (hq : Region.seqB md l.toArray (l.length - n) n (Array.replicate n true ++ Array.replicate (l.length - n) false) = true) :
    ∀ (f : Nat) (listed : Array Bool) (a : Act) (w : World), HeadInv md l.toArray n listed → C w →
      wpAnyQ P md (l.take n).toArray C (fun a' => ∀ w', C w' → wpList P l.toArray Q' (l.drop n) a' w') f listed a → wpAny P md l.toArray Q' (f + (l.length - n)) listed a w := by
  have fin : ∀ (x : Nat) (listed : Array Bool) (a : Act) (w : World), HeadInv md l.toArray n listed → Region.ready md (l.take n).toArray listed = [] → wpList P l.toArray Q' (l.drop n) a w →
      wpAny P md l.toArray Q' (x + (l.length - n)) listed a w := by
    intro x listed a w inv hr h
    have hsz : listed.size = l.length := by rw [inv.size]; simp
    have hall := all_listed hsz hn hb hr
    have e : listed = Array.replicate n true ++ Array.replicate (l.length - n) false := by
      apply Array.ext
      · simp; omega
      · intro i h1 h2
        by_cases hi : i < n
        · have := hall i hi
          simp [h1] at this
          simp [Array.getElem_append, hi, this]
        · have := inv.tail i (by omega) (by simpa using (by omega : i < l.length))
          simp [h1] at this
          simp [Array.getElem_append, hi, this]
    have hd : (l.drop n).length = l.length - n := by simp
    have := any_seq (P := P) (md := md) (Q' := Q') x (l.drop n) n listed a w (fun j => by simp [List.getElem?_drop]) (by rw [hd, e]; exact hq) h
    rw [hd] at this
    rw [Nat.add_comm]
    exact this
  intro f
  induction f with
  | zero => intro listed a w inv hw h; exact fin 0 listed a w inv h.1 (h.2 w hw)
  | succ f ih =>
    intro listed a w inv hw h
    by_cases hr : Region.ready md (l.take n).toArray listed = []
    · exact fin (f + 1) listed a w inv hr (h.1 hr w hw)
    · obtain ⟨i, hi⟩ := List.exists_mem_of_ne_nil _ hr
      obtain ⟨hin, hi2⟩ := ready_up hi
      rw [show f + 1 + (l.length - n) = (f + (l.length - n)) + 1 by omega]
      refine ⟨fun h0 => (by rw [h0] at hi2; cases hi2), fun j hj => ?_⟩
      have hjn : j < n := by
        rcases Nat.lt_or_ge j n with h1 | h1
        · exact h1
        · exact absurd hj (tail_waits hs hc (by simpa using hn) inv _ i rfl hin (mem_ready.1 hi2).1 j h1)
      have hq2 := h.2 j (ready_down hjn hj)
      obtain ⟨_, o, ho, _⟩ := mem_ready.1 hj
      have hwt : Region.wanted o (yielded (l.take n).toArray a.tmps) = Region.wanted o (yielded l.toArray a.tmps) := by
        have h1 := hb j hjn
        have ho' : l[j]? = some o := by simpa using ho
        unfold backB at h1
        rw [ho', Bool.and_eq_true] at h1
        unfold Region.wanted
        cases hg : o.guard with
        | none => rfl
        | some g =>
          have h2 := h1.2
          rw [hg] at h2
          have h3 : g.1 < n := by simpa using h2
          simp only [yielded_head h3]
      unfold qOp at hq2
      rw [head_get hjn, ho] at hq2
      simp only [hwt] at hq2
      unfold wpOp
      rw [ho]
      simp only []
      split
      · rename_i hwd
        rw [if_pos hwd] at hq2
        exact .inl (Oper.wp_of_quiet hw (fun a' w' hw' hK => ih _ a' w' (inv.set hj hjn) hw' hK) hq2)
      · rename_i hwd
        rw [if_neg hwd] at hq2
        exact ih _ _ w (inv.set hj hjn) hw hq2

theorem region_lat_tail {id : Nat} {Q : Exit → Act → World → Prop} {a : Act} {w : World} (n : Nat) (hm : P.follows .mixedOrders = true) (hB : cutB .any l n = true)
    (h : wpQuiet P (l.take n).toArray (fun w' => ∃ m, w' = lat w m) (fun a' => ∀ w', (∃ m, w' = lat w m) → wpList P l.toArray Q (l.drop n) a' w') (l.take n) a) : (Code.region id l.toArray true).wp P Q a w := by
  simp only [cutB, Bool.and_eq_true, decide_eq_true_eq] at hB
  obtain ⟨⟨hn, hb⟩, ⟨hsel, hlex⟩, ⟨hs, hc⟩, hq⟩ := hB
  have hb' : ∀ i, i < n → backB .any l n i = true := fun i hi => List.all_eq_true.1 hb i (List.mem_range.2 hi)
  have htl : (l.take n).length = n := by simp; omega
  have inv0 : HeadInv .any l.toArray n (Array.replicate l.toArray.size false) :=
    ⟨by simp, fun j oj _ hl => (by rw [getD_replicate_false] at hl; cases hl), fun t _ ht => getD_in (by simpa using ht) (getD_replicate_false _ _)⟩
  have hw0 : ∃ m, ({ w with drawn := w.drawn + 1 } : World) = lat w m :=
    ⟨{ w with drawn := w.drawn + 1 }, (lat_of (wr := w) (w := { w with drawn := w.drawn + 1 }) ⟨rfl, rfl, rfl, Nat.le_refl _, fun _ _ => rfl⟩).symm⟩
  have H := wpAnyQ_lex (C := fun w' => ∃ m, w' = lat w m) (md := .any) (ops := (l.take n).toArray) hsel (l.take n) 0 (Array.replicate l.length false) a (by simp) (by rw [htl]; exact hlex) h
  rw [htl] at H
  refine wp_region_any hm ?_
  have := cut_any (P := P) (md := .any) (C := fun w' => ∃ m, w' = lat w m) (Q' := Q) hn hb' hs hc hq n (Array.replicate l.length false) a _ (by simpa using inv0) hw0 H
  rw [show n + (l.length - n) = l.toArray.size by simp; omega] at this
  simpa using this
end
end Go.Proofs.Ytfmgkinindkedaa

/- A call that returns returns one value: two contracts at one world agree on it. -/
namespace Go.Proofs.Ytfmgkinindkedaa
open Go.RowKit

/-- a frame at which every run ends at once -/
def wall : Frame := { Frame.enter default 0 #[] .normal with todo := [.code (.refuse default)], mode := .run }
theorem wall_ends (P : Program) (v : Value) (w : World) : ∃ o, step P (lone (wall.finish v) [] w) = .ended o w :=
  ⟨_, step_lone_ended (by simp [wall, Frame.finish, stepG, stepG.exec]; rfl)⟩
theorem runN_ended {P : Program} {o : Outcome} {m : Machine} {w : World} (h : step P m = .ended o w) : ∀ n, runN P (n + 1) m = .ended o w
  | n => by simp [runN, h]
theorem Calls.one_value {P : Program} {f : FuncId} {args : Array Value} {w : World} {v v' : Value} {A B : World → Prop}
    (h : Calls P f args w fun e w' => e = .returned v ∧ A w') (h' : Calls P f args w fun e w' => e = .returned v' ∧ B w') : v = v' := by
  obtain ⟨e, w1, fr, ⟨rfl, _⟩, ⟨n, hn⟩, _, hl⟩ := h [wall]
  obtain ⟨e, w2, fr', ⟨rfl, _⟩, ⟨n', hn'⟩, _, hl'⟩ := h' [wall]
  have s1 := step_leave_returned (c := wall) (cs := []) hl
  have s2 := step_leave_returned (c := wall) (cs := []) hl'
  obtain ⟨o, ho⟩ := wall_ends P v w1
  obtain ⟨o', ho'⟩ := wall_ends P v' w2
  have key : ∀ (n n' : Nat) (fr fr' : Frame) (w1 w2 : World) (v : Value) (o : Outcome) (m : Machine), runN P n m = .next (lone fr [wall] w1) → runN P n' m = .next (lone fr' [wall] w2) →
      step P (lone fr [wall] w1) = .next (lone (wall.finish v) [] w1) → step P (lone (wall.finish v) [] w1) = .ended o w1 → ¬ n < n' := by
    intro n n' fr fr' w1 w2 v o m hn hn' s1 ho hlt
    obtain ⟨d, rfl⟩ : ∃ d, n' = n + (d + 1) := ⟨n' - n - 1, by omega⟩
    rw [runN_add, hn] at hn'
    cases d with
    | zero =>
      have h3 : Stepped.next (lone (wall.finish v) [] w1) = .next (lone fr' [wall] w2) := by rw [← hn']; simp [runN, s1]
      injection h3 with e1
      have := congrArg (fun g : Machine => (g.gs.map fun x => x.callers)) e1
      simp [lone] at this
    | succ d =>
      simp [runN, s1, ho] at hn'
  have e : n = n' := by
    rcases Nat.lt_trichotomy n n' with h | h | h
    · exact absurd h (key n n' fr fr' w1 w2 v o _ hn hn' s1 ho)
    · exact h
    · exact absurd h (key n' n fr' fr w2 w1 v' o' _ hn' hn s2 ho')
  subst e
  rw [hn] at hn'
  injection hn' with e1
  have hw : w1 = w2 := congrArg (fun m : Machine => m.world) e1
  have hf : fr = fr' := by
    have := congrArg (fun g : Machine => (g.gs.map fun x => x.frame)) e1
    simpa [lone] using this
  subst hw
  subst hf
  obtain ⟨_, _, _, fn, hfn, hr⟩ := hl
  obtain ⟨_, _, _, fn', hfn', hr'⟩ := hl'
  rw [hfn] at hfn'
  injection hfn' with e2
  subst e2
  rw [hr] at hr'
  injection hr'
theorem quiet_one {P : Program} {o : Oper} {a : Act} {C D : World → Prop} {w : World} {v v' : Value} (h : o.quietAt P a C w v) (h' : o.quietAt P a D w v') : v = v' := by
  unfold Oper.quietAt at h h'
  generalize (execOp a.eval o).run P w = r at h h'
  cases r with
  | ok n w' =>
    cases n <;> simp only [Oper.quietUpon] at h h'
    case value u => exact h.2.symm.trans h'.2
    case skip => exact h.2.trans h'.2.symm
    case enter f args => exact Calls.one_value h.2 h'.2
  | halt x w' => simp only [Oper.quietUpon] at h
end Go.Proofs.Ytfmgkinindkedaa

/- A region that draws its order, whose operations are quiet but for one allocation, which may come up at any time, and the store into it: one walk, in the order of the text. -/
namespace Go.Proofs.Ytfmgkinindkedaa
open Go.RowKit

/-- the region with operation m made idle -/
def idle : List Oper → Nat → List Oper
  | [], _ => []
  | o :: l, 0 => { o with op := .assign (.const undef) } :: l
  | o :: l, n + 1 => o :: idle l n
theorem idle_at : ∀ (l : List Oper) (m : Nat), (idle l m)[m]? = (l[m]?).map fun o => { o with op := .assign (.const undef) }
  | [], m => by simp [idle]
  | o :: l, 0 => by simp [idle]
  | o :: l, m + 1 => by simp [idle, idle_at l m]
theorem idle_ne : ∀ (l : List Oper) (m j : Nat), j ≠ m → (idle l m)[j]? = l[j]?
  | [], m, j, _ => by simp [idle]
  | o :: l, 0, 0, h => absurd rfl h
  | o :: l, 0, j + 1, _ => by simp [idle]
  | o :: l, m + 1, 0, _ => by simp [idle]
  | o :: l, m + 1, j + 1, h => by simp [idle, idle_ne l m j (by omega)]
theorem idle_same (l : List Oper) (m j : Nat) : ((idle l m)[j]?).map (fun o => (o.dst, o.after, o.guard)) = (l[j]?).map (fun o => (o.dst, o.after, o.guard)) := by
  by_cases h : j = m
  · subst h
    rw [idle_at]
    cases l[j]? <;> rfl
  · rw [idle_ne l m j h]
theorem idle_len : ∀ (l : List Oper) (m : Nat), (idle l m).length = l.length
  | [], _ => rfl
  | _ :: _, 0 => rfl
  | _ :: l, m + 1 => by simp [idle, idle_len l m]

section
variable {P : Program} {md : Region.Mode} {l lv : List Oper}
/-- two regions that differ in what is done alone -/
def Alike (l lv : List Oper) : Prop := ∀ j : Nat, (lv[j]?).map (fun o : Oper => (o.dst, o.after, o.guard)) = (l[j]?).map (fun o : Oper => (o.dst, o.after, o.guard))
theorem Alike.some (h : Alike l lv) {j : Nat} {o : Oper} (ho : l[j]? = some o) : ∃ o', lv[j]? = some o' ∧ o'.dst = o.dst ∧ o'.after = o.after ∧ o'.guard = o.guard := by
  have h1 := h j
  rw [ho] at h1
  cases h2 : lv[j]? with
  | none => rw [h2] at h1; cases h1
  | some o' =>
    rw [h2] at h1
    simp only [Option.map_some, Option.some.injEq, Prod.mk.injEq] at h1
    exact ⟨o', rfl, h1⟩
theorem Alike.symm (h : Alike l lv) : Alike lv l := fun j => (h j).symm
theorem Alike.ready (h : Alike l lv) {i : Nat} {listed : Array Bool} (hi : i ∈ Region.ready md l.toArray listed) : i ∈ Region.ready md lv.toArray listed := by
  obtain ⟨h1, o, ho, ha⟩ := mem_ready.1 hi
  obtain ⟨o', ho', _, e2, _⟩ := h.some (by simpa using ho)
  exact mem_ready.2 ⟨h1, o', by simpa using ho', by rw [e2]; exact ha⟩
theorem Alike.yielded (h : Alike l lv) (ts : Array Value) : yielded lv.toArray ts = yielded l.toArray ts := by
  funext j
  unfold Go.yielded
  have : (lv.toArray[j]?).bind (·.dst) = (l.toArray[j]?).bind (·.dst) := by
    have h1 := h j
    have e1 : lv.toArray[j]? = lv[j]? := by simp
    have e2 : l.toArray[j]? = l[j]? := by simp
    rw [e1, e2]
    cases h2 : lv[j]? <;> cases h3 : l[j]? <;> rw [h2, h3] at h1 <;> simp at h1 ⊢
    exact h1.1
  rw [this]
theorem Alike.wanted (h : Alike l lv) {o : Oper} (ts : Array Value) : Region.wanted o (Go.yielded lv.toArray ts) = Region.wanted o (Go.yielded l.toArray ts) := by rw [h.yielded]

/-- what is asked of the region -/
structure Floats (md : Region.Mode) (l : List Oper) (m s k : Nat) (d e : Tmp) (om os : Oper) : Prop where
  hm : l[m]? = some om
  hs : l[s]? = some os
  dst : om.dst = some d
  mg : om.guard = none
  sd : os.dst = none
  sg : os.guard = none
  wm : Region.waitsFor md l.toArray s m = true
  wk : Region.waitsFor md l.toArray s k = true
  ms : m ≠ s
  mnk : m ≠ k
  ap : ∀ j oj, l[j]? = some oj → j ≠ m → j ≠ s → om.apart l.toArray oj = true
  de : ∀ j oj, l[j]? = some oj → j ≠ k → oj.dst ≠ some e
  sel : Region.noSelect l.toArray = true
  back : ∀ i, i < l.length → backB md l l.length i = true
def floatsB (md : Region.Mode) (l : List Oper) (m s k : Nat) (d e : Tmp) : Bool :=
  (match l[m]?, l[s]? with
    | some om, some os => ((om.dst == some d) && om.guard.isNone) && (os.dst.isNone && os.guard.isNone) &&
      ((List.range l.length).all fun j => j == m || j == s || (match l[j]? with
        | some oj => om.apart l.toArray oj
        | none => true))
    | _, _ => false) &&
  ((Region.waitsFor md l.toArray s m && Region.waitsFor md l.toArray s k) && (m != s && m != k)) &&
  (((List.range l.length).all fun j => j == k || (match l[j]? with
    | some oj => oj.dst != some e
    | none => true)) && (Region.noSelect l.toArray && (List.range l.length).all fun i => backB md l l.length i))
theorem floats_of {m s k : Nat} {d e : Tmp} {om os : Oper} (hm : l[m]? = some om) (hs : l[s]? = some os) (h : floatsB md l m s k d e = true) : Floats md l m s k d e om os := by
  unfold floatsB at h
  rw [hm, hs] at h
  simp only [Bool.and_eq_true, Option.isNone_iff_eq_none, beq_iff_eq, bne_iff_ne, ne_eq] at h
  obtain ⟨⟨⟨⟨⟨h1, h2⟩, h3, h4⟩, h5⟩, ⟨h6, h7⟩, h8, h9⟩, h10, h11, h12⟩ := h
  refine ⟨hm, hs, h1, h2, h3, h4, h6, h7, h8, h9, ?_, ?_, h11, fun i hi => List.all_eq_true.1 h12 i (List.mem_range.2 hi)⟩
  · intro j oj hj hjm hjs
    have := List.all_eq_true.1 h5 j (List.mem_range.2 (List.getElem?_eq_some_iff.1 hj).1)
    rw [hj] at this
    simpa [hjm, hjs] using this
  · intro j oj hj hjk
    have := List.all_eq_true.1 h10 j (List.mem_range.2 (List.getElem?_eq_some_iff.1 hj).1)
    rw [hj] at this
    simpa [hjk] using this

theorem listed_whole {listed : Array Bool} (hs : listed.size = l.length) (hb : ∀ i, i < l.length → backB md l l.length i = true) (h : Region.ready md l.toArray listed = []) :
    ∀ i, i < l.length → listed.getD i true = true := by
  intro i
  induction i using Nat.strongRecOn with
  | _ i ih =>
    intro hi
    cases hl : listed.getD i true
    · exfalso
      have h1 := hb i hi
      unfold backB at h1
      rw [List.getElem?_eq_getElem hi, Bool.and_eq_true] at h1
      have hm : i ∈ Region.ready md l.toArray listed := by
        refine mem_ready.2 ⟨hl, l[i], by simp [hi], fun e he hbd => ?_⟩
        have h2 := Array.all_eq_true_iff_forall_mem.1 h1.1 e he
        rw [hbd] at h2
        have h3 : e.on < i := by simpa using h2
        have h4 := ih e.on h3 (by omega)
        have h5 : e.on < listed.size := by rw [hs]; omega
        simpa [h5] using h4
      rw [h] at hm
      cases hm
    · rfl

theorem waits_listed {s m : Nat} {listed : Array Bool} (hw : Region.waitsFor md l.toArray s m = true) (hr : s ∈ Region.ready md l.toArray listed) : listed.getD m false = true := by
  obtain ⟨oj, hoj, x, hx, hb, hon⟩ := Region.waitsFor_spec hw
  obtain ⟨_, o, ho, ha⟩ := mem_ready.1 hr
  obtain rfl : oj = o := Option.some.inj (hoj.symm.trans ho)
  rw [← hon]; exact ha x hx hb

theorem eval_put_ne {a : Act} {x : Option Tmp} {v : Value} {e : Tmp} (h : x ≠ some e) : (a.put x v).eval (.tmp e) = a.eval (.tmp e) :=
  Act.eval_put fun d hd he => h (by rw [hd]; injection he with he; rw [he])
/-- what stands in a slot that has been yielded stands there at the end -/
theorem look_end {C : World → Prop} {Qf : Act → Prop} {k : Nat} {e : Tmp} (de : ∀ j oj, lv[j]? = some oj → j ≠ k → oj.dst ≠ some e) :
    ∀ (f : Nat) (listed : Array Bool) (a : Act), wpAnyQ P md lv.toArray C Qf f listed a → listed.getD k false = true → ∃ a', Qf a' ∧ a'.eval (.tmp e) = a.eval (.tmp e)
  | 0, _, a, h, _ => ⟨a, h.2, rfl⟩
  | f + 1, listed, a, h, hk => by
    by_cases hr : Region.ready md lv.toArray listed = []
    · exact ⟨a, h.1 hr, rfl⟩
    · obtain ⟨i, hi⟩ := List.exists_mem_of_ne_nil _ hr
      obtain ⟨h0, o, ho, _⟩ := mem_ready.1 hi
      have hik : i ≠ k := fun e => by
        subst e
        rw [getD_both h0] at hk; cases hk
      obtain ⟨v, _, hK⟩ := yieldsIn_of_qOp ho (h.2 i hi)
      obtain ⟨a', h1, h2⟩ := look_end de f _ _ hK (getD_set_true hk)
      exact ⟨a', h1, h2.trans (eval_put_ne (de i o (by simpa using ho) hik))⟩

theorem wp_from_quiet {o : Oper} {a A : Act} {v : Value} {C : World → Prop} {K : Act → World → Prop} {Q' : Exit → Act → World → Prop} {w : World} (he : execOp A.eval o = execOp a.eval o) (hC : C w)
    (hq : o.quietAt P a C w v) (hK : ∀ w', C w' → K (A.put o.dst v) w') : o.wp P A w K Q' := by
  unfold Oper.quietAt at hq
  unfold Oper.wp
  rw [he]
  generalize (execOp a.eval o).run P w = r at *
  cases r with
  | ok n w' =>
    cases n <;> simp only [Oper.quietUpon] at hq <;> simp only [Oper.upon]
    case value u =>
      obtain ⟨e1, e2⟩ := hq
      rw [e1, e2]; exact hK _ hC
    case skip =>
      obtain ⟨e1, e2⟩ := hq
      rw [e1, ← e2]; exact hK _ hC
    case enter f args =>
      obtain ⟨e1, hc⟩ := hq
      rw [e1]
      exact hc.mono fun e w'' ⟨he, hw''⟩ => by subst he; exact hK _ hw''
  | halt x w' => simp only [Oper.quietUpon] at hq

/-- where the allocation and the store stand -/
inductive Stand (wr : World) (m s k : Nat) (d e : Tmp) (Z : Array Value) (T : TypeId) (Good : Value → Array Value → Prop) (listed : Array Bool) (a A : Act) (w : World) : Prop where
  | none (hm : listed.getD m true = false) (hs : listed.getD s true = false) (hA : A = a)
  | made (b : Nat) (hm : listed.getD m false = true) (hs : listed.getD s true = false) (hA : A = a.put (some d) (.pointer (some ⟨b, 0, none⟩))) (hb : wr.heap.size ≤ b) (hh : w.heap[b]? = some (.cells Z T (0, 0)))
  | done (b : Nat) (cs : Array Value) (hm : listed.getD m false = true) (hs : listed.getD s false = true) (hk : listed.getD k false = true) (hA : A = a.put (some d) (.pointer (some ⟨b, 0, none⟩))) (hb : wr.heap.size ≤ b)
      (hg : Good (a.eval (.tmp e)) cs) (hh : w.heap[b]? = some (.cells cs T (0, 0)))

theorem put_size (a : Act) (x : Option Tmp) (v : Value) : (a.put x v).tmps.size = a.tmps.size := by cases x <;> simp [Act.put]
theorem put_twice (a : Act) (d : Tmp) (v u : Value) : (a.put (some d) v).put (some d) u = a.put (some d) u := by simp [Act.put]
theorem put_eval {a : Act} {d : Tmp} {v : Value} (h : d < a.tmps.size) : (a.put (some d) v).eval (.tmp d) = v := by simp [Act.put, Act.eval, h]
theorem cells_lt {w : World} {b : Nat} {o : Obj} (h : w.heap[b]? = some o) : b < w.heap.size := (Array.getElem?_eq_some_iff.1 h).1

theorem float_any {wr : World} {Qf : Act → Prop} {Q' : Exit → Act → World → Prop} {m s k : Nat} {d e : Tmp} {om os : Oper} (HB : Floats md l m s k d e om os)
    {Z : Array Value} {T : TypeId} {Good : Value → Array Value → Prop}
    (hAl : ∀ (A : Act) (w : World), (execOp A.eval om).run P w = .ok (.value (.pointer (some ⟨w.heap.size, 0, none⟩))) (w.alloc (.cells Z T)))
    (hSt : ∀ (A : Act) (w : World) (b : Nat) (cs : Array Value), A.eval (.tmp d) = .pointer (some ⟨b, 0, none⟩) → Good (A.eval (.tmp e)) cs → w.heap[b]? = some (.cells Z T (0, 0)) →
      ∃ w', (execOp A.eval os).run P w = .ok .skip w' ∧ w'.heap[b]? = some (.cells cs T (0, 0)) ∧ Below b w w')
    (hG : ∀ a', Qf a' → ∃ cs, Good (a'.eval (.tmp e)) cs)
    (hQ : ∀ a' w' b cs, Qf a' → Below wr.heap.size wr w' → wr.heap.size ≤ b → Good (a'.eval (.tmp e)) cs → w'.heap[b]? = some (.cells cs T (0, 0)) → Q' .normal (a'.put (some d) (.pointer (some ⟨b, 0, none⟩))) w') :
    ∀ (f : Nat) (listed : Array Bool) (a A : Act) (w : World), listed.size = l.length → d < a.tmps.size → Below wr.heap.size wr w →
      (∀ X, Below wr.heap.size wr X → wpAnyQ P md (idle (idle l m) s).toArray (fun w' => ∃ n, w' = lat X n) Qf f listed a) →
      Stand wr m s k d e Z T Good listed a A w → wpAny P md l.toArray Q' f listed A w := by
  have hal : Alike l (idle (idle l m) s) := fun j => (idle_same (idle l m) s j).trans (idle_same l m j)
  have de' : ∀ j oj, (idle (idle l m) s)[j]? = some oj → j ≠ k → oj.dst ≠ some e := by
    intro j oj hj hjk
    obtain ⟨o', ho', e1, _, _⟩ := hal.symm.some hj
    rw [← e1]
    exact HB.de j o' ho' hjk
  have fin : ∀ (listed : Array Bool) (a A : Act) (w : World), listed.size = l.length → Below wr.heap.size wr w → Region.ready md l.toArray listed = [] → Qf a → Stand wr m s k d e Z T Good listed a A w → Q' .normal A w := by
    intro listed a A w hsz hw hr hq hst
    have hall := listed_whole hsz HB.back hr
    have hml : m < l.length := (List.getElem?_eq_some_iff.1 HB.hm).1
    have hsl : s < l.length := (List.getElem?_eq_some_iff.1 HB.hs).1
    cases hst with
    | none hm _ _ => rw [hall m hml] at hm; cases hm
    | made b _ hs _ _ _ => rw [hall s hsl] at hs; cases hs
    | done b cs _ _ _ hA hb hg hh => rw [hA]; exact hQ a w b cs hq hw hb hg hh
  intro f
  induction f with
  | zero =>
    intro listed a A w hsz _ hw hW hst
    have h0 := hW wr (Below.refl _ _)
    have hr : Region.ready md l.toArray listed = [] := by
      rcases hx : Region.ready md l.toArray listed with _ | ⟨i, r⟩
      · rfl
      · have := hal.ready (i := i) (by rw [hx]; exact List.mem_cons_self)
        rw [h0.1] at this; cases this
    exact ⟨hr, fin listed a A w hsz hw hr h0.2 hst⟩
  | succ f ih =>
    intro listed a A w hsz hd hw hW hst
    have h0 := hW wr (Below.refl _ _)
    refine ⟨fun hr => fin listed a A w hsz hw hr (h0.1 ?_) hst, fun j hj => ?_⟩
    · rcases hx : Region.ready md (idle (idle l m) s).toArray listed with _ | ⟨i, r⟩
      · rfl
      · have := hal.symm.ready (i := i) (by rw [hx]; exact List.mem_cons_self)
        rw [hr] at this; cases this
    · obtain ⟨hjun, oj, hoj, _⟩ := mem_ready.1 hj
      have hoj' : l[j]? = some oj := by simpa using hoj
      have hjv := hal.ready hj
      obtain ⟨ov, hov, edst, _, eguard⟩ := hal.some hoj'
      have hov' : (idle (idle l m) s).toArray[j]? = some ov := by simpa using hov
      have hsz' : (listed.setIfInBounds j true).size = l.length := by simpa using hsz
      obtain ⟨v, hy, _⟩ := yieldsIn_of_qOp hov' (h0.2 j hjv)
      have hall : ∀ X, Below wr.heap.size wr X → YieldsIn P (idle (idle l m) s).toArray (fun w' => ∃ n, w' = lat X n) ov v a ∧
          wpAnyQ P md (idle (idle l m) s).toArray (fun w' => ∃ n, w' = lat X n) Qf f (listed.setIfInBounds j true) (a.put ov.dst v) := by
        intro X hX
        obtain ⟨v', hy', hK'⟩ := yieldsIn_of_qOp hov' ((hW X hX).2 j hjv)
        have e1 : v' = v := by
          rcases hy with ⟨hw1, q1⟩ | ⟨hw1, rfl⟩ <;> rcases hy' with ⟨hw2, q2⟩ | ⟨hw2, rfl⟩
          · exact quiet_one (q2 X ⟨X, (lat_of (Below.refl _ _)).symm⟩) (q1 X ⟨X, (lat_of hX).symm⟩)
          · rw [hw1] at hw2; cases hw2
          · rw [hw1] at hw2; cases hw2
          · rfl
        subst e1
        exact ⟨hy', hK'⟩
      unfold wpOp
      rw [hoj]
      simp only []
      by_cases hjm : j = m
      · -- the allocation
        subst hjm
        obtain rfl : oj = om := Option.some.inj (hoj'.symm.trans HB.hm)
        have hwd : Region.wanted oj (yielded l.toArray A.tmps) = true := by unfold Region.wanted; rw [HB.mg]
        rw [if_pos hwd]
        refine .inl ?_
        unfold Oper.wp
        rw [hAl A w]
        simp only [Oper.upon]
        cases hst with
        | made b hm _ _ _ _ => rw [getD_both hjun] at hm; cases hm
        | done b cs hm _ _ _ _ _ _ => rw [getD_both hjun] at hm; cases hm
        | none hm hs hA =>
          subst hA
          refine ih _ (A.put ov.dst v) _ _ hsz' (by rw [put_size]; exact hd) (hw.alloc hw.size _) (fun X hX => (hall X hX).2) (Stand.made w.heap.size ?_ ?_ ?_ hw.size (heap_alloc_new w _))
          · have : j < listed.size := by rw [hsz]; exact (List.getElem?_eq_some_iff.1 hoj').1
            simp [this]
          · rw [getD_set_ne true HB.ms]; exact hs
          · rw [edst, HB.dst, put_twice]
      · by_cases hjs : j = s
        · -- the store
          subst hjs
          obtain rfl : oj = os := Option.some.inj (hoj'.symm.trans HB.hs)
          have hwd : Region.wanted oj (yielded l.toArray A.tmps) = true := by unfold Region.wanted; rw [HB.sg]
          rw [if_pos hwd]
          have hlm := waits_listed HB.wm hj
          have hlk := waits_listed HB.wk hj
          cases hst with
          | none hm _ _ => rw [getD_both hm] at hlm; cases hlm
          | done b cs _ hs _ _ _ _ _ => rw [getD_both hjun] at hs; cases hs
          | made b hm hs hA hb hh =>
            obtain ⟨a', hq', he'⟩ := look_end de' _ _ _ h0 hlk
            obtain ⟨cs, hg⟩ := hG a' hq'
            rw [he'] at hg
            have hne : (some d : Option Tmp) ≠ some e := by
              have h1 := HB.de m om HB.hm HB.mnk
              rw [HB.dst] at h1; exact h1
            obtain ⟨w', hrun, hh', hbw⟩ := hSt A w b cs (by rw [hA]; exact put_eval hd) (by rw [hA, eval_put_ne hne]; exact hg) hh
            refine .inl ?_
            unfold Oper.wp
            rw [hrun]
            simp only [Oper.upon]
            rw [HB.sd]
            refine ih _ a A w' hsz' hd (hw.trans (hbw.mono hb)) (fun X hX => ?_) (Stand.done b cs (getD_set_true hm) ?_ (getD_set_true hlk) hA hb hg hh')
            · have := (hall X hX).2
              rw [edst, HB.sd] at this
              exact this
            · have : j < listed.size := by rw [hsz]; exact (List.getElem?_eq_some_iff.1 hoj').1
              simp [this]
        · -- any other
          obtain rfl : ov = oj := by
            rw [idle_ne _ _ _ hjs, idle_ne _ _ _ hjm] at hov
            exact Option.some.inj (hov.symm.trans hoj')
          have hap := HB.ap j ov hoj' hjm hjs
          obtain ⟨h1, h2, _⟩ := Oper.apart_spec hap
          rw [HB.dst] at h1 h2
          have hsj : ∀ cs b, ov.op ≠ .select cs b := fun cs b => Region.noSelect_spec HB.sel j ov cs b hoj
          obtain ⟨hyw, _⟩ := hall w hw
          have hAe : execOp A.eval ov = execOp a.eval ov ∧ Region.wanted ov (yielded l.toArray A.tmps) = Region.wanted ov (yielded l.toArray a.tmps) := by
            cases hst with
            | none _ _ hA => subst hA; exact ⟨rfl, rfl⟩
            | made b _ _ hA _ _ => subst hA; exact ⟨execOp_put (ops := l.toArray) ov hsj a (some d) _ h1, wanted_put ov a (some d) _ h1⟩
            | done b cs _ _ _ hA _ _ _ => subst hA; exact ⟨execOp_put (ops := l.toArray) ov hsj a (some d) _ h1, wanted_put ov a (some d) _ h1⟩
          have next : ∀ w', Below w.heap.size w w' → wpAny P md l.toArray Q' f (listed.setIfInBounds j true) (A.put ov.dst v) w' := by
            intro w' hb'
            refine ih _ (a.put ov.dst v) _ w' hsz' (by rw [put_size]; exact hd) (hw.trans (hb'.mono hw.size)) (fun X hX => (hall X hX).2) ?_
            cases hst with
            | none hm hs hA => subst hA; exact .none (by rw [getD_set_ne true hjm]; exact hm) (by rw [getD_set_ne true hjs]; exact hs) rfl
            | made b hm hs hA hb hh =>
              subst hA
              exact .made b (getD_set_true hm) (by rw [getD_set_ne true hjs]; exact hs) (Act.put_comm _ _ _ h2) hb ((hb'.block b (cells_lt hh)).trans hh)
            | done b cs hm hs hk hA hb hg hh =>
              subst hA
              have hjk : j ≠ k := fun e => by subst e; rw [getD_both hjun] at hk; cases hk
              exact .done b cs (getD_set_true hm) (getD_set_true hs) (getD_set_true hk) (Act.put_comm _ _ _ h2) hb (by rw [eval_put_ne (HB.de j ov hoj' hjk)]; exact hg) ((hb'.block b (cells_lt hh)).trans hh)
          rw [hAe.2]
          rcases hyw with ⟨hw1, q⟩ | ⟨hw1, rfl⟩
          · rw [hal.wanted] at hw1
            rw [if_pos hw1]
            exact .inl (wp_from_quiet hAe.1 ⟨w, (lat_of (Below.refl _ _)).symm⟩ (q w ⟨w, (lat_of (Below.refl _ _)).symm⟩) fun w' ⟨n, hn⟩ => next w' (by rw [hn]; exact lat_below w n))
          · rw [hal.wanted] at hw1
            rw [if_neg (by rw [hw1]; exact Bool.false_ne_true)]
            exact next w (Below.refl _ _)

/-- the region, by one walk of its operations with the allocation and the store made idle -/
theorem region_float {id : Nat} {Q : Exit → Act → World → Prop} {a : Act} {w : World} (m s k : Nat) (d e : Tmp) {Qf : Act → Prop} {om os : Oper} (hm : l[m]? = some om) (hs : l[s]? = some os)
    (hmix : P.follows .mixedOrders = true) (hB : floatsB .any l m s k d e = true) (hL : Region.lexB .any (idle (idle l m) s).toArray = true) (hd : d < a.tmps.size)
    {Z : Array Value} {T : TypeId} {Good : Value → Array Value → Prop}
    (hAl : ∀ (A : Act) (w : World), (execOp A.eval om).run P w = .ok (.value (.pointer (some ⟨w.heap.size, 0, none⟩))) (w.alloc (.cells Z T)))
    (hSt : ∀ (A : Act) (w : World) (b : Nat) (cs : Array Value), A.eval (.tmp d) = .pointer (some ⟨b, 0, none⟩) → Good (A.eval (.tmp e)) cs → w.heap[b]? = some (.cells Z T (0, 0)) →
      ∃ w', (execOp A.eval os).run P w = .ok .skip w' ∧ w'.heap[b]? = some (.cells cs T (0, 0)) ∧ Below b w w')
    (hG : ∀ a', Qf a' → ∃ cs, Good (a'.eval (.tmp e)) cs)
    (hW : ∀ X, Below w.heap.size w X → wpQuiet P (idle (idle l m) s).toArray (fun w' => ∃ n, w' = lat X n) Qf (idle (idle l m) s) a)
    (hQ : ∀ a' w' b cs, Qf a' → Below w.heap.size w w' → w.heap.size ≤ b → Good (a'.eval (.tmp e)) cs → w'.heap[b]? = some (.cells cs T (0, 0)) → Q .normal (a'.put (some d) (.pointer (some ⟨b, 0, none⟩))) w') :
    (Code.region id l.toArray true).wp P Q a w := by
  have HB := floats_of hm hs hB
  simp only [Region.lexB, Bool.and_eq_true] at hL
  have hlen : (idle (idle l m) s).length = l.length := by rw [idle_len, idle_len]
  refine wp_region_any hmix ?_
  have hml : m < l.length := (List.getElem?_eq_some_iff.1 hm).1
  have hsl : s < l.length := (List.getElem?_eq_some_iff.1 hs).1
  refine float_any (wr := w) HB hAl hSt hG hQ _ _ a a _ (by simp) hd ⟨rfl, rfl, rfl, Nat.le_refl _, fun _ _ => rfl⟩ (fun X hX => ?_) (.none (by simp [hml]) (by simp [hsl]) rfl)
  have := wpAnyQ_lex (P := P) (C := fun w' => ∃ n, w' = lat X n) (md := .any) hL.1 (idle (idle l m) s) 0 (Array.replicate (idle (idle l m) s).toArray.size false) a (by simp) (by simpa using hL.2) (hW X hX)
  simpa [hlen] using this
end
end Go.Proofs.Ytfmgkinindkedaa
