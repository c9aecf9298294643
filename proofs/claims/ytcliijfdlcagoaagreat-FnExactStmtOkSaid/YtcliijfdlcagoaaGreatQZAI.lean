/- Joined texts: Stk LatTail Det Float VisE. -/
import Derived.Test.YtcliijfdlcagoaaGreatQZAF
import Derived.Test.YtcliijfdlcagoaaGreatQZAH
import Derived.Test.YtcliijfdlcagoaaGreatQHFoldS
import Derived.Test.YtcliijfdlcagoaaGreatQZAE
import Derived.WalkSmall
import Derived.OwnWalkIn
import Derived.StillTail
import Derived.WalkKit
import Derived.Below
import Derived.BigQuiet
import Derived.TacticsInMore
import Derived.LoopIn
import Derived.Lib.Hide
import Derived.Laws.CopyRow
namespace Go.Proofs.YtcliijfdlcagoaaGreat
set_option linter.unusedVariables false
set_option linter.unusedSimpArgs false
open Go.RowKit
def OutK (tys : List Ty) (w0 : World) (C : List Value) (L : List Nd) : Prop :=
  C.length = L.length * tys.length ∧ ∀ i c, L[i]? = some c → ∀ j (h : j < tys.length), ∃ y, C[i * tys.length + j]? = some y ∧ Rd w0 0 y (c j) ∧ Fits (c j) tys[j]
theorem OutK.nil (tys : List Ty) (w0 : World) : OutK tys w0 [] [] := ⟨by simp, fun i c h => by simp at h⟩
theorem mul_lt_of {i n k j : Nat} (hi : i < n) (hj : j < k) : i * k + j < n * k := by
  have : (i + 1) * k ≤ n * k := Nat.mul_le_mul_right k hi
  rw [Nat.add_mul, Nat.one_mul] at this
  omega
theorem OutK.append {tys : List Ty} {w0 : World} {C C' : List Value} {L L' : List Nd} (h : OutK tys w0 C L) (h' : OutK tys w0 C' L') : OutK tys w0 (C ++ C') (L ++ L') := by
  refine ⟨by rw [List.length_append, List.length_append, h.1, h'.1, Nat.add_mul], fun i c hc j hj => ?_⟩
  by_cases e : i < L.length
  · rw [List.getElem?_append_left e] at hc
    obtain ⟨y, hy, hr⟩ := h.2 i c hc j hj
    exact ⟨y, by rw [List.getElem?_append_left (by rw [h.1]; exact mul_lt_of e hj)]; exact hy, hr⟩
  · rw [List.getElem?_append_right (by omega)] at hc
    obtain ⟨y, hy, hr⟩ := h'.2 _ c hc j hj
    have h1 : L.length * tys.length ≤ i * tys.length := Nat.mul_le_mul_right _ (by omega)
    refine ⟨y, ?_, hr⟩
    rw [List.getElem?_append_right (by rw [h.1]; omega), h.1, show i * tys.length + j - L.length * tys.length = (i - L.length) * tys.length + j by rw [Nat.mul_sub_right_distrib]; omega]
    exact hy
theorem OutK.one {tys : List Ty} {w0 : World} {C : List Value} {c : Nd} (hl : C.length = tys.length) (h : ∀ j (h : j < tys.length), ∃ y, C[j]? = some y ∧ Rd w0 0 y (c j) ∧ Fits (c j) tys[j]) : OutK tys w0 C [c] := by
  refine ⟨by rw [hl]; simp, fun i c' hc j hj => ?_⟩
  obtain rfl : i = 0 := by
    have := (List.getElem?_eq_some_iff.1 hc).1
    simp at this; exact this
  obtain rfl : c = c' := by simpa using hc
  obtain ⟨y, hy, hr⟩ := h j hj
  exact ⟨y, by rw [Nat.zero_mul, Nat.zero_add]; exact hy, hr⟩
theorem OutK.cons {tys : List Ty} {w0 : World} {C : List Value} {c : Nd} {L : List Nd} (h : OutK tys w0 C (c :: L)) : OutK tys w0 (C.take tys.length) [c] ∧ OutK tys w0 (C.drop tys.length) L := by
  have hl : C.length = L.length * tys.length + tys.length := by rw [h.1, List.length_cons, Nat.add_mul, Nat.one_mul]
  refine ⟨OutK.one (by rw [List.length_take]; omega) fun j hj => ?_, by rw [List.length_drop]; omega, fun i c' hc j hj => ?_⟩
  · obtain ⟨y, hy, hr⟩ := h.2 0 c rfl j hj
    rw [Nat.zero_mul, Nat.zero_add] at hy
    exact ⟨y, by rw [List.getElem?_take_of_lt hj]; exact hy, hr⟩
  · obtain ⟨y, hy, hr⟩ := h.2 (i + 1) c' (by simpa using hc) j hj
    refine ⟨y, ?_, hr⟩
    rw [List.getElem?_drop, show tys.length + (i * tys.length + j) = (i + 1) * tys.length + j by rw [Nat.add_mul, Nat.one_mul]; omega]
    exact hy
theorem OutK.cellOf {tys : List Ty} {w0 : World} {C : List Value} {c : Nd} (h : OutK tys w0 C [c]) (j : Nat) (hj : j < tys.length) : ∃ y, C[j]? = some y ∧ Rd w0 0 y (c j) ∧ Fits (c j) tys[j] := by
  obtain ⟨y, hy, hr⟩ := h.2 0 c rfl j hj
  exact ⟨y, by rw [Nat.zero_mul, Nat.zero_add] at hy; exact hy, hr⟩
theorem OutK.ones {tys : List Ty} {w0 : World} {C : List Value} {L : List Nd} (h : OutK tys w0 C L) : ∀ u ∈ C, u.oneCell' = true := fun u hu => by
  obtain ⟨x, hx⟩ := List.getElem?_of_mem hu
  have hlt : x < C.length := (List.getElem?_eq_some_iff.1 hx).1
  have hl := h.1
  by_cases h0 : tys.length = 0
  · rw [h0, Nat.mul_zero] at hl; omega
  · have hi : x / tys.length < L.length := by rw [Nat.div_lt_iff_lt_mul (by omega)]; omega
    obtain ⟨y, hy, hr, hf⟩ := h.2 (x / tys.length) L[x / tys.length] (List.getElem?_eq_getElem hi) (x % tys.length) (Nat.mod_lt _ (by omega))
    rw [show x / tys.length * tys.length + x % tys.length = x from by rw [Nat.mul_comm]; exact Nat.div_add_mod _ _, hx] at hy
    obtain rfl : u = y := by simpa using hy
    exact hr.oneCell hf
def LK (tys : List Ty) (w0 w : World) (G : Nat → Prop) (v : Value) (L : List Nd) : Prop :=
  ∃ a cap C, v = .slice a L.length cap ∧ OutK tys w0 C L ∧ (L = [] ∨ ∃ g o, a = some ⟨g, o, none⟩ ∧ L.length ≤ cap ∧ G g ∧ g < w.heap.size ∧ ∀ j u, C[j]? = some u → w.cell? ⟨g, o + j, none⟩ = some u)
theorem LK.slice {tys : List Ty} {w0 w : World} {G : Nat → Prop} {v : Value} {L : List Nd} (h : LK tys w0 w G v L) : ∃ a cap, v = .slice a L.length cap := by
  obtain ⟨a, cap, _, e, _⟩ := h
  exact ⟨a, cap, e⟩
theorem LK.keep {tys : List Ty} {w0 w w' : World} {G G' : Nat → Prop} {v : Value} {L : List Nd} (h : LK tys w0 w G v L) (hs : w.heap.size ≤ w'.heap.size) (hk : ∀ g, G g → g < w.heap.size → w'.heap[g]? = w.heap[g]?)
    (hG : ∀ g, G g → g < w.heap.size → G' g) : LK tys w0 w' G' v L := by
  obtain ⟨a, cap, C, e, hC, h⟩ := h
  refine ⟨a, cap, C, e, hC, h.imp id ?_⟩
  rintro ⟨g, o, ea, hle, hg, hlt, hc⟩
  exact ⟨g, o, ea, hle, hG g hg hlt, Nat.lt_of_lt_of_le hlt hs, fun j u hj => (World.cell?_of_block (w := w) (a := ⟨g, o + j, none⟩) (hk g hg hlt)).trans (hc j u hj)⟩
theorem LK.later {tys : List Ty} {w0 w w' : World} {G : Nat → Prop} {v : Value} {L : List Nd} (h : LK tys w0 w G v L) (hb : Below w.heap.size w w') : LK tys w0 w' G v L :=
  h.keep hb.size (fun g _ hlt => hb.block g hlt) fun _ h _ => h
theorem LK.head {tys : List Ty} {w0 w : World} {G : Nat → Prop} {v : Value} {c : Nd} {L : List Nd} (h : LK tys w0 w G v (c :: L)) :
    ∃ g o cap ys, v = .slice (some ⟨g, o, none⟩) (L.length + 1) cap ∧ L.length + 1 ≤ cap ∧ OutK tys w0 ys [c] ∧ G g ∧ g < w.heap.size ∧ (∀ j u, ys[j]? = some u → w.cell? ⟨g, o + j, none⟩ = some u) ∧
      ∀ a cap', (L = [] ∨ a = some ⟨g, o + tys.length, none⟩ ∧ L.length ≤ cap') → LK tys w0 w G (.slice a L.length cap') L := by
  obtain ⟨a, cap, C, e, hC, h⟩ := h
  rcases h with h | ⟨g, o, rfl, hle, hg, hlt, hc⟩
  · cases h
  obtain ⟨h1, h2⟩ := hC.cons
  refine ⟨g, o, cap, _, e, hle, h1, hg, hlt, fun j u hj => ?_, fun a cap' ha => ⟨a, cap', _, rfl, h2, ?_⟩⟩
  · have hjl : j < tys.length := by
      have := (List.getElem?_eq_some_iff.1 hj).1
      rw [List.length_take] at this; omega
    rw [List.getElem?_take_of_lt hjl] at hj
    exact hc j u hj
  · refine ha.imp id ?_
    rintro ⟨rfl, hle'⟩
    refine ⟨g, _, rfl, hle', hg, hlt, fun j u hj => ?_⟩
    rw [List.getElem?_drop] at hj
    rw [Nat.add_assoc]
    exact hc _ u hj
theorem Rd.lk {w : World} {n k : Nat} {f : Nat → Nat → Dat} {a : Option Addr} {m cap : Nat} {G : Nat → Prop} (h : Rd w 0 (.slice a m cap) (.sl n k f)) (hf : Fits (.sl n k f) .exprs) (hG : ∀ g, g < w.heap.size → G g) :
    LK exprTy w w G (.slice a m cap) (Dat.sl n k f).els := by
  obtain ⟨rfl, _, C, hC, hcell, hnone⟩ := h.outP hf
  have hlen : (Dat.sl m k f).els.length = m := by simp [Dat.els, Dat.len]
  obtain ⟨a', cap', e, hc, hz, h⟩ := h
  injection e with e1 e2 e3
  subst e1; subst e3
  refine ⟨a, cap, C, by rw [hlen], hC, ?_⟩
  rcases h with rfl | ⟨g, o, rfl, _, hg, _⟩
  · exact .inl rfl
  · refine .inr ⟨g, o, rfl, by rw [hlen]; exact hc, hG g hg, hg, fun j u hj => ?_⟩
    have := hcell _ rfl j u hj
    have hadd : (⟨g, o, none⟩ : Addr).add j = ⟨g, o + j, none⟩ := by unfold Addr.add; split <;> simp_all
    rw [hadd] at this
    exact this
theorem OutE.lk {w0 wr : World} {B : Nat} {v : Value} {L : List Nd} {G : Nat → Prop} (h : OutE w0 wr B v L) (hG : ∀ g, B ≤ g → g < wr.heap.size → G g) : LK exprTy w0 wr G v L := by
  obtain ⟨C, hC, hP⟩ := h
  rcases hC.2 with ⟨e, h0⟩ | ⟨g, cap, cur, e, hg, hrow, hnc, hcm, hsz, hcur⟩
  · exact ⟨none, 0, C, by rw [e, h0], hP, .inl (List.eq_nil_of_length_eq_zero h0)⟩
  · refine ⟨_, cap, C, e, hP, .inr ⟨g, 0, rfl, hnc, hG g hg (Array.getElem?_eq_some_iff.1 hrow).1, (Array.getElem?_eq_some_iff.1 hrow).1, fun j u hj => ?_⟩⟩
    subst e
    have hj' : j < L.length * 10 := by have := (List.getElem?_eq_some_iff.1 hj).1; rw [hP.1] at this; exact this
    have := World.ownsRow.cellAt (w := wr) (base := B) (e := 79) (size := 10) (g := g) (n := L.length) (cap := cap) (xs := C) hC j hj'
    rw [Nat.zero_add, this]; exact hj
structure Ent where
  d : Nat
  v : Value
  L : List Nd
def entCells : List Ent → List Value
  | [] => []
  | e :: r => entCells r ++ [.int .i64 (e.d : Int), e.v]
theorem entCells_len : ∀ S : List Ent, (entCells S).length = S.length * 2
  | [] => rfl
  | e :: r => by unfold entCells; rw [List.length_append, entCells_len r, List.length_cons]; simp; omega
def left (pre : Nat → Nd → List (Nat × Nd)) (S : List Ent) : List (Nat × Nd) := S.flatMap fun e => e.L.flatMap (pre e.d)
theorem ent_cells {w : World} {B T g cap : Nat} {e : Ent} {r : List Ent} (h : w.ownsRow B T 2 (.slice (some ⟨g, 0, none⟩) (r.length + 1) cap) (r.length + 1) (entCells (e :: r))) :
    w.cell? ⟨g, r.length * 2, none⟩ = some (.int .i64 (e.d : Int)) ∧ w.cell? ⟨g, r.length * 2 + 1, none⟩ = some e.v ∧ w.frozen? ⟨g, r.length * 2 + 1, none⟩ = false := by
  have hl := entCells_len r
  refine ⟨?_, ?_, h.frozenAt _⟩
  · rw [h.cellAt _ (by omega)]
    show (entCells r ++ _)[r.length * 2]? = _
    rw [List.getElem?_append_right (by omega), hl, Nat.sub_self]; rfl
  · rw [h.cellAt _ (by omega)]
    show (entCells r ++ _)[r.length * 2 + 1]? = _
    rw [List.getElem?_append_right (by omega), hl, show r.length * 2 + 1 - r.length * 2 = 1 by omega]; rfl
theorem ent_pop {w : World} {B T g cap : Nat} {e : Ent} {r : List Ent} (h : w.ownsRow B T 2 (.slice (some ⟨g, 0, none⟩) (r.length + 1) cap) (r.length + 1) (entCells (e :: r))) :
    w.ownsRow B T 2 (.slice (some ⟨g, 0, none⟩) r.length cap) r.length (entCells r) := ownsRow_pop (entCells_len r) h
theorem ent_set {w : World} {B T g cap : Nat} {e : Ent} {r : List Ent} (h : w.ownsRow B T 2 (.slice (some ⟨g, 0, none⟩) (r.length + 1) cap) (r.length + 1) (entCells (e :: r))) (v' : Value) (L' : List Nd) :
    (w.setCell ⟨g, r.length * 2 + 1, none⟩ v').ownsRow B T 2 (.slice (some ⟨g, 0, none⟩) (r.length + 1) cap) (r.length + 1) (entCells (⟨e.d, v', L'⟩ :: r)) := by
  have h1 := (h.stored (r.length * 2 + 1) v').1
  have hl := entCells_len r
  have e1 : (entCells (e :: r)).set (r.length * 2 + 1) v' = entCells (⟨e.d, v', L'⟩ :: r) := by
    show (entCells r ++ [_, _]).set _ _ = entCells r ++ _
    rw [List.set_append_right _ _ (by omega), hl, show r.length * 2 + 1 - r.length * 2 = 1 by omega]; rfl
  rw [e1] at h1
  exact h1
theorem ownsRow_facts {w : World} {B T sz g n cap : Nat} {xs : List Value} (h : w.ownsRow B T sz (.slice (some ⟨g, 0, none⟩) n cap) n xs) : n ≤ cap ∧ B ≤ g ∧ g < w.heap.size := by
  rcases h.2 with ⟨e, _⟩ | ⟨g', cap', cur, e, hg, hrow, hnc, _⟩
  · cases e
  · cases e
    exact ⟨hnc, hg, (Array.getElem?_eq_some_iff.1 hrow).1⟩
theorem ownsRow_same {w w' : World} {B T sz g n cap : Nat} {xs : List Value} (h : w.ownsRow B T sz (.slice (some ⟨g, 0, none⟩) n cap) n xs) (hs : w'.heap[g]? = w.heap[g]?) : w'.ownsRow B T sz (.slice (some ⟨g, 0, none⟩) n cap) n xs := by
  refine ⟨h.1, h.2.imp id ?_⟩
  rintro ⟨g', cap', cur, e, hg, hrow, hr⟩
  cases e
  exact ⟨g, cap, cur, rfl, hg, hs.trans hrow, hr⟩
theorem wpListIn_append_own_at {F : Fence} {n : Nat} {P : Program} (w : World) {ops : Array Oper} {rest : List Oper} {o : Oper} {a : Act} {Q : Exit → Act → World → Prop}
    (hg : o.guard = none) (s x : Operand) (t : TypeId) (hop : o.op = Op.call { callee := Callee.builtin Builtin.append, args := #[s, x], argTypes := #[t, t] })
    (base : Nat) (e : TypeId) (i : TypeInfo) (z : Value) (size bytes : Nat) (h1 : P.underlying t = some (.slice e)) (h2 : P.info? e = some i) (h3 : i.zero = some z) (h4 : i.size = size) (h5 : i.bytes = bytes) (h6 : z.cells.size = size) (h7 : 0 < size)
    (v : Value) (k : Nat) (xs : List Value) (hs : a.eval s = v) (hown : w.ownsRow base e size v k xs) (ad : Addr) (m c : Nat) (news : List Value) (hx : a.eval x = .slice (some ad) m c) (hn : news.length = m * size)
    (hc : ∀ j u, news[j]? = some u → w.cell? (ad.add j) = some u) (h1c : ∀ u ∈ news, u.oneCell' = true) (b1 : k + m ≤ maxLen) (b2 : (k + m) * bytes ≤ 140737488355328) (b3 : base ≤ w.heap.size)
    (hK : ∀ v' w', w'.ownsRow base e size v' (k + m) (xs ++ news) → w.grownBy w' v.ownBlock → (v'.ownBlock = v.ownBlock ∨ v'.ownBlock = some w.heap.size) → wpListIn F n P ops Q rest (a.put o.dst v') w') :
    wpListIn F n P ops Q (o :: rest) a w := by
  refine wpListIn_plain hg fun K hK' => ?_
  obtain ⟨v', w', hrun, r1, r2, _, r3⟩ := run_append_own_at (P := P) w base t o.type e i z size bytes h1 h2 h3 h4 h5 h6 h7 v k xs hown ad m c news hn hc h1c b1 b2 b3
  unfold Oper.wpIn
  refine ⟨?_, ?_⟩
  · simp [Oper.about, hop, resolve, Target.leads, Sem.run_pure]
  · rw [Oper.semAt_plain F _ _ (by rw [hop]; intro c hc'; cases hc')]
    simp [execOp, hop, resolve, invoke, builtin, hs, hx, hrun, Result.andThen]
    exact hK' _ _ (hK v' w' r1 r2 r3)
theorem has_least {R : Nat → Prop} : ∀ {n : Nat}, R n → ∃ m, R m ∧ ∀ k, R k → m ≤ k := fun {n} => by
  induction n using Nat.strongRecOn with
  | _ n ih =>
    intro h
    by_cases e : ∃ k, k < n ∧ R k
    · obtain ⟨k, hk, hr⟩ := e
      exact ih k hk hr
    · exact ⟨n, h, fun k hk => Nat.le_of_not_lt fun hlt => e ⟨k, hlt, hk⟩⟩
open Classical in
noncomputable def least (R : Nat → Prop) : Nat := if h : ∃ m, R m ∧ ∀ k, R k → m ≤ k then Classical.choose h else 0
theorem least_le {R : Nat → Prop} {n : Nat} (h : R n) : least R ≤ n := by
  unfold least
  rw [dif_pos (has_least h)]
  exact (Classical.choose_spec (has_least h)).2 n h
theorem least_is {R : Nat → Prop} {n : Nat} (h : R n) : R (least R) := by
  unfold least
  rw [dif_pos (has_least h)]
  exact (Classical.choose_spec (has_least h)).1
section
variable {P : Program} {md : Region.Mode} {l : List Oper} {n : Nat}
def backB (md : Region.Mode) (l : List Oper) (n i : Nat) : Bool :=
  match l[i]? with
  | none => false
  | some o => (o.after.all fun e => !Region.binds md e || decide (e.on < i)) && (match o.guard with
    | none => true
    | some g => decide (g.1 < n))
def cutB (md : Region.Mode) (l : List Oper) (n : Nat) : Bool :=
  (decide (n < l.length) && ((List.range n).all fun i => backB md l n i)) &&
  ((Region.noSelect (l.take n).toArray && Region.lexFrom md (l.take n).toArray n 0 (Array.replicate l.length false)) &&
  ((Region.sinkB md l.toArray n && Region.chainB md l.toArray n) && Region.seqB md l.toArray (l.length - n) n (Array.replicate n true ++ Array.replicate (l.length - n) false)))
theorem head_get {i : Nat} (hi : i < n) : (l.take n).toArray[i]? = l.toArray[i]? := by
  simp [List.getElem?_take, hi]
theorem head_of {i : Nat} {o : Oper} (h : (l.take n).toArray[i]? = some o) : i < n := by
  have h2 := (Array.getElem?_eq_some_iff.1 h).1
  simp at h2
  omega
theorem ready_up {i : Nat} {listed : Array Bool} (h : i ∈ Region.ready md (l.take n).toArray listed) : i < n ∧ i ∈ Region.ready md l.toArray listed := by
  obtain ⟨h1, o, ho, ha⟩ := mem_ready.1 h
  have hi := head_of ho
  exact ⟨hi, mem_ready.2 ⟨h1, o, (head_get hi).symm.trans ho, ha⟩⟩
theorem ready_down {i : Nat} {listed : Array Bool} (hi : i < n) (h : i ∈ Region.ready md l.toArray listed) : i ∈ Region.ready md (l.take n).toArray listed := by
  obtain ⟨h1, o, ho, ha⟩ := mem_ready.1 h
  exact mem_ready.2 ⟨h1, o, (head_get hi).trans ho, ha⟩
theorem yielded_head {i : Nat} (hi : i < n) (ts : Array Value) : yielded (l.take n).toArray ts i = yielded l.toArray ts i := by
  unfold yielded
  rw [head_get hi]
theorem all_listed {listed : Array Bool} (hs : listed.size = l.length) (hn : n < l.length) (hb : ∀ i, i < n → backB md l n i = true) (h : Region.ready md (l.take n).toArray listed = []) :
    ∀ i, i < n → listed.getD i true = true := by
  intro i
  induction i using Nat.strongRecOn with
  | _ i ih =>
    intro hi
    cases hl : listed.getD i true
    · exfalso
      have h1 := hb i hi
      unfold backB at h1
      have hil : i < l.length := by omega
      rw [List.getElem?_eq_getElem hil] at h1
      rw [Bool.and_eq_true] at h1
      have hm : i ∈ Region.ready md (l.take n).toArray listed := by
        refine mem_ready.2 ⟨hl, l[i], ?_, fun e he hbd => ?_⟩
        · rw [head_get hi]; simp [hil]
        · have h2 := Array.all_eq_true_iff_forall_mem.1 h1.1 e he
          rw [hbd] at h2
          have h3 : e.on < i := by simpa using h2
          have h4 := ih e.on h3 (by omega)
          have h5 : e.on < listed.size := by rw [hs]; omega
          simpa [h5] using h4
      rw [h] at hm
      cases hm
    · rfl
theorem any_seq {Q' : Exit → Act → World → Prop} (x : Nat) : ∀ (t : List Oper) (k : Nat) (listed : Array Bool) (a : Act) (w : World), (∀ j, t[j]? = l.toArray[k + j]?) →
    Region.seqB md l.toArray t.length k listed = true → wpList P l.toArray Q' t a w → wpAny P md l.toArray Q' (t.length + x) listed a w
  | [], k, listed, a, w, _, hB, h => by
    have hr : Region.ready md l.toArray listed = [] := by simpa [Region.seqB] using hB
    cases x with
    | zero => exact ⟨hr, h⟩
    | succ x => exact ⟨fun _ => h, fun i hi => by rw [hr] at hi; cases hi⟩
  | o :: t, k, listed, a, w, hl, hB, h => by
    have h0 : l.toArray[k]? = some o := by simpa using (hl 0).symm
    simp only [List.length_cons, Region.seqB, Bool.and_eq_true, decide_eq_true_eq] at hB
    rw [show (o :: t).length + x = (t.length + x) + 1 by simp only [List.length_cons]; omega]
    refine ⟨fun h1 => (by rw [hB.1] at h1; cases h1), fun i hi => ?_⟩
    rw [hB.1] at hi
    obtain rfl : i = k := by simpa using hi
    have hw : wpOp P l.toArray Q' i (wpList P l.toArray Q' t) a w := by unfold wpOp; simp only [h0]; exact h
    exact wpOp_mono (fun a' w' h' => any_seq x t (i + 1) _ a' w' (fun j => by have := hl (j + 1); simpa [Nat.add_assoc, Nat.add_comm 1 j] using this) hB.2 h') hw
theorem cut_any {C : World → Prop} {Q' : Exit → Act → World → Prop} (hn : n < l.length) (hb : ∀ i, i < n → backB md l n i = true) (hs : Region.sinkB md l.toArray n = true) (hc : Region.chainB md l.toArray n = true)
    (hq : Region.seqB md l.toArray (l.length - n) n (Array.replicate n true ++ Array.replicate (l.length - n) false) = true) :
    ∀ (f : Nat) (listed : Array Bool) (a : Act) (w : World), HeadInv md l.toArray n listed → C w →
      wpAnyQ P md (l.take n).toArray C (fun a' => ∀ w', C w' → wpList P l.toArray Q' (l.drop n) a' w') f listed a → wpAny P md l.toArray Q' (f + (l.length - n)) listed a w := by
  have fin : ∀ (x : Nat) (listed : Array Bool) (a : Act) (w : World), HeadInv md l.toArray n listed → Region.ready md (l.take n).toArray listed = [] → wpList P l.toArray Q' (l.drop n) a w →
      wpAny P md l.toArray Q' (x + (l.length - n)) listed a w := by
    intro x listed a w inv hr h
    have hsz : listed.size = l.length := by rw [inv.size]; simp
    have hall := all_listed hsz hn hb hr
    have e : listed = Array.replicate n true ++ Array.replicate (l.length - n) false := by
      apply Array.ext
      · simp; omega
      · intro i h1 h2
        by_cases hi : i < n
        · have := hall i hi
          simp [h1] at this
          simp [Array.getElem_append, hi, this]
        · have := inv.tail i (by omega) (by simpa using (by omega : i < l.length))
          simp [h1] at this
          simp [Array.getElem_append, hi, this]
    have hd : (l.drop n).length = l.length - n := by simp
    have := any_seq (P := P) (md := md) (Q' := Q') x (l.drop n) n listed a w (fun j => by simp [List.getElem?_drop]) (by rw [hd, e]; exact hq) h
    rw [hd] at this
    rw [Nat.add_comm]
    exact this
  intro f
  induction f with
  | zero => intro listed a w inv hw h; exact fin 0 listed a w inv h.1 (h.2 w hw)
  | succ f ih =>
    intro listed a w inv hw h
    by_cases hr : Region.ready md (l.take n).toArray listed = []
    · exact fin (f + 1) listed a w inv hr (h.1 hr w hw)
    · obtain ⟨i, hi⟩ := List.exists_mem_of_ne_nil _ hr
      obtain ⟨hin, hi2⟩ := ready_up hi
      rw [show f + 1 + (l.length - n) = (f + (l.length - n)) + 1 by omega]
      refine ⟨fun h0 => (by rw [h0] at hi2; cases hi2), fun j hj => ?_⟩
      have hjn : j < n := by
        rcases Nat.lt_or_ge j n with h1 | h1
        · exact h1
        · exact absurd hj (tail_waits hs hc (by simpa using hn) inv _ i rfl hin (mem_ready.1 hi2).1 j h1)
      have hq2 := h.2 j (ready_down hjn hj)
      obtain ⟨_, o, ho, _⟩ := mem_ready.1 hj
      have hwt : Region.wanted o (yielded (l.take n).toArray a.tmps) = Region.wanted o (yielded l.toArray a.tmps) := by
        have h1 := hb j hjn
        have ho' : l[j]? = some o := by simpa using ho
        unfold backB at h1
        rw [ho', Bool.and_eq_true] at h1
        unfold Region.wanted
        cases hg : o.guard with
        | none => rfl
        | some g =>
          have h2 := h1.2
          rw [hg] at h2
          have h3 : g.1 < n := by simpa using h2
          simp only [yielded_head h3]
      unfold qOp at hq2
      rw [head_get hjn, ho] at hq2
      simp only [hwt] at hq2
      unfold wpOp
      rw [ho]
      simp only []
      split
      · rename_i hwd
        rw [if_pos hwd] at hq2
        exact .inl (Oper.wp_of_quiet hw (fun a' w' hw' hK => ih _ a' w' (inv.set hj hjn) hw' hK) hq2)
      · rename_i hwd
        rw [if_neg hwd] at hq2
        exact ih _ _ w (inv.set hj hjn) hw hq2
theorem region_lat_tail {id : Nat} {Q : Exit → Act → World → Prop} {a : Act} {w : World} (n : Nat) (hm : P.follows .mixedOrders = true) (hB : cutB .any l n = true)
    (h : wpQuiet P (l.take n).toArray (fun w' => ∃ m, w' = lat w m) (fun a' => ∀ w', (∃ m, w' = lat w m) → wpList P l.toArray Q (l.drop n) a' w') (l.take n) a) : (Code.region id l.toArray true).wp P Q a w := by
  simp only [cutB, Bool.and_eq_true, decide_eq_true_eq] at hB
  obtain ⟨⟨hn, hb⟩, ⟨hsel, hlex⟩, ⟨hs, hc⟩, hq⟩ := hB
  have hb' : ∀ i, i < n → backB .any l n i = true := fun i hi => List.all_eq_true.1 hb i (List.mem_range.2 hi)
  have htl : (l.take n).length = n := by simp; omega
  have inv0 : HeadInv .any l.toArray n (Array.replicate l.toArray.size false) :=
    ⟨by simp, fun j oj _ hl => (by rw [getD_replicate_false] at hl; cases hl), fun t _ ht => getD_in (by simpa using ht) (getD_replicate_false _ _)⟩
  have hw0 : ∃ m, ({ w with drawn := w.drawn + 1 } : World) = lat w m :=
    ⟨{ w with drawn := w.drawn + 1 }, (lat_of (wr := w) (w := { w with drawn := w.drawn + 1 }) ⟨rfl, rfl, rfl, Nat.le_refl _, fun _ _ => rfl⟩).symm⟩
  have H := wpAnyQ_lex (C := fun w' => ∃ m, w' = lat w m) (md := .any) (ops := (l.take n).toArray) hsel (l.take n) 0 (Array.replicate l.length false) a (by simp) (by rw [htl]; exact hlex) h
  rw [htl] at H
  refine wp_region_any hm ?_
  have := cut_any (P := P) (md := .any) (C := fun w' => ∃ m, w' = lat w m) (Q' := Q) hn hb' hs hc hq n (Array.replicate l.length false) a _ (by simpa using inv0) hw0 H
  rw [show n + (l.length - n) = l.toArray.size by simp; omega] at this
  simpa using this
end
def wall : Frame := { Frame.enter default 0 #[] .normal with todo := [.code (.refuse default)], mode := .run }
theorem wall_ends (P : Program) (v : Value) (w : World) : ∃ o, step P (lone (wall.finish v) [] w) = .ended o w :=
  ⟨_, step_lone_ended (by simp [wall, Frame.finish, stepG, stepG.exec]; rfl)⟩
theorem Calls.one_value {P : Program} {f : FuncId} {args : Array Value} {w : World} {v v' : Value} {A B : World → Prop}
    (h : Calls P f args w fun e w' => e = .returned v ∧ A w') (h' : Calls P f args w fun e w' => e = .returned v' ∧ B w') : v = v' := by
  obtain ⟨e, w1, fr, ⟨rfl, _⟩, ⟨n, hn⟩, _, hl⟩ := h [wall]
  obtain ⟨e, w2, fr', ⟨rfl, _⟩, ⟨n', hn'⟩, _, hl'⟩ := h' [wall]
  have s1 := step_leave_returned (c := wall) (cs := []) hl
  have s2 := step_leave_returned (c := wall) (cs := []) hl'
  obtain ⟨o, ho⟩ := wall_ends P v w1
  obtain ⟨o', ho'⟩ := wall_ends P v' w2
  have key : ∀ (n n' : Nat) (fr fr' : Frame) (w1 w2 : World) (v : Value) (o : Outcome) (m : Machine), runN P n m = .next (lone fr [wall] w1) → runN P n' m = .next (lone fr' [wall] w2) →
      step P (lone fr [wall] w1) = .next (lone (wall.finish v) [] w1) → step P (lone (wall.finish v) [] w1) = .ended o w1 → ¬ n < n' := by
    intro n n' fr fr' w1 w2 v o m hn hn' s1 ho hlt
    obtain ⟨d, rfl⟩ : ∃ d, n' = n + (d + 1) := ⟨n' - n - 1, by omega⟩
    rw [runN_add, hn] at hn'
    cases d with
    | zero =>
      have h3 : Stepped.next (lone (wall.finish v) [] w1) = .next (lone fr' [wall] w2) := by rw [← hn']; simp [runN, s1]
      injection h3 with e1
      have := congrArg (fun g : Machine => (g.gs.map fun x => x.callers)) e1
      simp [lone] at this
    | succ d =>
      simp [runN, s1, ho] at hn'
  have e : n = n' := by
    rcases Nat.lt_trichotomy n n' with h | h | h
    · exact absurd h (key n n' fr fr' w1 w2 v o _ hn hn' s1 ho)
    · exact h
    · exact absurd h (key n' n fr' fr w2 w1 v' o' _ hn' hn s2 ho')
  subst e
  rw [hn] at hn'
  injection hn' with e1
  have hw : w1 = w2 := congrArg (fun m : Machine => m.world) e1
  have hf : fr = fr' := by
    have := congrArg (fun g : Machine => (g.gs.map fun x => x.frame)) e1
    simpa [lone] using this
  subst hw
  subst hf
  obtain ⟨_, _, _, fn, hfn, hr⟩ := hl
  obtain ⟨_, _, _, fn', hfn', hr'⟩ := hl'
  rw [hfn] at hfn'
  injection hfn' with e2
  subst e2
  rw [hr] at hr'
  injection hr'
theorem quiet_one {P : Program} {o : Oper} {a : Act} {C D : World → Prop} {w : World} {v v' : Value} (h : o.quietAt P a C w v) (h' : o.quietAt P a D w v') : v = v' := by
  unfold Oper.quietAt at h h'
  generalize (execOp a.eval o).run P w = r at h h'
  cases r with
  | ok n w' =>
    cases n <;> simp only [Oper.quietUpon] at h h'
    case value u => exact h.2.symm.trans h'.2
    case skip => exact h.2.trans h'.2.symm
    case enter f args => exact Calls.one_value h.2 h'.2
  | halt x w' => simp only [Oper.quietUpon] at h
def idle : List Oper → Nat → List Oper
  | [], _ => []
  | o :: l, 0 => { o with op := .assign (.const undef) } :: l
  | o :: l, n + 1 => o :: idle l n
theorem idle_at : ∀ (l : List Oper) (m : Nat), (idle l m)[m]? = (l[m]?).map fun o => { o with op := .assign (.const undef) }
  | [], m => by simp [idle]
  | o :: l, 0 => by simp [idle]
  | o :: l, m + 1 => by simp [idle, idle_at l m]
theorem idle_ne : ∀ (l : List Oper) (m j : Nat), j ≠ m → (idle l m)[j]? = l[j]?
  | [], m, j, _ => by simp [idle]
  | o :: l, 0, 0, h => absurd rfl h
  | o :: l, 0, j + 1, _ => by simp [idle]
  | o :: l, m + 1, 0, _ => by simp [idle]
  | o :: l, m + 1, j + 1, h => by simp [idle, idle_ne l m j (by omega)]
theorem idle_same (l : List Oper) (m j : Nat) : ((idle l m)[j]?).map (fun o => (o.dst, o.after, o.guard)) = (l[j]?).map (fun o => (o.dst, o.after, o.guard)) := by
  by_cases h : j = m
  · subst h
    rw [idle_at]
    cases l[j]? <;> rfl
  · rw [idle_ne l m j h]
theorem idle_len : ∀ (l : List Oper) (m : Nat), (idle l m).length = l.length
  | [], _ => rfl
  | _ :: _, 0 => rfl
  | _ :: l, m + 1 => by simp [idle, idle_len l m]
section
variable {P : Program} {md : Region.Mode} {l lv : List Oper}
def Alike (l lv : List Oper) : Prop := ∀ j : Nat, (lv[j]?).map (fun o : Oper => (o.dst, o.after, o.guard)) = (l[j]?).map (fun o : Oper => (o.dst, o.after, o.guard))
theorem Alike.some (h : Alike l lv) {j : Nat} {o : Oper} (ho : l[j]? = some o) : ∃ o', lv[j]? = some o' ∧ o'.dst = o.dst ∧ o'.after = o.after ∧ o'.guard = o.guard := by
  have h1 := h j
  rw [ho] at h1
  cases h2 : lv[j]? with
  | none => rw [h2] at h1; cases h1
  | some o' =>
    rw [h2] at h1
    simp only [Option.map_some, Option.some.injEq, Prod.mk.injEq] at h1
    exact ⟨o', rfl, h1⟩
theorem Alike.symm (h : Alike l lv) : Alike lv l := fun j => (h j).symm
theorem Alike.ready (h : Alike l lv) {i : Nat} {listed : Array Bool} (hi : i ∈ Region.ready md l.toArray listed) : i ∈ Region.ready md lv.toArray listed := by
  obtain ⟨h1, o, ho, ha⟩ := mem_ready.1 hi
  obtain ⟨o', ho', _, e2, _⟩ := h.some (by simpa using ho)
  exact mem_ready.2 ⟨h1, o', by simpa using ho', by rw [e2]; exact ha⟩
theorem Alike.yielded (h : Alike l lv) (ts : Array Value) : yielded lv.toArray ts = yielded l.toArray ts := by
  funext j
  unfold Go.yielded
  have : (lv.toArray[j]?).bind (·.dst) = (l.toArray[j]?).bind (·.dst) := by
    have h1 := h j
    have e1 : lv.toArray[j]? = lv[j]? := by simp
    have e2 : l.toArray[j]? = l[j]? := by simp
    rw [e1, e2]
    cases h2 : lv[j]? <;> cases h3 : l[j]? <;> rw [h2, h3] at h1 <;> simp at h1 ⊢
    exact h1.1
  rw [this]
theorem Alike.wanted (h : Alike l lv) {o : Oper} (ts : Array Value) : Region.wanted o (Go.yielded lv.toArray ts) = Region.wanted o (Go.yielded l.toArray ts) := by rw [h.yielded]
structure Floats (md : Region.Mode) (l : List Oper) (m s k : Nat) (d e : Tmp) (om os : Oper) : Prop where
  hm : l[m]? = some om
  hs : l[s]? = some os
  dst : om.dst = some d
  mg : om.guard = none
  sd : os.dst = none
  sg : os.guard = none
  wm : Region.waitsFor md l.toArray s m = true
  wk : Region.waitsFor md l.toArray s k = true
  ms : m ≠ s
  mnk : m ≠ k
  ap : ∀ j oj, l[j]? = some oj → j ≠ m → j ≠ s → om.apart l.toArray oj = true
  de : ∀ j oj, l[j]? = some oj → j ≠ k → oj.dst ≠ some e
  sel : Region.noSelect l.toArray = true
  back : ∀ i, i < l.length → backB md l l.length i = true
def floatsB (md : Region.Mode) (l : List Oper) (m s k : Nat) (d e : Tmp) : Bool :=
  (match l[m]?, l[s]? with
    | some om, some os => ((om.dst == some d) && om.guard.isNone) && (os.dst.isNone && os.guard.isNone) &&
      ((List.range l.length).all fun j => j == m || j == s || (match l[j]? with
        | some oj => om.apart l.toArray oj
        | none => true))
    | _, _ => false) &&
  ((Region.waitsFor md l.toArray s m && Region.waitsFor md l.toArray s k) && (m != s && m != k)) &&
  (((List.range l.length).all fun j => j == k || (match l[j]? with
    | some oj => oj.dst != some e
    | none => true)) && (Region.noSelect l.toArray && (List.range l.length).all fun i => backB md l l.length i))
theorem floats_of {m s k : Nat} {d e : Tmp} {om os : Oper} (hm : l[m]? = some om) (hs : l[s]? = some os) (h : floatsB md l m s k d e = true) : Floats md l m s k d e om os := by
  unfold floatsB at h
  rw [hm, hs] at h
  simp only [Bool.and_eq_true, Option.isNone_iff_eq_none, beq_iff_eq, bne_iff_ne, ne_eq] at h
  obtain ⟨⟨⟨⟨⟨h1, h2⟩, h3, h4⟩, h5⟩, ⟨h6, h7⟩, h8, h9⟩, h10, h11, h12⟩ := h
  refine ⟨hm, hs, h1, h2, h3, h4, h6, h7, h8, h9, ?_, ?_, h11, fun i hi => List.all_eq_true.1 h12 i (List.mem_range.2 hi)⟩
  · intro j oj hj hjm hjs
    have := List.all_eq_true.1 h5 j (List.mem_range.2 (List.getElem?_eq_some_iff.1 hj).1)
    rw [hj] at this
    simpa [hjm, hjs] using this
  · intro j oj hj hjk
    have := List.all_eq_true.1 h10 j (List.mem_range.2 (List.getElem?_eq_some_iff.1 hj).1)
    rw [hj] at this
    simpa [hjk] using this
theorem listed_whole {listed : Array Bool} (hs : listed.size = l.length) (hb : ∀ i, i < l.length → backB md l l.length i = true) (h : Region.ready md l.toArray listed = []) :
    ∀ i, i < l.length → listed.getD i true = true := by
  intro i
  induction i using Nat.strongRecOn with
  | _ i ih =>
    intro hi
    cases hl : listed.getD i true
    · exfalso
      have h1 := hb i hi
      unfold backB at h1
      rw [List.getElem?_eq_getElem hi, Bool.and_eq_true] at h1
      have hm : i ∈ Region.ready md l.toArray listed := by
        refine mem_ready.2 ⟨hl, l[i], by simp [hi], fun e he hbd => ?_⟩
        have h2 := Array.all_eq_true_iff_forall_mem.1 h1.1 e he
        rw [hbd] at h2
        have h3 : e.on < i := by simpa using h2
        have h4 := ih e.on h3 (by omega)
        have h5 : e.on < listed.size := by rw [hs]; omega
        simpa [h5] using h4
      rw [h] at hm
      cases hm
    · rfl
theorem waits_listed {s m : Nat} {listed : Array Bool} (hw : Region.waitsFor md l.toArray s m = true) (hr : s ∈ Region.ready md l.toArray listed) : listed.getD m false = true := by
  obtain ⟨oj, hoj, x, hx, hb, hon⟩ := Region.waitsFor_spec hw
  obtain ⟨_, o, ho, ha⟩ := mem_ready.1 hr
  obtain rfl : oj = o := Option.some.inj (hoj.symm.trans ho)
  rw [← hon]; exact ha x hx hb
theorem eval_put_ne {a : Act} {x : Option Tmp} {v : Value} {e : Tmp} (h : x ≠ some e) : (a.put x v).eval (.tmp e) = a.eval (.tmp e) :=
  Act.eval_put fun d hd he => h (by rw [hd]; injection he with he; rw [he])
theorem look_end {C : World → Prop} {Qf : Act → Prop} {k : Nat} {e : Tmp} (de : ∀ j oj, lv[j]? = some oj → j ≠ k → oj.dst ≠ some e) :
    ∀ (f : Nat) (listed : Array Bool) (a : Act), wpAnyQ P md lv.toArray C Qf f listed a → listed.getD k false = true → ∃ a', Qf a' ∧ a'.eval (.tmp e) = a.eval (.tmp e)
  | 0, _, a, h, _ => ⟨a, h.2, rfl⟩
  | f + 1, listed, a, h, hk => by
    by_cases hr : Region.ready md lv.toArray listed = []
    · exact ⟨a, h.1 hr, rfl⟩
    · obtain ⟨i, hi⟩ := List.exists_mem_of_ne_nil _ hr
      obtain ⟨h0, o, ho, _⟩ := mem_ready.1 hi
      have hik : i ≠ k := fun e => by
        subst e
        rw [getD_both h0] at hk; cases hk
      obtain ⟨v, _, hK⟩ := yieldsIn_of_qOp ho (h.2 i hi)
      obtain ⟨a', h1, h2⟩ := look_end de f _ _ hK (getD_set_true hk)
      exact ⟨a', h1, h2.trans (eval_put_ne (de i o (by simpa using ho) hik))⟩
theorem wp_from_quiet {o : Oper} {a A : Act} {v : Value} {C : World → Prop} {K : Act → World → Prop} {Q' : Exit → Act → World → Prop} {w : World} (he : execOp A.eval o = execOp a.eval o) (hC : C w)
    (hq : o.quietAt P a C w v) (hK : ∀ w', C w' → K (A.put o.dst v) w') : o.wp P A w K Q' := by
  unfold Oper.quietAt at hq
  unfold Oper.wp
  rw [he]
  generalize (execOp a.eval o).run P w = r at *
  cases r with
  | ok n w' =>
    cases n <;> simp only [Oper.quietUpon] at hq <;> simp only [Oper.upon]
    case value u =>
      obtain ⟨e1, e2⟩ := hq
      rw [e1, e2]; exact hK _ hC
    case skip =>
      obtain ⟨e1, e2⟩ := hq
      rw [e1, ← e2]; exact hK _ hC
    case enter f args =>
      obtain ⟨e1, hc⟩ := hq
      rw [e1]
      exact hc.mono fun e w'' ⟨he, hw''⟩ => by subst he; exact hK _ hw''
  | halt x w' => simp only [Oper.quietUpon] at hq
inductive Stand (wr : World) (m s k : Nat) (d e : Tmp) (Z : Array Value) (T : TypeId) (Good : Value → Array Value → Prop) (listed : Array Bool) (a A : Act) (w : World) : Prop where
  | none (hm : listed.getD m true = false) (hs : listed.getD s true = false) (hA : A = a)
  | made (b : Nat) (hm : listed.getD m false = true) (hs : listed.getD s true = false) (hA : A = a.put (some d) (.pointer (some ⟨b, 0, none⟩))) (hb : wr.heap.size ≤ b) (hh : w.heap[b]? = some (.cells Z T (0, 0)))
  | done (b : Nat) (cs : Array Value) (hm : listed.getD m false = true) (hs : listed.getD s false = true) (hk : listed.getD k false = true) (hA : A = a.put (some d) (.pointer (some ⟨b, 0, none⟩))) (hb : wr.heap.size ≤ b)
      (hg : Good (a.eval (.tmp e)) cs) (hh : w.heap[b]? = some (.cells cs T (0, 0)))
theorem put_size (a : Act) (x : Option Tmp) (v : Value) : (a.put x v).tmps.size = a.tmps.size := by cases x <;> simp [Act.put]
theorem put_twice (a : Act) (d : Tmp) (v u : Value) : (a.put (some d) v).put (some d) u = a.put (some d) u := by simp [Act.put]
theorem put_eval {a : Act} {d : Tmp} {v : Value} (h : d < a.tmps.size) : (a.put (some d) v).eval (.tmp d) = v := by simp [Act.put, Act.eval, h]
theorem cells_lt {w : World} {b : Nat} {o : Obj} (h : w.heap[b]? = some o) : b < w.heap.size := (Array.getElem?_eq_some_iff.1 h).1
theorem float_any {wr : World} {Qf : Act → Prop} {Q' : Exit → Act → World → Prop} {m s k : Nat} {d e : Tmp} {om os : Oper} (HB : Floats md l m s k d e om os)
    {Z : Array Value} {T : TypeId} {Good : Value → Array Value → Prop}
    (hAl : ∀ (A : Act) (w : World), (execOp A.eval om).run P w = .ok (.value (.pointer (some ⟨w.heap.size, 0, none⟩))) (w.alloc (.cells Z T)))
    (hSt : ∀ (A : Act) (w : World) (b : Nat) (cs : Array Value), A.eval (.tmp d) = .pointer (some ⟨b, 0, none⟩) → Good (A.eval (.tmp e)) cs → w.heap[b]? = some (.cells Z T (0, 0)) →
      ∃ w', (execOp A.eval os).run P w = .ok .skip w' ∧ w'.heap[b]? = some (.cells cs T (0, 0)) ∧ Below b w w')
    (hG : ∀ a', Qf a' → ∃ cs, Good (a'.eval (.tmp e)) cs)
    (hQ : ∀ a' w' b cs, Qf a' → Below wr.heap.size wr w' → wr.heap.size ≤ b → Good (a'.eval (.tmp e)) cs → w'.heap[b]? = some (.cells cs T (0, 0)) → Q' .normal (a'.put (some d) (.pointer (some ⟨b, 0, none⟩))) w') :
    ∀ (f : Nat) (listed : Array Bool) (a A : Act) (w : World), listed.size = l.length → d < a.tmps.size → Below wr.heap.size wr w →
      (∀ X, Below wr.heap.size wr X → wpAnyQ P md (idle (idle l m) s).toArray (fun w' => ∃ n, w' = lat X n) Qf f listed a) →
      Stand wr m s k d e Z T Good listed a A w → wpAny P md l.toArray Q' f listed A w := by
  have hal : Alike l (idle (idle l m) s) := fun j => (idle_same (idle l m) s j).trans (idle_same l m j)
  have de' : ∀ j oj, (idle (idle l m) s)[j]? = some oj → j ≠ k → oj.dst ≠ some e := by
    intro j oj hj hjk
    obtain ⟨o', ho', e1, _, _⟩ := hal.symm.some hj
    rw [← e1]
    exact HB.de j o' ho' hjk
  have fin : ∀ (listed : Array Bool) (a A : Act) (w : World), listed.size = l.length → Below wr.heap.size wr w → Region.ready md l.toArray listed = [] → Qf a → Stand wr m s k d e Z T Good listed a A w → Q' .normal A w := by
    intro listed a A w hsz hw hr hq hst
    have hall := listed_whole hsz HB.back hr
    have hml : m < l.length := (List.getElem?_eq_some_iff.1 HB.hm).1
    have hsl : s < l.length := (List.getElem?_eq_some_iff.1 HB.hs).1
    cases hst with
    | none hm _ _ => rw [hall m hml] at hm; cases hm
    | made b _ hs _ _ _ => rw [hall s hsl] at hs; cases hs
    | done b cs _ _ _ hA hb hg hh => rw [hA]; exact hQ a w b cs hq hw hb hg hh
  intro f
  induction f with
  | zero =>
    intro listed a A w hsz _ hw hW hst
    have h0 := hW wr (Below.refl _ _)
    have hr : Region.ready md l.toArray listed = [] := by
      rcases hx : Region.ready md l.toArray listed with _ | ⟨i, r⟩
      · rfl
      · have := hal.ready (i := i) (by rw [hx]; exact List.mem_cons_self)
        rw [h0.1] at this; cases this
    exact ⟨hr, fin listed a A w hsz hw hr h0.2 hst⟩
  | succ f ih =>
    intro listed a A w hsz hd hw hW hst
    have h0 := hW wr (Below.refl _ _)
    refine ⟨fun hr => fin listed a A w hsz hw hr (h0.1 ?_) hst, fun j hj => ?_⟩
    · rcases hx : Region.ready md (idle (idle l m) s).toArray listed with _ | ⟨i, r⟩
      · rfl
      · have := hal.symm.ready (i := i) (by rw [hx]; exact List.mem_cons_self)
        rw [hr] at this; cases this
    · obtain ⟨hjun, oj, hoj, _⟩ := mem_ready.1 hj
      have hoj' : l[j]? = some oj := by simpa using hoj
      have hjv := hal.ready hj
      obtain ⟨ov, hov, edst, _, eguard⟩ := hal.some hoj'
      have hov' : (idle (idle l m) s).toArray[j]? = some ov := by simpa using hov
      have hsz' : (listed.setIfInBounds j true).size = l.length := by simpa using hsz
      obtain ⟨v, hy, _⟩ := yieldsIn_of_qOp hov' (h0.2 j hjv)
      have hall : ∀ X, Below wr.heap.size wr X → YieldsIn P (idle (idle l m) s).toArray (fun w' => ∃ n, w' = lat X n) ov v a ∧
          wpAnyQ P md (idle (idle l m) s).toArray (fun w' => ∃ n, w' = lat X n) Qf f (listed.setIfInBounds j true) (a.put ov.dst v) := by
        intro X hX
        obtain ⟨v', hy', hK'⟩ := yieldsIn_of_qOp hov' ((hW X hX).2 j hjv)
        have e1 : v' = v := by
          rcases hy with ⟨hw1, q1⟩ | ⟨hw1, rfl⟩ <;> rcases hy' with ⟨hw2, q2⟩ | ⟨hw2, rfl⟩
          · exact quiet_one (q2 X ⟨X, (lat_of (Below.refl _ _)).symm⟩) (q1 X ⟨X, (lat_of hX).symm⟩)
          · rw [hw1] at hw2; cases hw2
          · rw [hw1] at hw2; cases hw2
          · rfl
        subst e1
        exact ⟨hy', hK'⟩
      unfold wpOp
      rw [hoj]
      simp only []
      by_cases hjm : j = m
      · -- the allocation
        subst hjm
        obtain rfl : oj = om := Option.some.inj (hoj'.symm.trans HB.hm)
        have hwd : Region.wanted oj (yielded l.toArray A.tmps) = true := by unfold Region.wanted; rw [HB.mg]
        rw [if_pos hwd]
        refine .inl ?_
        unfold Oper.wp
        rw [hAl A w]
        simp only [Oper.upon]
        cases hst with
        | made b hm _ _ _ _ => rw [getD_both hjun] at hm; cases hm
        | done b cs hm _ _ _ _ _ _ => rw [getD_both hjun] at hm; cases hm
        | none hm hs hA =>
          subst hA
          refine ih _ (A.put ov.dst v) _ _ hsz' (by rw [put_size]; exact hd) (hw.alloc hw.size _) (fun X hX => (hall X hX).2) (Stand.made w.heap.size ?_ ?_ ?_ hw.size (heap_alloc_new w _))
          · have : j < listed.size := by rw [hsz]; exact (List.getElem?_eq_some_iff.1 hoj').1
            simp [this]
          · rw [getD_set_ne true HB.ms]; exact hs
          · rw [edst, HB.dst, put_twice]
      · by_cases hjs : j = s
        · -- the store
          subst hjs
          obtain rfl : oj = os := Option.some.inj (hoj'.symm.trans HB.hs)
          have hwd : Region.wanted oj (yielded l.toArray A.tmps) = true := by unfold Region.wanted; rw [HB.sg]
          rw [if_pos hwd]
          have hlm := waits_listed HB.wm hj
          have hlk := waits_listed HB.wk hj
          cases hst with
          | none hm _ _ => rw [getD_both hm] at hlm; cases hlm
          | done b cs _ hs _ _ _ _ _ => rw [getD_both hjun] at hs; cases hs
          | made b hm hs hA hb hh =>
            obtain ⟨a', hq', he'⟩ := look_end de' _ _ _ h0 hlk
            obtain ⟨cs, hg⟩ := hG a' hq'
            rw [he'] at hg
            have hne : (some d : Option Tmp) ≠ some e := by
              have h1 := HB.de m om HB.hm HB.mnk
              rw [HB.dst] at h1; exact h1
            obtain ⟨w', hrun, hh', hbw⟩ := hSt A w b cs (by rw [hA]; exact put_eval hd) (by rw [hA, eval_put_ne hne]; exact hg) hh
            refine .inl ?_
            unfold Oper.wp
            rw [hrun]
            simp only [Oper.upon]
            rw [HB.sd]
            refine ih _ a A w' hsz' hd (hw.trans (hbw.mono hb)) (fun X hX => ?_) (Stand.done b cs (getD_set_true hm) ?_ (getD_set_true hlk) hA hb hg hh')
            · have := (hall X hX).2
              rw [edst, HB.sd] at this
              exact this
            · have : j < listed.size := by rw [hsz]; exact (List.getElem?_eq_some_iff.1 hoj').1
              simp [this]
        · -- any other
          obtain rfl : ov = oj := by
            rw [idle_ne _ _ _ hjs, idle_ne _ _ _ hjm] at hov
            exact Option.some.inj (hov.symm.trans hoj')
          have hap := HB.ap j ov hoj' hjm hjs
          obtain ⟨h1, h2, _⟩ := Oper.apart_spec hap
          rw [HB.dst] at h1 h2
          have hsj : ∀ cs b, ov.op ≠ .select cs b := fun cs b => Region.noSelect_spec HB.sel j ov cs b hoj
          obtain ⟨hyw, _⟩ := hall w hw
          have hAe : execOp A.eval ov = execOp a.eval ov ∧ Region.wanted ov (yielded l.toArray A.tmps) = Region.wanted ov (yielded l.toArray a.tmps) := by
            cases hst with
            | none _ _ hA => subst hA; exact ⟨rfl, rfl⟩
            | made b _ _ hA _ _ => subst hA; exact ⟨execOp_put (ops := l.toArray) ov hsj a (some d) _ h1, wanted_put ov a (some d) _ h1⟩
            | done b cs _ _ _ hA _ _ _ => subst hA; exact ⟨execOp_put (ops := l.toArray) ov hsj a (some d) _ h1, wanted_put ov a (some d) _ h1⟩
          have next : ∀ w', Below w.heap.size w w' → wpAny P md l.toArray Q' f (listed.setIfInBounds j true) (A.put ov.dst v) w' := by
            intro w' hb'
            refine ih _ (a.put ov.dst v) _ w' hsz' (by rw [put_size]; exact hd) (hw.trans (hb'.mono hw.size)) (fun X hX => (hall X hX).2) ?_
            cases hst with
            | none hm hs hA => subst hA; exact .none (by rw [getD_set_ne true hjm]; exact hm) (by rw [getD_set_ne true hjs]; exact hs) rfl
            | made b hm hs hA hb hh =>
              subst hA
              exact .made b (getD_set_true hm) (by rw [getD_set_ne true hjs]; exact hs) (Act.put_comm _ _ _ h2) hb ((hb'.block b (cells_lt hh)).trans hh)
            | done b cs hm hs hk hA hb hg hh =>
              subst hA
              have hjk : j ≠ k := fun e => by subst e; rw [getD_both hjun] at hk; cases hk
              exact .done b cs (getD_set_true hm) (getD_set_true hs) (getD_set_true hk) (Act.put_comm _ _ _ h2) hb (by rw [eval_put_ne (HB.de j ov hoj' hjk)]; exact hg) ((hb'.block b (cells_lt hh)).trans hh)
          rw [hAe.2]
          rcases hyw with ⟨hw1, q⟩ | ⟨hw1, rfl⟩
          · rw [hal.wanted] at hw1
            rw [if_pos hw1]
            exact .inl (wp_from_quiet hAe.1 ⟨w, (lat_of (Below.refl _ _)).symm⟩ (q w ⟨w, (lat_of (Below.refl _ _)).symm⟩) fun w' ⟨n, hn⟩ => next w' (by rw [hn]; exact lat_below w n))
          · rw [hal.wanted] at hw1
            rw [if_neg (by rw [hw1]; exact Bool.false_ne_true)]
            exact next w (Below.refl _ _)
theorem region_float {id : Nat} {Q : Exit → Act → World → Prop} {a : Act} {w : World} (m s k : Nat) (d e : Tmp) {Qf : Act → Prop} {om os : Oper} (hm : l[m]? = some om) (hs : l[s]? = some os)
    (hmix : P.follows .mixedOrders = true) (hB : floatsB .any l m s k d e = true) (hL : Region.lexB .any (idle (idle l m) s).toArray = true) (hd : d < a.tmps.size)
    {Z : Array Value} {T : TypeId} {Good : Value → Array Value → Prop}
    (hAl : ∀ (A : Act) (w : World), (execOp A.eval om).run P w = .ok (.value (.pointer (some ⟨w.heap.size, 0, none⟩))) (w.alloc (.cells Z T)))
    (hSt : ∀ (A : Act) (w : World) (b : Nat) (cs : Array Value), A.eval (.tmp d) = .pointer (some ⟨b, 0, none⟩) → Good (A.eval (.tmp e)) cs → w.heap[b]? = some (.cells Z T (0, 0)) →
      ∃ w', (execOp A.eval os).run P w = .ok .skip w' ∧ w'.heap[b]? = some (.cells cs T (0, 0)) ∧ Below b w w')
    (hG : ∀ a', Qf a' → ∃ cs, Good (a'.eval (.tmp e)) cs)
    (hW : ∀ X, Below w.heap.size w X → wpQuiet P (idle (idle l m) s).toArray (fun w' => ∃ n, w' = lat X n) Qf (idle (idle l m) s) a)
    (hQ : ∀ a' w' b cs, Qf a' → Below w.heap.size w w' → w.heap.size ≤ b → Good (a'.eval (.tmp e)) cs → w'.heap[b]? = some (.cells cs T (0, 0)) → Q .normal (a'.put (some d) (.pointer (some ⟨b, 0, none⟩))) w') :
    (Code.region id l.toArray true).wp P Q a w := by
  have HB := floats_of hm hs hB
  simp only [Region.lexB, Bool.and_eq_true] at hL
  have hlen : (idle (idle l m) s).length = l.length := by rw [idle_len, idle_len]
  refine wp_region_any hmix ?_
  have hml : m < l.length := (List.getElem?_eq_some_iff.1 hm).1
  have hsl : s < l.length := (List.getElem?_eq_some_iff.1 hs).1
  refine float_any (wr := w) HB hAl hSt hG hQ _ _ a a _ (by simp) hd ⟨rfl, rfl, rfl, Nat.le_refl _, fun _ _ => rfl⟩ (fun X hX => ?_) (.none (by simp [hml]) (by simp [hsl]) rfl)
  have := wpAnyQ_lex (P := P) (C := fun w' => ∃ n, w' = lat X n) (md := .any) hL.1 (idle (idle l m) s) 0 (Array.replicate (idle (idle l m) s).toArray.size false) a (by simp) (by simpa using hL.2) (hW X hX)
  simpa [hlen] using this
end
attribute [local go_sem] Oper.semAt_some
abbrev VE : FuncId := 94
def okE (w0 : World) (p : Nat × Nd) (v : Array Value) : Prop := ∃ ys : List Value, OutK exprTy w0 ys [p.2] ∧ v = #[.int .i64 (p.1 : Int), .agg ys.toArray]
def PartsE (pf : FuncId) (pt : Nd → List Nd) (w0 : World) (c : Nd) : Prop := ∀ (ys : List Value) (W : World), OutK exprTy w0 ys [c] → Below w0.heap.size w0 W →
  Calls Tryz.prog pf #[.agg ys.toArray] W fun e W' => ∃ v, e = .returned v ∧ LK exprTy w0 W' (fun g => g < w0.heap.size ∨ W.heap.size ≤ g) v (pt c) ∧ Below W.heap.size W W'
theorem loadAt_row {P : Program} {w : World} {T : TypeId} {g o n : Nat} {ys : List Value} (hl : ys.length = n) (hA : ∀ w, (isAgg T).run P w = .ok true w) (hs : ∀ w, (sizeOf T).run P w = .ok n w) (hc : ∀ j u, ys[j]? = some u → w.cell? ⟨g, o + j, none⟩ = some u) :
    (Instr.loadAt T (.pointer (some ⟨g, o, none⟩))).run P w = .ok (.agg ys.toArray) w := by
  have h := run_loadCells_list (P := P) w ⟨g, o, none⟩ ys fun j u hj => by
    have hadd : (⟨g, o, none⟩ : Addr).add j = ⟨g, o + j, none⟩ := by unfold Addr.add; split <;> simp_all
    rw [hadd]; exact hc j u hj
  rw [hl] at h
  simp [Instr.loadAt, Instr.sureAddr, loadVar, hA, hs, h, Result.andThen]
def ldX (T : TypeId) (v : Value) : Sem Next := do pure (.value (← Instr.loadAt T v))
theorem run_ldX {P : Program} {w : World} {T : TypeId} {g o n : Nat} {ys : List Value} (hl : ys.length = n) (hA : ∀ w, (isAgg T).run P w = .ok true w) (hs : ∀ w, (sizeOf T).run P w = .ok n w) (hc : ∀ j u, ys[j]? = some u → w.cell? ⟨g, o + j, none⟩ = some u) :
    (ldX T (.pointer (some ⟨g, o, none⟩))).run P w = .ok (.value (.agg ys.toArray)) w := by
  have h := loadAt_row (P := P) hl hA hs hc
  simp [ldX, h, Result.andThen]
theorem ones_of (l : List Value) (h : l.all Value.oneCell' = true) : ∀ v ∈ l, v.oneCell' = true := fun v hv => List.all_eq_true.1 h v hv
theorem storeAt_row {P : Program} {w : World} {b : Nat} {T : TypeId} {zs : Array Value} (vs : List Value) (hs : ∀ w, (sizeOf T).run P w = .ok vs.length w) (hl : vs.length = zs.size) (h1 : vs.all Value.oneCell' = true)
    (hh : w.heap[b]? = some (.cells zs T (0, 0))) : (Instr.storeAt T (.pointer (some ⟨b, 0, none⟩)) (.agg vs.toArray)).run P w = .ok () (w.setRow b vs.toArray) := by
  have hst := run_storeCells_at (P := P) b 0 T vs 0 zs w hh (by omega) (ones_of vs h1)
  have e : (zs.toList.take (0 + 0) ++ vs ++ zs.toList.drop (0 + 0 + vs.length)).toArray = vs.toArray := by
    have : zs.toList.length = zs.size := Array.length_toList
    rw [List.drop_eq_nil_of_le (by omega)]
    simp
  rw [e] at hst
  simp [Instr.storeAt, Instr.sureAddr, storeVar, Value.cells, hs, hst, Result.andThen]
theorem alloc_xE (A : Act) (w : World) (dst : Option Tmp) (ty : TypeId) (pos : String) (af) (g) :
    (execOp A.eval { dst := dst, op := .alloc 79, type := ty, pos := pos, after := af, guard := g }).run Tryz.prog w =
      .ok (.value (.pointer (some ⟨w.heap.size, 0, none⟩))) (w.alloc (.cells #[.int .i64 0, .int .i64 0, .bool false, .int .i64 0, .int .i64 0, .string ⟨#[]⟩, .string ⟨#[]⟩, .string ⟨#[]⟩, .slice none 0 0, .slice none 0 0] 79)) := by
  simp [go_sem]
def GoodE (u : Value) (cs : Array Value) : Prop := ∃ zs : List Value, u = .agg zs.toArray ∧ zs.length = 10 ∧ zs.all Value.oneCell' = true ∧ cs = zs.toArray
set_option maxHeartbeats 2000000 in
theorem store_xE (A : Act) (w : World) (b : Nat) (cs : Array Value) (d e : Tmp) (dst : Option Tmp) (ty : TypeId) (pos : String) (af) (g) (hp : A.eval (.tmp d) = .pointer (some ⟨b, 0, none⟩)) (hg : GoodE (A.eval (.tmp e)) cs)
    (hh : w.heap[b]? = some (.cells #[.int .i64 0, .int .i64 0, .bool false, .int .i64 0, .int .i64 0, .string ⟨#[]⟩, .string ⟨#[]⟩, .string ⟨#[]⟩, .slice none 0 0, .slice none 0 0] 79 (0, 0))) :
    ∃ w', (execOp A.eval { dst := dst, op := .store 79 (.tmp d) (.tmp e), type := ty, pos := pos, after := af, guard := g }).run Tryz.prog w = .ok .skip w' ∧
      w'.heap[b]? = some (.cells cs 79 (0, 0)) ∧ Below b w w' := by
  obtain ⟨zs, hu, hzl, hzo, rfl⟩ := hg
  have hst := storeAt_row (P := Tryz.prog) (zs := #[.int .i64 0, .int .i64 0, .bool false, .int .i64 0, .int .i64 0, .string ⟨#[]⟩, .string ⟨#[]⟩, .string ⟨#[]⟩, .slice none 0 0, .slice none 0 0]) zs (fun w => by rw [hzl]; exact Tryz.sizeOf79 w) hzl hzo hh
  refine ⟨_, ?_, setRow_heap w b _ _ _ _ hh, ⟨rfl, rfl, rfl, by simp, fun k hk => setRow_other w b k _ (by omega)⟩⟩
  rotate_left
  unfold execOp
  simp only [hp, hu, Sem.run_bind, hst, Result.andThen]
  rfl
structure StE (pr : Nat → Nd → List (Nat × Nd)) (w0 W : World) (J : Nat → World → Prop) (Ew : Nat → Prop) (xs : List (Nat × Nd)) (bp : Nat) (s : Value) (wr : World) (m : Nat) : Prop where
  ex : ∃ (i : Nat) (S : List Ent) (g cap : Nat), s = .slice (some ⟨g, 0, none⟩) S.length cap ∧
    wr.ownsRow W.heap.size 137 2 s S.length (entCells S) ∧
    (∀ e ∈ S, LK exprTy w0 wr (fun k => ¬ Ew k ∧ k ≠ g) e.v e.L ∧ 1 ≤ e.d) ∧ xs.drop i = left pr S ∧ i ≤ xs.length ∧ J i wr ∧ m = 2 * (xs.length - i) + S.length ∧ S.length ≤ i + 1 ∧ (∀ e ∈ S, e.d ≤ i + 1)
  box : wr.cell? ⟨bp, 0, none⟩ = some (.func (.func 57) #[] #[])
  b0 : Below w0.heap.size w0 wr
  sz : W.heap.size ≤ wr.heap.size
theorem StE.push {pr : Nat → Nd → List (Nat × Nd)} {pt : Nd → List Nd} {w0 W : World} {J : Nat → World → Prop} {Ew : Nat → Prop} {xs : List (Nat × Nd)} {bp i d g g' cap' : Nat} {r : List Ent} {t pv : Value} {L' : List Nd} {c : Nd} {wr W4 w5 : World}
    (hown : w5.ownsRow W.heap.size 137 2 (.slice (some ⟨g', 0, none⟩) (r.length + 1 + 1) cap') (r.length + 1 + 1) (entCells (⟨d, t, L'⟩ :: r) ++ [.int .i64 ((d : Int) + 1), pv]))
    (hch : ∀ q, ¬ Ew q → q ≠ g → q < wr.heap.size → W4.heap[q]? = wr.heap[q]?) (hsz : wr.heap.size ≤ W4.heap.size) (hg5 : ∀ q, q < W4.heap.size → q ≠ g → w5.heap[q]? = W4.heap[q]?) (s5 : W4.heap.size ≤ w5.heap.size)
    (hat : g' = g ∨ W4.heap.size ≤ g') (hL3 : LK exprTy w0 wr (fun q => ¬ Ew q ∧ q ≠ g) t L') (hd : 1 ≤ d) (hr : ∀ e ∈ r, LK exprTy w0 wr (fun q => ¬ Ew q ∧ q ≠ g) e.v e.L ∧ 1 ≤ e.d)
    (hL4 : LK exprTy w0 W4 (fun q => ¬ Ew q ∧ q ≠ g) pv (pt c)) (hdr : xs.drop (i + 1) = ((pt c).flatMap (pr (d + 1)) ++ L'.flatMap (pr d)) ++ left pr r) (hil : i < xs.length)
    (hJ : J (i + 1) w5) (hSi : r.length ≤ i) (hdd : d ≤ i + 1) (hdr' : ∀ e ∈ r, e.d ≤ i + 1) (hp : w5.cell? ⟨bp, 0, none⟩ = some (.func (.func 57) #[] #[])) (hb : Below w0.heap.size w0 w5) (hz : W.heap.size ≤ w5.heap.size) :
    StE pr w0 W J Ew xs bp (.slice (some ⟨g', 0, none⟩) (r.length + 1 + 1) cap') w5 (2 * (xs.length - (i + 1)) + (r.length + 1 + 1)) := by
  have K : ∀ {v : Value} {L : List Nd}, LK exprTy w0 wr (fun q => ¬ Ew q ∧ q ≠ g) v L → LK exprTy w0 w5 (fun q => ¬ Ew q ∧ q ≠ g') v L := fun h =>
    h.keep (Nat.le_trans hsz s5) (fun q hq hlt => (hg5 q (Nat.lt_of_lt_of_le hlt hsz) hq.2).trans (hch q hq.1 hq.2 hlt)) fun q hq hlt => ⟨hq.1, by rcases hat with h | h <;> omega⟩
  refine ⟨⟨i + 1, ⟨d + 1, pv, pt c⟩ :: ⟨d, t, L'⟩ :: r, g', cap', rfl, hown, ?_, ?_, hil, hJ, rfl, by show r.length + 1 + 1 ≤ _; omega, ?_⟩, hp, hb, hz⟩
  · intro e he
    simp only [List.mem_cons] at he
    rcases he with rfl | rfl | he
    · exact ⟨hL4.keep s5 (fun q hq hlt => hg5 q hlt hq.2) fun q hq hlt => ⟨hq.1, by rcases hat with h | h <;> omega⟩, by show 1 ≤ d + 1; omega⟩
    · exact ⟨K hL3, hd⟩
    · exact ⟨K (hr e he).1, (hr e he).2⟩
  · rw [hdr, List.append_assoc]; rfl
  · intro e he
    simp only [List.mem_cons] at he
    rcases he with rfl | rfl | he
    · show d + 1 ≤ i + 1 + 1; omega
    · show d ≤ i + 1 + 1; omega
    · have := hdr' e he; omega
theorem cells_new2 (w : World) (x y : Value) (T : TypeId) : ∀ j u, [x, y][j]? = some u → (w.alloc (.cells #[x, y] T)).cell? ((⟨w.heap.size, 0, none⟩ : Addr).add j) = some u := by
  intro j u hj
  have hrow := heap_alloc_new w (.cells #[x, y] T)
  have hp : (⟨w.heap.size, 0, none⟩ : Addr).add j = ⟨w.heap.size, j, none⟩ := by unfold Addr.add; split <;> simp_all
  rw [hp, cell_of_row _ w.heap.size j _ T (0, 0) hrow]
  simpa using hj
theorem slice_of_owns {w : World} {B T sz k : Nat} {v : Value} {xs : List Value} (h : w.ownsRow B T sz v (k + 1) xs) : ∃ g cap, v = .slice (some ⟨g, 0, none⟩) (k + 1) cap := by
  rcases h.2 with ⟨_, h0⟩ | ⟨g, cap, _, e, _⟩
  · cases h0
  · exact ⟨g, cap, e⟩
theorem execOp_ldE (ρ : Operand → Value) (dst : Option Tmp) (x : Operand) (ty : TypeId) (pos : String) (after : Array Edge) (guard : Option (Nat × Bool)) :
    execOp ρ { dst := dst, op := .load 79 x, type := ty, pos := pos, after := after, guard := guard } = ldX 79 (ρ x) := rfl
attribute [local go_sem ↓] execOp_ldE
theorem Tryz.infoBrE : (Tryz.prog.info? 137).map (fun i => (i.zero, i.size, i.bytes)) = some (some (.agg #[.int .i64 0, .slice none 0 0]), 2, 32) := by kernel_rfl
set_option maxRecDepth 100000 in
set_option maxHeartbeats 8000000 in
theorem visE_any (pr : Nat → Nd → List (Nat × Nd)) (pt : Nd → List Nd) (go : Nat × Nd → Prop) (w0 w : World) (L0 : List Nd) (v0 : Value) (bl bp : Nat) (E : Nat → Prop) (xs : List (Nat × Nd)) (n : Nat) (hxs : xs = L0.flatMap (pr 1)) (hlen : xs.length ≤ 2000000)
    (h0 : Below w0.heap.size w0 w) (hE : ∀ k, E k → w0.heap.size ≤ k ∧ k < w.heap.size) (hbl : w.cell? ⟨bl, 0, none⟩ = some v0) (hbp : w.cell? ⟨bp, 0, none⟩ = some (.func (.func 57) #[] #[])) (hbE : ¬ E bp)
    (hv : LK exprTy w0 w (fun g => ¬ E g) v0 L0) (HP : ∀ d c, (d, c) ∈ xs → go (d, c) → PartsE 57 pt w0 c) (hhd : ∀ d c, ∃ l, pr d c = (d, c) :: l) (hpre : ∀ d c, (d, c) ∈ xs → go (d, c) → pr d c = (d, c) :: (pt c).flatMap (pr (d + 1))) :
    SeqV Fence.wide n Tryz.prog VE #[.pointer (some ⟨bl, 0, none⟩), .pointer (some ⟨bp, 0, none⟩)] xs (okE w0) go E w := by
  intro l J Jx Ew W hW hEw hJ hJx hY hJ0
  refine callsIn_wide.2 ?_
  obtain ⟨a0, cap0, rfl⟩ := hv.slice
  have kl := (hW.cell (cell_block hbl)).trans hbl
  have hwW : w.heap.size ≤ W.heap.size := hW.size
  have hv1 : LK exprTy w0 W (fun g => ¬ Ew g ∧ g < w.heap.size) (.slice a0 L0.length cap0) L0 := hv.keep hW.size (fun g _ hlt => hW.block g hlt) fun g hg hlt => ⟨fun he => (hEw g he).elim hg fun h => by omega, hlt⟩
  have hb0 : Below w0.heap.size w0 W := h0.trans (hW.mono h0.size)
  go_enter Tryz.func94, Tryz.ntmps94
  go_wp2_with fail
  have hown : (W.alloc (.cells #[.int .i64 1, .slice a0 L0.length cap0] 137)).ownsRow W.heap.size 137 2 (.slice (some ⟨W.heap.size, 0, none⟩) 1 1) 1 (entCells [⟨1, .slice a0 L0.length cap0, L0⟩]) :=
    World.ownsRow_lit W #[.int .i64 1, .slice a0 L0.length cap0] 1 (Nat.le_refl _) (by decide) rfl
  have hsE : StE pr w0 W J Ew xs bp (.slice (some ⟨W.heap.size, 0, none⟩) 1 1) (W.alloc (.cells #[.int .i64 1, .slice a0 L0.length cap0] 137)) (2 * xs.length + 1) := by
    have hal : Below W.heap.size W (W.alloc (.cells #[.int .i64 1, .slice a0 L0.length cap0] 137)) := (Below.refl _ _).alloc (Nat.le_refl _) _
    refine ⟨⟨0, [⟨1, .slice a0 L0.length cap0, L0⟩], W.heap.size, 1, rfl, hown, ?_, ?_, Nat.zero_le _, hJ _ _ _ hJ0 hal, rfl, Nat.le_refl _, ?_⟩, ?_, hb0.trans (hal.mono hb0.size), hal.size⟩
    · intro e he
      obtain rfl : e = _ := by simpa using he
      exact ⟨hv1.keep hal.size (fun g _ hlt => hal.block g hlt) fun g hg hlt => ⟨hg.1, by omega⟩, Nat.le_refl _⟩
    · rw [List.drop_zero, hxs]; show _ = _ ++ []; rw [List.append_nil]
    · intro e he
      obtain rfl : e = _ := by simpa using he
      exact Nat.le_refl _
    · have h1 := (hW.cell (cell_block hbp)).trans hbp
      exact (hal.cell (cell_block h1)).trans h1
  clear hown
  generalize W.alloc (.cells #[.int .i64 1, .slice a0 L0.length cap0] 137) = W1 at hsE ⊢
  go_loopw [4] (fun s wr => ∃ m, StE pr w0 W J Ew xs bp s wr m) (fun s wr => least (StE pr w0 W J Ew xs bp s wr))
  case atStart => exact ⟨_, hsE⟩
  case round =>
    have hm := least_is hrel.choose_spec
    obtain ⟨M, hM⟩ : ∃ M, least (StE pr w0 W J Ew xs bp u4 wr) = M := ⟨_, rfl⟩
    rw [hM] at hm
    clear hrel
    obtain ⟨⟨i, S, g, cap, hu, hown, hS, hdrop, hile, hJi, hmeq, hSi, hdi⟩, hparts, hb, hsz⟩ := hm
    have HM : Hid (least (StE pr w0 W J Ew xs bp u4 wr) = M) := hM
    clear hM
    cases S with
    | nil =>
      subst hu
      go_wp2_with fail
      go_end0
      have : i = xs.length := by
        have h1 : xs.drop i = [] := hdrop
        have := List.drop_eq_nil_iff.1 h1
        omega
      exact ⟨⟨_, rfl⟩, .inl (this ▸ hJi)⟩
    | cons e r =>
      obtain ⟨hLe, hde⟩ := hS e (List.mem_cons_self ..)
      obtain ⟨d, v, L⟩ := e
      obtain ⟨k, hk⟩ : ∃ k, r.length = k := ⟨_, rfl⟩
      have hkk : k ≤ 2000000 := by simp at hSi; omega
      replace hu : u4 = .slice (some ⟨g, 0, none⟩) (r.length + 1) cap := hu
      replace hown : wr.ownsRow W.heap.size 137 2 (.slice (some ⟨g, 0, none⟩) (r.length + 1) cap) (r.length + 1) (entCells (⟨d, v, L⟩ :: r)) := by rw [hu] at hown; exact hown
      replace hmeq : M = 2 * (xs.length - i) + (r.length + 1) := hmeq
      replace hSi : r.length + 1 ≤ i + 1 := hSi
      obtain ⟨hcap, hgW⟩ := ownsRow_facts hown
      obtain ⟨k0, k1, k2⟩ := ent_cells hown
      rw [hk] at hu hown hmeq hSi k0 k1 k2 hcap
      subst hu
      obtain ⟨a, cp, rfl⟩ : ∃ a cp, v = .slice a L.length cp := hLe.slice
      cases L with
      | nil =>
        simp only [List.length_nil] at k1
        have HH : StE pr w0 W J Ew xs bp (.slice (some ⟨g, 0, none⟩) k cap) wr (2 * (xs.length - i) + k) := by
          subst hk
          exact ⟨⟨i, r, g, cap, rfl, ent_pop hown, fun e he => hS e (List.mem_cons_of_mem _ he), hdrop, hile, hJi, rfl, by omega, fun e he => hdi e (List.mem_cons_of_mem _ he)⟩, hparts, hb, hsz⟩
        go_wp2_with fail
        refine ⟨⟨_, HH⟩, ?_⟩
        rw [HM.out]
        have h1 := least_le HH
        omega
      | cons c L' =>
        obtain ⟨ga, oa, cp', ys, hv1, hcp, hys, hGa, hga, hcell, htl⟩ := hLe.head
        injection hv1 with e1 e2 e3
        subst e1; subst e3
        have hyl : ys.length = 10 := hys.1
        have hyo : ys.all Value.oneCell' = true := List.all_eq_true.2 hys.ones
        have ld0 := run_ldX (P := Tryz.prog) hyl Tryz.isAgg79 Tryz.sizeOf79 hcell
        simp only [List.length_cons] at k1
        go_wp2_with fail
        refine' region_float (Qf := fun a' => a' = _) 10 12 9 7 39 rfl rfl (by kernel_rfl) (by kernel_rfl) (by kernel_rfl) (by simp) (fun A w => alloc_xE A w _ _ _ _ _) (fun A w b cs hp hg hh => store_xE A w b cs _ _ _ _ _ _ _ hp hg hh) ?hG ?hW ?hQ
        case hW =>
          intro X hX
          have g0 := lat_cell ((hX.cell (cell_block k0)).trans k0)
          have g1 := lat_cell ((hX.cell (cell_block k1)).trans k1)
          have X0 : ∀ n, (ldX 79 (.pointer (some ⟨ga, oa, none⟩))).run Tryz.prog (lat X n) = .ok (.value (.agg ys.toArray)) (lat X n) := fun n => run_ldX hyl Tryz.isAgg79 Tryz.sizeOf79 fun j u hj => lat_cell ((hX.cell (cell_block (hcell j u hj))).trans (hcell j u hj)) n
          clear hX
          simp only [idle]
          iterate 13 go_big_quiet_step (fail)
          refine wpQuiet_nil ?_
          exact rfl
        case hG =>
          rintro _ rfl
          exact ⟨_, ys, rfl, hyl, hyo, rfl⟩
        case hQ =>
          rintro _ w2 b2 cs rfl hb2 hlt2 ⟨zs, hu2, -, -, rfl⟩ hh2
          obtain rfl : ys = zs := by simpa [Act.eval] using hu2
          clear hu2
          have K1 := (hb2.cell (cell_block k1)).trans k1
          have K2 := (hb2.frozen (cell_block k1)).trans k2
          simp only [Act.put, List.setIfInBounds_toArray, List.set_cons_zero, List.set_cons_succ]
          rename_i hK
          refine hK _ _ ((wpIn_wide (n := n)).1 ?_)
          clear hK
          have hbg : b2 ≠ g := by omega
          have HX : ∀ t, RowAt (w2.setCell ⟨g, k * 2 + 1, none⟩ t) b2 79 ys.toArray := fun t => RowAt.other (hh2 : RowAt _ _ _ _) hbg
          have hcp1 : 1 ≤ cp := by omega
          obtain ⟨lpre, hlpre⟩ := hhd d c
          have hdr : xs.drop i = (d, c) :: ((lpre ++ L'.flatMap (pr d)) ++ left pr r) := by
            rw [hdrop]
            show (c :: L').flatMap (pr d) ++ left pr r = _
            rw [List.flatMap_cons, hlpre]
            rfl
          have hxi : xs[i]? = some (d, c) := by
            have h1 : (xs.drop i)[0]? = some (d, c) := by rw [hdr]; rfl
            rw [List.getElem?_drop] at h1
            exact h1
          have hil : i < xs.length := (List.getElem?_eq_some_iff.1 hxi).1
          have hmem : (d, c) ∈ xs := List.mem_of_getElem? hxi
          have hb2s : b2 < w2.heap.size := (Array.getElem?_eq_some_iff.1 hh2).1
          have hWw2 : W.heap.size ≤ w2.heap.size := Nat.le_trans hsz hb2.size
          have hJ3 : ∀ t, J (i) (w2.setCell ⟨g, k * 2 + 1, none⟩ t) := fun t => hJ _ _ _ hJi ((hb2.mono hsz).setCell (p := ⟨g, k * 2 + 1, none⟩) hgW.1 _)
          have hEwW : ∀ q, Ew q → q < W.heap.size := fun q hq => (hEw q hq).elim (fun h => Nat.lt_of_lt_of_le (hE q h).2 hwW) fun h => h.2
          have hEw0 : ∀ q, Ew q → w0.heap.size ≤ q := fun q hq => (hEw q hq).elim (fun h => (hE q h).1) fun h => Nat.le_trans h0.size h.1
          have hg0 : w0.heap.size ≤ g := Nat.le_trans (Nat.le_trans h0.size hwW) hgW.1
          have hown2 : ∀ t, (w2.setCell ⟨g, k * 2 + 1, none⟩ t).ownsRow W.heap.size 137 2 (.slice (some ⟨g, 0, none⟩) (k + 1) cap) (k + 1) (entCells (⟨d, t, L'⟩ :: r)) := fun t => by
            subst hk
            exact ent_set (ownsRow_same hown (hb2.block g hgW.2)) t L'
          have hpb : bp < W.heap.size ∧ ¬ Ew bp := ⟨Nat.lt_of_lt_of_le (cell_block hbp) hwW, fun h => (hEw bp h).elim hbE fun h => by have := cell_block hbp; simp at this; omega⟩
          have hdb : d ≤ 2000001 := by have := hdi _ (List.mem_cons_self ..); simp at this; omega
          obtain ⟨z, hz, hzz⟩ : ∃ z : Nat, z = d + 1 ∧ ((z : Nat) : Int) = (d : Int) + 1 := ⟨_, rfl, by omega⟩
          obtain ⟨ib, hi1, hi2, hi3, hi4⟩ := info_parts Tryz.infoBrE
          have HLs : ∀ e ∈ (⟨d, .slice (some ⟨ga, oa, none⟩) (L'.length + 1) cp, c :: L'⟩ :: r : List Ent), LK exprTy w0 wr (fun q => ¬ Ew q ∧ q ≠ g) e.v e.L ∧ 1 ≤ e.d := hS
          have hcase : cp = 1 ∨ ¬ cp = 1 := Classical.em _
          rcases hcase with h1 | h1
          · have hY3 := hY i (d, c) _ _ hxi ⟨_, hys, rfl⟩ (hJ3 (.slice (some ⟨ga, oa, none⟩) L'.length 0))
            have R3 := HX (.slice (some ⟨ga, oa, none⟩) L'.length 0)
            have hown3 := hown2 (.slice (some ⟨ga, oa, none⟩) L'.length 0)
            have hL3 : LK exprTy w0 wr (fun q => ¬ Ew q ∧ q ≠ g) (.slice (some ⟨ga, oa, none⟩) L'.length 0) L' := htl _ _ (.inl (by have := hcp; rw [h1] at this; exact List.eq_nil_of_length_eq_zero (by omega)))
            have y0 := run_ldX (P := Tryz.prog) (o := 0) hyl Tryz.isAgg79 Tryz.sizeOf79 fun j u hj => by rw [Nat.zero_add]; exact R3.cell (i := j) (by simpa using hj)
            have Hb3 : Below g w2 (w2.setCell ⟨g, k * 2 + 1, none⟩ (.slice (some ⟨ga, oa, none⟩) L'.length 0)) := (Below.refl _ _).setCell (p := ⟨g, k * 2 + 1, none⟩) (Nat.le_refl _) _
            obtain ⟨fn, tmps, assign, body, hy, hR⟩ := hY3
            gi_wp2
            refine ⟨fun h => (by cases h), hR.mono ?_⟩
            rintro e W3 (⟨rfl, hgo, hJ4, hk4⟩ | ⟨rfl, hJx4⟩)
            · have hdr2 : xs.drop (i + 1) = ((pt c).flatMap (pr (d + 1)) ++ L'.flatMap (pr d)) ++ left pr r := by
                have h1 := hpre d c hmem hgo
                rw [hlpre] at h1
                injection h1 with _ h1
                rw [← List.drop_drop, hdr, h1]; rfl
              have q2 : (w2.setCell ⟨g, k * 2 + 1, none⟩ (.slice (some ⟨ga, oa, none⟩) L'.length 0)).heap.size = w2.heap.size := by simp
              have R4 : RowAt W3 b2 79 _ := (hk4.block b2 (by omega) (fun h => by have := hEwW _ h; omega)).trans R3
              have v0 := run_ldX (P := Tryz.prog) (o := 0) hyl Tryz.isAgg79 Tryz.sizeOf79 fun j u hj => by rw [Nat.zero_add]; exact R4.cell (i := j) (by simpa using hj)
              have B3 : Below w0.heap.size w0 (w2.setCell ⟨g, k * 2 + 1, none⟩ (.slice (some ⟨ga, oa, none⟩) L'.length 0)) := (hb.trans (hb2.mono hb.size)).setCell (p := ⟨g, k * 2 + 1, none⟩) hg0 _
              have B4 : Below w0.heap.size w0 W3 := B3.trans (hk4.low B3.size fun q hq h => by have := hEw0 q h; omega)
              have P4 : W3.cell? ⟨bp, 0, none⟩ = some (.func (.func 57) #[] #[]) := by
                refine (World.cell?_of_block (w := wr) (a := ⟨bp, 0, none⟩) ?_).trans hparts
                exact (hk4.block bp (by omega) hpb.2).trans (((heap_setCell_other w2 ⟨g, k * 2 + 1, none⟩ bp _ (by show bp ≠ g; omega))).trans (hb2.block bp (by omega)))
              have hown4 := ownsRow_same hown3 (hk4.block g (by omega) (fun h => by have := hEwW _ h; omega))
              have s4 : W.heap.size ≤ W3.heap.size := by have := hk4.size; omega
              have s5 : g < W3.heap.size := by have := hk4.size; omega
              have hpart := HP d c hmem hgo _ W3 hys B4
              clear hy hR R3 hY HX hown2 hJ3 k0 k1 k2 ld0 y0 K1 K2
              gi_wp2
              refine ⟨trivial, fun h => (by cases h), (callsIn_wide.2 hpart).mono ?_⟩
              clear hpart
              rintro e W4 ⟨pv, rfl, hL4, hb4⟩
              obtain ⟨pa, pcap, rfl⟩ := hL4.slice
              have hown5 := ownsRow_same hown4 (hb4.block g s5)
              gi_wp2_with (gi_at_builtin; go_loud ( refine wpListIn_append_own_at _ rfl _ _ 138 rfl W.heap.size 137 ib _ 2 32 Tryz.underlying138 hi1 hi2 hi3 hi4 rfl (by decide) (.slice (some ⟨g, 0, none⟩) (k + 1) cap) (k + 1) _ rfl (World.ownsRow.alloc hown5 _) ⟨W4.heap.size, 0, none⟩ 1 1 [.int .i64 ((d : Int) + 1), .slice pa (pt c).length pcap] rfl rfl (cells_new2 _ _ _ _) (by intro u hu; simp only [List.mem_cons, List.not_mem_nil, or_false] at hu; rcases hu with rfl | rfl <;> rfl) (by unfold maxLen; omega) (by omega) (by have := hb4.size; simp; omega) ?_; intro v' w5 hown6 hgrow hat; obtain ⟨g', cap', rfl⟩ := slice_of_owns hown6; have hs45 : W4.heap.size ≤ w5.heap.size := (by have := hgrow.size; simp at this; omega); have hg5 : ∀ q, q < W4.heap.size → q ≠ g → w5.heap[q]? = W4.heap[q]? := (fun q hq hne => (hgrow.block q (by simp; omega) (by intro e; apply hne; injection e)).trans (Below.heap_alloc _ _ _ hq)); have HH := StE.push (J := J) (Ew := Ew) (xs := xs) (bp := bp) (i := i) (wr := wr) (g := g) (by rw [← hk] at hown6; exact hown6) (fun q h1 h2 h3 => (hb4.block q (by have := hk4.size; have := hb2.size; omega)).trans ((hk4.block q (by have := hb2.size; omega) h1).trans ((heap_setCell_other w2 ⟨g, k * 2 + 1, none⟩ q _ h2).trans (hb2.block q h3)))) (by have := hb4.size; have := hk4.size; have := hb2.size; omega) hg5 hs45 (by rcases hat with h | h; exact .inl (by simpa [Value.ownBlock] using h); exact .inr (by simp [Value.ownBlock] at h; omega)) hL3 hde (fun e he => HLs e (List.mem_cons_of_mem _ he)) (hL4.keep (Nat.le_refl _) (fun _ _ _ => rfl) (fun q hq _ => ⟨fun h => by have := hEw0 q h; have := hEwW q h; omega, by omega⟩)) hdr2 hil (hJ _ _ _ hJ4 (((hb4.mono s4).alloc (by have := hb4.size; omega) _).grown hgrow (by have := hb4.size; simp; omega) (fun q e => by cases e; exact hgW.1))) (by omega) (hdi _ (List.mem_cons_self ..)) (fun e he => hdi e (List.mem_cons_of_mem _ he)) ((World.cell?_of_block (w := W4) (a := ⟨bp, 0, none⟩) (hg5 bp (by have := hb4.size; omega) (by omega))).trans ((hb4.cell (cell_block P4)).trans P4)) (((B4.trans (hb4.mono B4.size)).alloc (by have := B4.size; have := hb4.size; omega) _).grown hgrow (by have := B4.size; have := hb4.size; simp; omega) (fun q e => by cases e; exact hg0)) (by have := hb4.size; omega); rw [hk] at HH; have HHH := Lib.hid HH; clear HH hgrow hat hg5 hown6 hown5 hown4))
              refine ⟨⟨_, HHH.out⟩, ?_⟩
              rw [HM.out]
              have h1 := least_le HHH.out
              omega
            · gi_wp2
              refine bodyPost_ret (results_none rfl _ _ _) rfl ?_
              exact ⟨⟨_, rfl⟩, .inr ⟨i + 1, hil, hJx4⟩⟩
          · have hY3 := hY i (d, c) _ _ hxi ⟨_, hys, rfl⟩ (hJ3 (.slice (some ⟨ga, oa + 10, none⟩) L'.length (cp - 1)))
            have R3 := HX (.slice (some ⟨ga, oa + 10, none⟩) L'.length (cp - 1))
            have hown3 := hown2 (.slice (some ⟨ga, oa + 10, none⟩) L'.length (cp - 1))
            have hL3 : LK exprTy w0 wr (fun q => ¬ Ew q ∧ q ≠ g) (.slice (some ⟨ga, oa + 10, none⟩) L'.length (cp - 1)) L' := htl _ _ (.inr ⟨rfl, by omega⟩)
            have y0 := run_ldX (P := Tryz.prog) (o := 0) hyl Tryz.isAgg79 Tryz.sizeOf79 fun j u hj => by rw [Nat.zero_add]; exact R3.cell (i := j) (by simpa using hj)
            have Hb3 : Below g w2 (w2.setCell ⟨g, k * 2 + 1, none⟩ (.slice (some ⟨ga, oa + 10, none⟩) L'.length (cp - 1))) := (Below.refl _ _).setCell (p := ⟨g, k * 2 + 1, none⟩) (Nat.le_refl _) _
            obtain ⟨fn, tmps, assign, body, hy, hR⟩ := hY3
            gi_wp2
            refine ⟨fun h => (by cases h), hR.mono ?_⟩
            rintro e W3 (⟨rfl, hgo, hJ4, hk4⟩ | ⟨rfl, hJx4⟩)
            · have hdr2 : xs.drop (i + 1) = ((pt c).flatMap (pr (d + 1)) ++ L'.flatMap (pr d)) ++ left pr r := by
                have h1 := hpre d c hmem hgo
                rw [hlpre] at h1
                injection h1 with _ h1
                rw [← List.drop_drop, hdr, h1]; rfl
              have q2 : (w2.setCell ⟨g, k * 2 + 1, none⟩ (.slice (some ⟨ga, oa + 10, none⟩) L'.length (cp - 1))).heap.size = w2.heap.size := by simp
              have R4 : RowAt W3 b2 79 _ := (hk4.block b2 (by omega) (fun h => by have := hEwW _ h; omega)).trans R3
              have v0 := run_ldX (P := Tryz.prog) (o := 0) hyl Tryz.isAgg79 Tryz.sizeOf79 fun j u hj => by rw [Nat.zero_add]; exact R4.cell (i := j) (by simpa using hj)
              have B3 : Below w0.heap.size w0 (w2.setCell ⟨g, k * 2 + 1, none⟩ (.slice (some ⟨ga, oa + 10, none⟩) L'.length (cp - 1))) := (hb.trans (hb2.mono hb.size)).setCell (p := ⟨g, k * 2 + 1, none⟩) hg0 _
              have B4 : Below w0.heap.size w0 W3 := B3.trans (hk4.low B3.size fun q hq h => by have := hEw0 q h; omega)
              have P4 : W3.cell? ⟨bp, 0, none⟩ = some (.func (.func 57) #[] #[]) := by
                refine (World.cell?_of_block (w := wr) (a := ⟨bp, 0, none⟩) ?_).trans hparts
                exact (hk4.block bp (by omega) hpb.2).trans (((heap_setCell_other w2 ⟨g, k * 2 + 1, none⟩ bp _ (by show bp ≠ g; omega))).trans (hb2.block bp (by omega)))
              have hown4 := ownsRow_same hown3 (hk4.block g (by omega) (fun h => by have := hEwW _ h; omega))
              have s4 : W.heap.size ≤ W3.heap.size := by have := hk4.size; omega
              have s5 : g < W3.heap.size := by have := hk4.size; omega
              have hpart := HP d c hmem hgo _ W3 hys B4
              clear hy hR R3 hY HX hown2 hJ3 k0 k1 k2 ld0 y0 K1 K2
              gi_wp2
              refine ⟨trivial, fun h => (by cases h), (callsIn_wide.2 hpart).mono ?_⟩
              clear hpart
              rintro e W4 ⟨pv, rfl, hL4, hb4⟩
              obtain ⟨pa, pcap, rfl⟩ := hL4.slice
              have hown5 := ownsRow_same hown4 (hb4.block g s5)
              gi_wp2_with (gi_at_builtin; go_loud ( refine wpListIn_append_own_at _ rfl _ _ 138 rfl W.heap.size 137 ib _ 2 32 Tryz.underlying138 hi1 hi2 hi3 hi4 rfl (by decide) (.slice (some ⟨g, 0, none⟩) (k + 1) cap) (k + 1) _ rfl (World.ownsRow.alloc hown5 _) ⟨W4.heap.size, 0, none⟩ 1 1 [.int .i64 ((d : Int) + 1), .slice pa (pt c).length pcap] rfl rfl (cells_new2 _ _ _ _) (by intro u hu; simp only [List.mem_cons, List.not_mem_nil, or_false] at hu; rcases hu with rfl | rfl <;> rfl) (by unfold maxLen; omega) (by omega) (by have := hb4.size; simp; omega) ?_; intro v' w5 hown6 hgrow hat; obtain ⟨g', cap', rfl⟩ := slice_of_owns hown6; have hs45 : W4.heap.size ≤ w5.heap.size := (by have := hgrow.size; simp at this; omega); have hg5 : ∀ q, q < W4.heap.size → q ≠ g → w5.heap[q]? = W4.heap[q]? := (fun q hq hne => (hgrow.block q (by simp; omega) (by intro e; apply hne; injection e)).trans (Below.heap_alloc _ _ _ hq)); have HH := StE.push (J := J) (Ew := Ew) (xs := xs) (bp := bp) (i := i) (wr := wr) (g := g) (by rw [← hk] at hown6; exact hown6) (fun q h1 h2 h3 => (hb4.block q (by have := hk4.size; have := hb2.size; omega)).trans ((hk4.block q (by have := hb2.size; omega) h1).trans ((heap_setCell_other w2 ⟨g, k * 2 + 1, none⟩ q _ h2).trans (hb2.block q h3)))) (by have := hb4.size; have := hk4.size; have := hb2.size; omega) hg5 hs45 (by rcases hat with h | h; exact .inl (by simpa [Value.ownBlock] using h); exact .inr (by simp [Value.ownBlock] at h; omega)) hL3 hde (fun e he => HLs e (List.mem_cons_of_mem _ he)) (hL4.keep (Nat.le_refl _) (fun _ _ _ => rfl) (fun q hq _ => ⟨fun h => by have := hEw0 q h; have := hEwW q h; omega, by omega⟩)) hdr2 hil (hJ _ _ _ hJ4 (((hb4.mono s4).alloc (by have := hb4.size; omega) _).grown hgrow (by have := hb4.size; simp; omega) (fun q e => by cases e; exact hgW.1))) (by omega) (hdi _ (List.mem_cons_self ..)) (fun e he => hdi e (List.mem_cons_of_mem _ he)) ((World.cell?_of_block (w := W4) (a := ⟨bp, 0, none⟩) (hg5 bp (by have := hb4.size; omega) (by omega))).trans ((hb4.cell (cell_block P4)).trans P4)) (((B4.trans (hb4.mono B4.size)).alloc (by have := B4.size; have := hb4.size; omega) _).grown hgrow (by have := B4.size; have := hb4.size; simp; omega) (fun q e => by cases e; exact hg0)) (by have := hb4.size; omega); rw [hk] at HH; have HHH := Lib.hid HH; clear HH hgrow hat hg5 hown6 hown5 hown4))
              refine ⟨⟨_, HHH.out⟩, ?_⟩
              rw [HM.out]
              have h1 := least_le HHH.out
              omega
            · gi_wp2
              refine bodyPost_ret (results_none rfl _ _ _) rfl ?_
              exact ⟨⟨_, rfl⟩, .inr ⟨i + 1, hil, hJx4⟩⟩
end Go.Proofs.YtcliijfdlcagoaaGreat
