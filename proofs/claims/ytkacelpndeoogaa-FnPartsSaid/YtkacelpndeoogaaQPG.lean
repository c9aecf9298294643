/- Joined texts: Float VisE Slots DelF DelG. -/
import Derived.Test.YtkacelpndeoogaaQPD
import Derived.Test.YtkacelpndeoogaaQPF
import Derived.OwnWalkIn
import Derived.TacticsInMore
import Derived.LoopIn
import Derived.Lib.Hide
import Derived.Laws.CopyRow
import Derived.Lib.SliceRun
/- A region that draws its order, whose operations are quiet but for one allocation, which may come up at any time, and the store into it: one walk, in the order of the text. -/
namespace Go.Proofs.Ytkacelpndeoogaa
open Go.RowKit

/-- the region with operation m made idle -/
def idle : List Oper → Nat → List Oper
  | [], _ => []
  | o :: l, 0 => { o with op := .assign (.const undef) } :: l
  | o :: l, n + 1 => o :: idle l n
theorem idle_at : ∀ (l : List Oper) (m : Nat), (idle l m)[m]? = (l[m]?).map fun o => { o with op := .assign (.const undef) }
  | [], m => by simp [idle]
  | o :: l, 0 => by simp [idle]
  | o :: l, m + 1 => by simp [idle, idle_at l m]
theorem idle_ne : ∀ (l : List Oper) (m j : Nat), j ≠ m → (idle l m)[j]? = l[j]?
  | [], m, j, _ => by simp [idle]
  | o :: l, 0, 0, h => absurd rfl h
  | o :: l, 0, j + 1, _ => by simp [idle]
  | o :: l, m + 1, 0, _ => by simp [idle]
  | o :: l, m + 1, j + 1, h => by simp [idle, idle_ne l m j (by omega)]
theorem idle_same (l : List Oper) (m j : Nat) : ((idle l m)[j]?).map (fun o => (o.dst, o.after, o.guard)) = (l[j]?).map (fun o => (o.dst, o.after, o.guard)) := by
  by_cases h : j = m
  · subst h
    rw [idle_at]
    cases l[j]? <;> rfl
  · rw [idle_ne l m j h]
theorem idle_len : ∀ (l : List Oper) (m : Nat), (idle l m).length = l.length
  | [], _ => rfl
  | _ :: _, 0 => rfl
  | _ :: l, m + 1 => by simp [idle, idle_len l m]

section
variable {P : Program} {md : Region.Mode} {l lv : List Oper}
/-- two regions that differ in what is done alone -/
def Alike (l lv : List Oper) : Prop := ∀ j : Nat, (lv[j]?).map (fun o : Oper => (o.dst, o.after, o.guard)) = (l[j]?).map (fun o : Oper => (o.dst, o.after, o.guard))
theorem Alike.some (h : Alike l lv) {j : Nat} {o : Oper} (ho : l[j]? = some o) : ∃ o', lv[j]? = some o' ∧ o'.dst = o.dst ∧ o'.after = o.after ∧ o'.guard = o.guard := by
  have h1 := h j
  rw [ho] at h1
  cases h2 : lv[j]? with
  | none => rw [h2] at h1; cases h1
  | some o' =>
    rw [h2] at h1
    simp only [Option.map_some, Option.some.injEq, Prod.mk.injEq] at h1
    exact ⟨o', rfl, h1⟩
theorem Alike.symm (h : Alike l lv) : Alike lv l := fun j => (h j).symm
theorem Alike.ready (h : Alike l lv) {i : Nat} {listed : Array Bool} (hi : i ∈ Region.ready md l.toArray listed) : i ∈ Region.ready md lv.toArray listed := by
  obtain ⟨h1, o, ho, ha⟩ := mem_ready.1 hi
  obtain ⟨o', ho', _, e2, _⟩ := h.some (by simpa using ho)
  exact mem_ready.2 ⟨h1, o', by simpa using ho', by rw [e2]; exact ha⟩
theorem Alike.yielded (h : Alike l lv) (ts : Array Value) : yielded lv.toArray ts = yielded l.toArray ts := by
  funext j
  unfold Go.yielded
  have : (lv.toArray[j]?).bind (·.dst) = (l.toArray[j]?).bind (·.dst) := by
    have h1 := h j
    have e1 : lv.toArray[j]? = lv[j]? := by simp
    have e2 : l.toArray[j]? = l[j]? := by simp
    rw [e1, e2]
    cases h2 : lv[j]? <;> cases h3 : l[j]? <;> rw [h2, h3] at h1 <;> simp at h1 ⊢
    exact h1.1
  rw [this]
theorem Alike.wanted (h : Alike l lv) {o : Oper} (ts : Array Value) : Region.wanted o (Go.yielded lv.toArray ts) = Region.wanted o (Go.yielded l.toArray ts) := by rw [h.yielded]

/-- what is asked of the region -/
structure Floats (md : Region.Mode) (l : List Oper) (m s k : Nat) (d e : Tmp) (om os : Oper) : Prop where
  hm : l[m]? = some om
  hs : l[s]? = some os
  dst : om.dst = some d
  mg : om.guard = none
  sd : os.dst = none
  sg : os.guard = none
  wm : Region.waitsFor md l.toArray s m = true
  wk : Region.waitsFor md l.toArray s k = true
  ms : m ≠ s
  mnk : m ≠ k
  ap : ∀ j oj, l[j]? = some oj → j ≠ m → j ≠ s → om.apart l.toArray oj = true
  de : ∀ j oj, l[j]? = some oj → j ≠ k → oj.dst ≠ some e
  sel : Region.noSelect l.toArray = true
  back : ∀ i, i < l.length → backB md l l.length i = true
def floatsB (md : Region.Mode) (l : List Oper) (m s k : Nat) (d e : Tmp) : Bool :=
  (match l[m]?, l[s]? with
    | some om, some os => ((om.dst == some d) && om.guard.isNone) && (os.dst.isNone && os.guard.isNone) &&
      ((List.range l.length).all fun j => j == m || j == s || (match l[j]? with
        | some oj => om.apart l.toArray oj
        | none => true))
    | _, _ => false) &&
  ((Region.waitsFor md l.toArray s m && Region.waitsFor md l.toArray s k) && (m != s && m != k)) &&
  (((List.range l.length).all fun j => j == k || (match l[j]? with
    | some oj => oj.dst != some e
    | none => true)) && (Region.noSelect l.toArray && (List.range l.length).all fun i => backB md l l.length i))
theorem floats_of {m s k : Nat} {d e : Tmp} {om os : Oper} (hm : l[m]? = some om) (hs : l[s]? = some os) (h : floatsB md l m s k d e = true) : Floats md l m s k d e om os := by
  unfold floatsB at h
  rw [hm, hs] at h
  simp only [Bool.and_eq_true, Option.isNone_iff_eq_none, beq_iff_eq, bne_iff_ne, ne_eq] at h
  obtain ⟨⟨⟨⟨⟨h1, h2⟩, h3, h4⟩, h5⟩, ⟨h6, h7⟩, h8, h9⟩, h10, h11, h12⟩ := h
  refine ⟨hm, hs, h1, h2, h3, h4, h6, h7, h8, h9, ?_, ?_, h11, fun i hi => List.all_eq_true.1 h12 i (List.mem_range.2 hi)⟩
  · intro j oj hj hjm hjs
    have := List.all_eq_true.1 h5 j (List.mem_range.2 (List.getElem?_eq_some_iff.1 hj).1)
    rw [hj] at this
    simpa [hjm, hjs] using this
  · intro j oj hj hjk
    have := List.all_eq_true.1 h10 j (List.mem_range.2 (List.getElem?_eq_some_iff.1 hj).1)
    rw [hj] at this
    simpa [hjk] using this

theorem listed_whole {listed : Array Bool} (hs : listed.size = l.length) (hb : ∀ i, i < l.length → backB md l l.length i = true) (h : Region.ready md l.toArray listed = []) :
    ∀ i, i < l.length → listed.getD i true = true := by
  intro i
  induction i using Nat.strongRecOn with
  | _ i ih =>
    intro hi
    cases hl : listed.getD i true
    · exfalso
      have h1 := hb i hi
      unfold backB at h1
      rw [List.getElem?_eq_getElem hi, Bool.and_eq_true] at h1
      have hm : i ∈ Region.ready md l.toArray listed := by
        refine mem_ready.2 ⟨hl, l[i], by simp [hi], fun e he hbd => ?_⟩
        have h2 := Array.all_eq_true_iff_forall_mem.1 h1.1 e he
        rw [hbd] at h2
        have h3 : e.on < i := by simpa using h2
        have h4 := ih e.on h3 (by omega)
        have h5 : e.on < listed.size := by rw [hs]; omega
        simpa [h5] using h4
      rw [h] at hm
      cases hm
    · rfl

theorem waits_listed {s m : Nat} {listed : Array Bool} (hw : Region.waitsFor md l.toArray s m = true) (hr : s ∈ Region.ready md l.toArray listed) : listed.getD m false = true := by
  obtain ⟨oj, hoj, x, hx, hb, hon⟩ := Region.waitsFor_spec hw
  obtain ⟨_, o, ho, ha⟩ := mem_ready.1 hr
  obtain rfl : oj = o := Option.some.inj (hoj.symm.trans ho)
  rw [← hon]; exact ha x hx hb

theorem eval_put_ne {a : Act} {x : Option Tmp} {v : Value} {e : Tmp} (h : x ≠ some e) : (a.put x v).eval (.tmp e) = a.eval (.tmp e) :=
  Act.eval_put fun d hd he => h (by rw [hd]; injection he with he; rw [he])
/-- what stands in a slot that has been yielded stands there at the end -/
theorem look_end {C : World → Prop} {Qf : Act → Prop} {k : Nat} {e : Tmp} (de : ∀ j oj, lv[j]? = some oj → j ≠ k → oj.dst ≠ some e) :
    ∀ (f : Nat) (listed : Array Bool) (a : Act), wpAnyQ P md lv.toArray C Qf f listed a → listed.getD k false = true → ∃ a', Qf a' ∧ a'.eval (.tmp e) = a.eval (.tmp e)
  | 0, _, a, h, _ => ⟨a, h.2, rfl⟩
  | f + 1, listed, a, h, hk => by
    by_cases hr : Region.ready md lv.toArray listed = []
    · exact ⟨a, h.1 hr, rfl⟩
    · obtain ⟨i, hi⟩ := List.exists_mem_of_ne_nil _ hr
      obtain ⟨h0, o, ho, _⟩ := mem_ready.1 hi
      have hik : i ≠ k := fun e => by
        subst e
        rw [getD_both h0] at hk; cases hk
      obtain ⟨v, _, hK⟩ := yieldsIn_of_qOp ho (h.2 i hi)
      obtain ⟨a', h1, h2⟩ := look_end de f _ _ hK (getD_set_true hk)
      exact ⟨a', h1, h2.trans (eval_put_ne (de i o (by simpa using ho) hik))⟩

theorem wp_from_quiet {o : Oper} {a A : Act} {v : Value} {C : World → Prop} {K : Act → World → Prop} {Q' : Exit → Act → World → Prop} {w : World} (he : execOp A.eval o = execOp a.eval o) (hC : C w)
    (hq : o.quietAt P a C w v) (hK : ∀ w', C w' → K (A.put o.dst v) w') : o.wp P A w K Q' := by
  unfold Oper.quietAt at hq
  unfold Oper.wp
  rw [he]
  generalize (execOp a.eval o).run P w = r at *
  cases r with
  | ok n w' =>
    cases n <;> simp only [Oper.quietUpon] at hq <;> simp only [Oper.upon]
    case value u =>
      obtain ⟨e1, e2⟩ := hq
      rw [e1, e2]; exact hK _ hC
    case skip =>
      obtain ⟨e1, e2⟩ := hq
      rw [e1, ← e2]; exact hK _ hC
    case enter f args =>
      obtain ⟨e1, hc⟩ := hq
      rw [e1]
      exact hc.mono fun e w'' ⟨he, hw''⟩ => by subst he; exact hK _ hw''
  | halt x w' => simp only [Oper.quietUpon] at hq

/-- where the allocation and the store stand -/
inductive Stand (wr : World) (m s k : Nat) (d e : Tmp) (Z : Array Value) (T : TypeId) (Good : Value → Array Value → Prop) (listed : Array Bool) (a A : Act) (w : World) : Prop where
  | none (hm : listed.getD m true = false) (hs : listed.getD s true = false) (hA : A = a)
  | made (b : Nat) (hm : listed.getD m false = true) (hs : listed.getD s true = false) (hA : A = a.put (some d) (.pointer (some ⟨b, 0, none⟩))) (hb : wr.heap.size ≤ b) (hh : w.heap[b]? = some (.cells Z T (0, 0)))
  | done (b : Nat) (cs : Array Value) (hm : listed.getD m false = true) (hs : listed.getD s false = true) (hk : listed.getD k false = true) (hA : A = a.put (some d) (.pointer (some ⟨b, 0, none⟩))) (hb : wr.heap.size ≤ b)
      (hg : Good (a.eval (.tmp e)) cs) (hh : w.heap[b]? = some (.cells cs T (0, 0)))

theorem put_size (a : Act) (x : Option Tmp) (v : Value) : (a.put x v).tmps.size = a.tmps.size := by cases x <;> simp [Act.put]
theorem put_twice (a : Act) (d : Tmp) (v u : Value) : (a.put (some d) v).put (some d) u = a.put (some d) u := by simp [Act.put]
theorem put_eval {a : Act} {d : Tmp} {v : Value} (h : d < a.tmps.size) : (a.put (some d) v).eval (.tmp d) = v := by simp [Act.put, Act.eval, h]
theorem cells_lt {w : World} {b : Nat} {o : Obj} (h : w.heap[b]? = some o) : b < w.heap.size := (Array.getElem?_eq_some_iff.1 h).1

theorem float_any {wr : World} {Qf : Act → Prop} {Q' : Exit → Act → World → Prop} {m s k : Nat} {d e : Tmp} {om os : Oper} (HB : Floats md l m s k d e om os)
    {Z : Array Value} {T : TypeId} {Good : Value → Array Value → Prop}
    (hAl : ∀ (A : Act) (w : World), (execOp A.eval om).run P w = .ok (.value (.pointer (some ⟨w.heap.size, 0, none⟩))) (w.alloc (.cells Z T)))
    (hSt : ∀ (A : Act) (w : World) (b : Nat) (cs : Array Value), A.eval (.tmp d) = .pointer (some ⟨b, 0, none⟩) → Good (A.eval (.tmp e)) cs → w.heap[b]? = some (.cells Z T (0, 0)) →
      ∃ w', (execOp A.eval os).run P w = .ok .skip w' ∧ w'.heap[b]? = some (.cells cs T (0, 0)) ∧ Below b w w')
    (hG : ∀ a', Qf a' → ∃ cs, Good (a'.eval (.tmp e)) cs)
    (hQ : ∀ a' w' b cs, Qf a' → Below wr.heap.size wr w' → wr.heap.size ≤ b → Good (a'.eval (.tmp e)) cs → w'.heap[b]? = some (.cells cs T (0, 0)) → Q' .normal (a'.put (some d) (.pointer (some ⟨b, 0, none⟩))) w') :
    ∀ (f : Nat) (listed : Array Bool) (a A : Act) (w : World), listed.size = l.length → d < a.tmps.size → Below wr.heap.size wr w →
      (∀ X, Below wr.heap.size wr X → wpAnyQ P md (idle (idle l m) s).toArray (fun w' => ∃ n, w' = lat X n) Qf f listed a) →
      Stand wr m s k d e Z T Good listed a A w → wpAny P md l.toArray Q' f listed A w := by
  have hal : Alike l (idle (idle l m) s) := fun j => (idle_same (idle l m) s j).trans (idle_same l m j)
  have de' : ∀ j oj, (idle (idle l m) s)[j]? = some oj → j ≠ k → oj.dst ≠ some e := by
    intro j oj hj hjk
    obtain ⟨o', ho', e1, _, _⟩ := hal.symm.some hj
    rw [← e1]
    exact HB.de j o' ho' hjk
  have fin : ∀ (listed : Array Bool) (a A : Act) (w : World), listed.size = l.length → Below wr.heap.size wr w → Region.ready md l.toArray listed = [] → Qf a → Stand wr m s k d e Z T Good listed a A w → Q' .normal A w := by
    intro listed a A w hsz hw hr hq hst
    have hall := listed_whole hsz HB.back hr
    have hml : m < l.length := (List.getElem?_eq_some_iff.1 HB.hm).1
    have hsl : s < l.length := (List.getElem?_eq_some_iff.1 HB.hs).1
    cases hst with
    | none hm _ _ => rw [hall m hml] at hm; cases hm
    | made b _ hs _ _ _ => rw [hall s hsl] at hs; cases hs
    | done b cs _ _ _ hA hb hg hh => rw [hA]; exact hQ a w b cs hq hw hb hg hh
  intro f
  induction f with
  | zero =>
    intro listed a A w hsz _ hw hW hst
    have h0 := hW wr (Below.refl _ _)
    have hr : Region.ready md l.toArray listed = [] := by
      rcases hx : Region.ready md l.toArray listed with _ | ⟨i, r⟩
      · rfl
      · have := hal.ready (i := i) (by rw [hx]; exact List.mem_cons_self)
        rw [h0.1] at this; cases this
    exact ⟨hr, fin listed a A w hsz hw hr h0.2 hst⟩
  | succ f ih =>
    intro listed a A w hsz hd hw hW hst
    have h0 := hW wr (Below.refl _ _)
    refine ⟨fun hr => fin listed a A w hsz hw hr (h0.1 ?_) hst, fun j hj => ?_⟩
    · rcases hx : Region.ready md (idle (idle l m) s).toArray listed with _ | ⟨i, r⟩
      · rfl
      · have := hal.symm.ready (i := i) (by rw [hx]; exact List.mem_cons_self)
        rw [hr] at this; cases this
    · obtain ⟨hjun, oj, hoj, _⟩ := mem_ready.1 hj
      have hoj' : l[j]? = some oj := by simpa using hoj
      have hjv := hal.ready hj
      obtain ⟨ov, hov, edst, _, eguard⟩ := hal.some hoj'
      have hov' : (idle (idle l m) s).toArray[j]? = some ov := by simpa using hov
      have hsz' : (listed.setIfInBounds j true).size = l.length := by simpa using hsz
      obtain ⟨v, hy, _⟩ := yieldsIn_of_qOp hov' (h0.2 j hjv)
      have hall : ∀ X, Below wr.heap.size wr X → YieldsIn P (idle (idle l m) s).toArray (fun w' => ∃ n, w' = lat X n) ov v a ∧
          wpAnyQ P md (idle (idle l m) s).toArray (fun w' => ∃ n, w' = lat X n) Qf f (listed.setIfInBounds j true) (a.put ov.dst v) := by
        intro X hX
        obtain ⟨v', hy', hK'⟩ := yieldsIn_of_qOp hov' ((hW X hX).2 j hjv)
        have e1 : v' = v := by
          rcases hy with ⟨hw1, q1⟩ | ⟨hw1, rfl⟩ <;> rcases hy' with ⟨hw2, q2⟩ | ⟨hw2, rfl⟩
          · exact quiet_one (q2 X ⟨X, (lat_of (Below.refl _ _)).symm⟩) (q1 X ⟨X, (lat_of hX).symm⟩)
          · rw [hw1] at hw2; cases hw2
          · rw [hw1] at hw2; cases hw2
          · rfl
        subst e1
        exact ⟨hy', hK'⟩
      unfold wpOp
      rw [hoj]
      simp only []
      by_cases hjm : j = m
      · -- the allocation
        subst hjm
        obtain rfl : oj = om := Option.some.inj (hoj'.symm.trans HB.hm)
        have hwd : Region.wanted oj (yielded l.toArray A.tmps) = true := by unfold Region.wanted; rw [HB.mg]
        rw [if_pos hwd]
        refine .inl ?_
        unfold Oper.wp
        rw [hAl A w]
        simp only [Oper.upon]
        cases hst with
        | made b hm _ _ _ _ => rw [getD_both hjun] at hm; cases hm
        | done b cs hm _ _ _ _ _ _ => rw [getD_both hjun] at hm; cases hm
        | none hm hs hA =>
          subst hA
          refine ih _ (A.put ov.dst v) _ _ hsz' (by rw [put_size]; exact hd) (hw.alloc hw.size _) (fun X hX => (hall X hX).2) (Stand.made w.heap.size ?_ ?_ ?_ hw.size (heap_alloc_new w _))
          · have : j < listed.size := by rw [hsz]; exact (List.getElem?_eq_some_iff.1 hoj').1
            simp [this]
          · rw [getD_set_ne true HB.ms]; exact hs
          · rw [edst, HB.dst, put_twice]
      · by_cases hjs : j = s
        · -- the store
          subst hjs
          obtain rfl : oj = os := Option.some.inj (hoj'.symm.trans HB.hs)
          have hwd : Region.wanted oj (yielded l.toArray A.tmps) = true := by unfold Region.wanted; rw [HB.sg]
          rw [if_pos hwd]
          have hlm := waits_listed HB.wm hj
          have hlk := waits_listed HB.wk hj
          cases hst with
          | none hm _ _ => rw [getD_both hm] at hlm; cases hlm
          | done b cs _ hs _ _ _ _ _ => rw [getD_both hjun] at hs; cases hs
          | made b hm hs hA hb hh =>
            obtain ⟨a', hq', he'⟩ := look_end de' _ _ _ h0 hlk
            obtain ⟨cs, hg⟩ := hG a' hq'
            rw [he'] at hg
            have hne : (some d : Option Tmp) ≠ some e := by
              have h1 := HB.de m om HB.hm HB.mnk
              rw [HB.dst] at h1; exact h1
            obtain ⟨w', hrun, hh', hbw⟩ := hSt A w b cs (by rw [hA]; exact put_eval hd) (by rw [hA, eval_put_ne hne]; exact hg) hh
            refine .inl ?_
            unfold Oper.wp
            rw [hrun]
            simp only [Oper.upon]
            rw [HB.sd]
            refine ih _ a A w' hsz' hd (hw.trans (hbw.mono hb)) (fun X hX => ?_) (Stand.done b cs (getD_set_true hm) ?_ (getD_set_true hlk) hA hb hg hh')
            · have := (hall X hX).2
              rw [edst, HB.sd] at this
              exact this
            · have : j < listed.size := by rw [hsz]; exact (List.getElem?_eq_some_iff.1 hoj').1
              simp [this]
        · -- any other
          obtain rfl : ov = oj := by
            rw [idle_ne _ _ _ hjs, idle_ne _ _ _ hjm] at hov
            exact Option.some.inj (hov.symm.trans hoj')
          have hap := HB.ap j ov hoj' hjm hjs
          obtain ⟨h1, h2, _⟩ := Oper.apart_spec hap
          rw [HB.dst] at h1 h2
          have hsj : ∀ cs b, ov.op ≠ .select cs b := fun cs b => Region.noSelect_spec HB.sel j ov cs b hoj
          obtain ⟨hyw, _⟩ := hall w hw
          have hAe : execOp A.eval ov = execOp a.eval ov ∧ Region.wanted ov (yielded l.toArray A.tmps) = Region.wanted ov (yielded l.toArray a.tmps) := by
            cases hst with
            | none _ _ hA => subst hA; exact ⟨rfl, rfl⟩
            | made b _ _ hA _ _ => subst hA; exact ⟨execOp_put (ops := l.toArray) ov hsj a (some d) _ h1, wanted_put ov a (some d) _ h1⟩
            | done b cs _ _ _ hA _ _ _ => subst hA; exact ⟨execOp_put (ops := l.toArray) ov hsj a (some d) _ h1, wanted_put ov a (some d) _ h1⟩
          have next : ∀ w', Below w.heap.size w w' → wpAny P md l.toArray Q' f (listed.setIfInBounds j true) (A.put ov.dst v) w' := by
            intro w' hb'
            refine ih _ (a.put ov.dst v) _ w' hsz' (by rw [put_size]; exact hd) (hw.trans (hb'.mono hw.size)) (fun X hX => (hall X hX).2) ?_
            cases hst with
            | none hm hs hA => subst hA; exact .none (by rw [getD_set_ne true hjm]; exact hm) (by rw [getD_set_ne true hjs]; exact hs) rfl
            | made b hm hs hA hb hh =>
              subst hA
              exact .made b (getD_set_true hm) (by rw [getD_set_ne true hjs]; exact hs) (Act.put_comm _ _ _ h2) hb ((hb'.block b (cells_lt hh)).trans hh)
            | done b cs hm hs hk hA hb hg hh =>
              subst hA
              have hjk : j ≠ k := fun e => by subst e; rw [getD_both hjun] at hk; cases hk
              exact .done b cs (getD_set_true hm) (getD_set_true hs) (getD_set_true hk) (Act.put_comm _ _ _ h2) hb (by rw [eval_put_ne (HB.de j ov hoj' hjk)]; exact hg) ((hb'.block b (cells_lt hh)).trans hh)
          rw [hAe.2]
          rcases hyw with ⟨hw1, q⟩ | ⟨hw1, rfl⟩
          · rw [hal.wanted] at hw1
            rw [if_pos hw1]
            exact .inl (wp_from_quiet hAe.1 ⟨w, (lat_of (Below.refl _ _)).symm⟩ (q w ⟨w, (lat_of (Below.refl _ _)).symm⟩) fun w' ⟨n, hn⟩ => next w' (by rw [hn]; exact lat_below w n))
          · rw [hal.wanted] at hw1
            rw [if_neg (by rw [hw1]; exact Bool.false_ne_true)]
            exact next w (Below.refl _ _)

/-- the region, by one walk of its operations with the allocation and the store made idle -/
theorem region_float {id : Nat} {Q : Exit → Act → World → Prop} {a : Act} {w : World} (m s k : Nat) (d e : Tmp) {Qf : Act → Prop} {om os : Oper} (hm : l[m]? = some om) (hs : l[s]? = some os)
    (hmix : P.follows .mixedOrders = true) (hB : floatsB .any l m s k d e = true) (hL : Region.lexB .any (idle (idle l m) s).toArray = true) (hd : d < a.tmps.size)
    {Z : Array Value} {T : TypeId} {Good : Value → Array Value → Prop}
    (hAl : ∀ (A : Act) (w : World), (execOp A.eval om).run P w = .ok (.value (.pointer (some ⟨w.heap.size, 0, none⟩))) (w.alloc (.cells Z T)))
    (hSt : ∀ (A : Act) (w : World) (b : Nat) (cs : Array Value), A.eval (.tmp d) = .pointer (some ⟨b, 0, none⟩) → Good (A.eval (.tmp e)) cs → w.heap[b]? = some (.cells Z T (0, 0)) →
      ∃ w', (execOp A.eval os).run P w = .ok .skip w' ∧ w'.heap[b]? = some (.cells cs T (0, 0)) ∧ Below b w w')
    (hG : ∀ a', Qf a' → ∃ cs, Good (a'.eval (.tmp e)) cs)
    (hW : ∀ X, Below w.heap.size w X → wpQuiet P (idle (idle l m) s).toArray (fun w' => ∃ n, w' = lat X n) Qf (idle (idle l m) s) a)
    (hQ : ∀ a' w' b cs, Qf a' → Below w.heap.size w w' → w.heap.size ≤ b → Good (a'.eval (.tmp e)) cs → w'.heap[b]? = some (.cells cs T (0, 0)) → Q .normal (a'.put (some d) (.pointer (some ⟨b, 0, none⟩))) w') :
    (Code.region id l.toArray true).wp P Q a w := by
  have HB := floats_of hm hs hB
  simp only [Region.lexB, Bool.and_eq_true] at hL
  have hlen : (idle (idle l m) s).length = l.length := by rw [idle_len, idle_len]
  refine wp_region_any hmix ?_
  have hml : m < l.length := (List.getElem?_eq_some_iff.1 hm).1
  have hsl : s < l.length := (List.getElem?_eq_some_iff.1 hs).1
  refine float_any (wr := w) HB hAl hSt hG hQ _ _ a a _ (by simp) hd ⟨rfl, rfl, rfl, Nat.le_refl _, fun _ _ => rfl⟩ (fun X hX => ?_) (.none (by simp [hml]) (by simp [hsl]) rfl)
  have := wpAnyQ_lex (P := P) (C := fun w' => ∃ n, w' = lat X n) (md := .any) hL.1 (idle (idle l m) s) 0 (Array.replicate (idle (idle l m) s).toArray.size false) a (by simp) (by simpa using hL.2) (hW X hX)
  simpa [hlen] using this
end
end Go.Proofs.Ytkacelpndeoogaa

/- The program's walk over the expressions of a list and all that lies below them. -/
namespace Go.Proofs.Ytkacelpndeoogaa
open Go.RowKit
attribute [local go_sem] Oper.semAt_some

abbrev VE : FuncId := 156
/-- a node as the body of a range gets it -/
def okE (w0 : World) (p : Nat × Nd) (v : Array Value) : Prop := ∃ ys : List Value, OutK exprTy w0 ys [p.2] ∧ v = #[.int .i64 (p.1 : Int), .agg ys.toArray]
/-- what the walk asks of the function that tells the parts -/
def PartsE (pf : FuncId) (pt : Nd → List Nd) (w0 : World) (c : Nd) : Prop := ∀ (ys : List Value) (W : World), OutK exprTy w0 ys [c] → Below w0.heap.size w0 W →
  Calls Try.prog pf #[.agg ys.toArray] W fun e W' => ∃ v, e = .returned v ∧ LK exprTy w0 W' (fun g => g < w0.heap.size ∨ W.heap.size ≤ g) v (pt c) ∧ Below W.heap.size W W'
theorem loadAt_row {P : Program} {w : World} {T : TypeId} {g o n : Nat} {ys : List Value} (hl : ys.length = n) (hA : ∀ w, (isAgg T).run P w = .ok true w) (hs : ∀ w, (sizeOf T).run P w = .ok n w) (hc : ∀ j u, ys[j]? = some u → w.cell? ⟨g, o + j, none⟩ = some u) :
    (Instr.loadAt T (.pointer (some ⟨g, o, none⟩))).run P w = .ok (.agg ys.toArray) w := by
  have h := run_loadCells_list (P := P) w ⟨g, o, none⟩ ys fun j u hj => by
    have hadd : (⟨g, o, none⟩ : Addr).add j = ⟨g, o + j, none⟩ := by unfold Addr.add; split <;> simp_all
    rw [hadd]; exact hc j u hj
  rw [hl] at h
  simp [Instr.loadAt, Instr.sureAddr, loadVar, hA, hs, h, Result.andThen]
/-- a load of a whole element, as one -/
def ldX (T : TypeId) (v : Value) : Sem Next := do pure (.value (← Instr.loadAt T v))
theorem run_ldX {P : Program} {w : World} {T : TypeId} {g o n : Nat} {ys : List Value} (hl : ys.length = n) (hA : ∀ w, (isAgg T).run P w = .ok true w) (hs : ∀ w, (sizeOf T).run P w = .ok n w) (hc : ∀ j u, ys[j]? = some u → w.cell? ⟨g, o + j, none⟩ = some u) :
    (ldX T (.pointer (some ⟨g, o, none⟩))).run P w = .ok (.value (.agg ys.toArray)) w := by
  have h := loadAt_row (P := P) hl hA hs hc
  simp [ldX, h, Result.andThen]
theorem ones_of (l : List Value) (h : l.all Value.oneCell' = true) : ∀ v ∈ l, v.oneCell' = true := fun v hv => List.all_eq_true.1 h v hv
theorem storeAt_row {P : Program} {w : World} {b : Nat} {T : TypeId} {zs : Array Value} (vs : List Value) (hs : ∀ w, (sizeOf T).run P w = .ok vs.length w) (hl : vs.length = zs.size) (h1 : vs.all Value.oneCell' = true)
    (hh : w.heap[b]? = some (.cells zs T (0, 0))) : (Instr.storeAt T (.pointer (some ⟨b, 0, none⟩)) (.agg vs.toArray)).run P w = .ok () (w.setRow b vs.toArray) := by
  have hst := run_storeCells_at (P := P) b 0 T vs 0 zs w hh (by omega) (ones_of vs h1)
  have e : (zs.toList.take (0 + 0) ++ vs ++ zs.toList.drop (0 + 0 + vs.length)).toArray = vs.toArray := by
    have : zs.toList.length = zs.size := Array.length_toList
    rw [List.drop_eq_nil_of_le (by omega)]
    simp
  rw [e] at hst
  simp [Instr.storeAt, Instr.sureAddr, storeVar, Value.cells, hs, hst, Result.andThen]
theorem putsA_all {ys : List Value} {cs : Array Value} (h : ys.length = cs.size) : putsA 0 ys cs = ys.toArray := by
  refine Array.ext_getElem? fun i => ?_
  by_cases hi : i < ys.length
  · have := putsA_in ys 0 cs i hi (by omega)
    rw [Nat.zero_add] at this
    rw [this]; simp
  · rw [Array.getElem?_eq_none (by rw [putsA_size]; omega), Array.getElem?_eq_none (by simpa using hi)]
theorem alloc_xE (A : Act) (w : World) (dst : Option Tmp) (ty : TypeId) (pos : String) (af) (g) :
    (execOp A.eval { dst := dst, op := .alloc 29, type := ty, pos := pos, after := af, guard := g }).run Try.prog w =
      .ok (.value (.pointer (some ⟨w.heap.size, 0, none⟩))) (w.alloc (.cells #[.int .i64 0, .int .i64 0, .bool false, .int .i64 0, .int .i64 0, .string ⟨#[]⟩, .string ⟨#[]⟩, .string ⟨#[]⟩, .slice none 0 0, .slice none 0 0] 29)) := by
  simp [go_sem]
def GoodE (u : Value) (cs : Array Value) : Prop := ∃ zs : List Value, u = .agg zs.toArray ∧ zs.length = 10 ∧ zs.all Value.oneCell' = true ∧ cs = zs.toArray
set_option maxHeartbeats 2000000 in
theorem store_xE (A : Act) (w : World) (b : Nat) (cs : Array Value) (d e : Tmp) (dst : Option Tmp) (ty : TypeId) (pos : String) (af) (g) (hp : A.eval (.tmp d) = .pointer (some ⟨b, 0, none⟩)) (hg : GoodE (A.eval (.tmp e)) cs)
    (hh : w.heap[b]? = some (.cells #[.int .i64 0, .int .i64 0, .bool false, .int .i64 0, .int .i64 0, .string ⟨#[]⟩, .string ⟨#[]⟩, .string ⟨#[]⟩, .slice none 0 0, .slice none 0 0] 29 (0, 0))) :
    ∃ w', (execOp A.eval { dst := dst, op := .store 29 (.tmp d) (.tmp e), type := ty, pos := pos, after := af, guard := g }).run Try.prog w = .ok .skip w' ∧
      w'.heap[b]? = some (.cells cs 29 (0, 0)) ∧ Below b w w' := by
  obtain ⟨zs, hu, hzl, hzo, rfl⟩ := hg
  have hst := storeAt_row (P := Try.prog) (zs := #[.int .i64 0, .int .i64 0, .bool false, .int .i64 0, .int .i64 0, .string ⟨#[]⟩, .string ⟨#[]⟩, .string ⟨#[]⟩, .slice none 0 0, .slice none 0 0]) zs (fun w => by rw [hzl]; exact Try.sizeOf29 w) hzl hzo hh
  refine ⟨_, ?_, setRow_heap w b _ _ _ _ hh, ⟨rfl, rfl, rfl, by simp, fun k hk => setRow_other w b k _ (by omega)⟩⟩
  rotate_left
  unfold execOp
  simp only [hp, hu, Sem.run_bind, hst, Result.andThen]
  rfl
/-- between two rounds of the walk: i nodes have come, the stack holds the rest -/
structure StE (pr : Nat → Nd → List (Nat × Nd)) (w0 W : World) (J : Nat → World → Prop) (Ew : Nat → Prop) (xs : List (Nat × Nd)) (bp : Nat) (s : Value) (wr : World) (m : Nat) : Prop where
  ex : ∃ (i : Nat) (S : List Ent) (g cap : Nat), s = .slice (some ⟨g, 0, none⟩) S.length cap ∧
    wr.ownsRow W.heap.size 192 2 s S.length (entCells S) ∧
    (∀ e ∈ S, LK exprTy w0 wr (fun k => ¬ Ew k ∧ k ≠ g) e.v e.L ∧ 1 ≤ e.d) ∧ xs.drop i = left pr S ∧ i ≤ xs.length ∧ J i wr ∧ m = 2 * (xs.length - i) + S.length ∧ S.length ≤ i + 1 ∧ (∀ e ∈ S, e.d ≤ i + 1)
  box : wr.cell? ⟨bp, 0, none⟩ = some (.func (.func 90) #[] #[])
  b0 : Below w0.heap.size w0 wr
  sz : W.heap.size ≤ wr.heap.size
theorem StE.push {pr : Nat → Nd → List (Nat × Nd)} {pt : Nd → List Nd} {w0 W : World} {J : Nat → World → Prop} {Ew : Nat → Prop} {xs : List (Nat × Nd)} {bp i d g g' cap' : Nat} {r : List Ent} {t pv : Value} {L' : List Nd} {c : Nd} {wr W4 w5 : World}
    (hown : w5.ownsRow W.heap.size 192 2 (.slice (some ⟨g', 0, none⟩) (r.length + 1 + 1) cap') (r.length + 1 + 1) (entCells (⟨d, t, L'⟩ :: r) ++ [.int .i64 ((d : Int) + 1), pv]))
    (hch : ∀ q, ¬ Ew q → q ≠ g → q < wr.heap.size → W4.heap[q]? = wr.heap[q]?) (hsz : wr.heap.size ≤ W4.heap.size) (hg5 : ∀ q, q < W4.heap.size → q ≠ g → w5.heap[q]? = W4.heap[q]?) (s5 : W4.heap.size ≤ w5.heap.size)
    (hat : g' = g ∨ W4.heap.size ≤ g') (hL3 : LK exprTy w0 wr (fun q => ¬ Ew q ∧ q ≠ g) t L') (hd : 1 ≤ d) (hr : ∀ e ∈ r, LK exprTy w0 wr (fun q => ¬ Ew q ∧ q ≠ g) e.v e.L ∧ 1 ≤ e.d)
    (hL4 : LK exprTy w0 W4 (fun q => ¬ Ew q ∧ q ≠ g) pv (pt c)) (hdr : xs.drop (i + 1) = ((pt c).flatMap (pr (d + 1)) ++ L'.flatMap (pr d)) ++ left pr r) (hil : i < xs.length)
    (hJ : J (i + 1) w5) (hSi : r.length ≤ i) (hdd : d ≤ i + 1) (hdr' : ∀ e ∈ r, e.d ≤ i + 1) (hp : w5.cell? ⟨bp, 0, none⟩ = some (.func (.func 90) #[] #[])) (hb : Below w0.heap.size w0 w5) (hz : W.heap.size ≤ w5.heap.size) :
    StE pr w0 W J Ew xs bp (.slice (some ⟨g', 0, none⟩) (r.length + 1 + 1) cap') w5 (2 * (xs.length - (i + 1)) + (r.length + 1 + 1)) := by
  have K : ∀ {v : Value} {L : List Nd}, LK exprTy w0 wr (fun q => ¬ Ew q ∧ q ≠ g) v L → LK exprTy w0 w5 (fun q => ¬ Ew q ∧ q ≠ g') v L := fun h =>
    h.keep (Nat.le_trans hsz s5) (fun q hq hlt => (hg5 q (Nat.lt_of_lt_of_le hlt hsz) hq.2).trans (hch q hq.1 hq.2 hlt)) fun q hq hlt => ⟨hq.1, by rcases hat with h | h <;> omega⟩
  refine ⟨⟨i + 1, ⟨d + 1, pv, pt c⟩ :: ⟨d, t, L'⟩ :: r, g', cap', rfl, hown, ?_, ?_, hil, hJ, rfl, by show r.length + 1 + 1 ≤ _; omega, ?_⟩, hp, hb, hz⟩
  · intro e he
    simp only [List.mem_cons] at he
    rcases he with rfl | rfl | he
    · exact ⟨hL4.keep s5 (fun q hq hlt => hg5 q hlt hq.2) fun q hq hlt => ⟨hq.1, by rcases hat with h | h <;> omega⟩, by show 1 ≤ d + 1; omega⟩
    · exact ⟨K hL3, hd⟩
    · exact ⟨K (hr e he).1, (hr e he).2⟩
  · rw [hdr, List.append_assoc]; rfl
  · intro e he
    simp only [List.mem_cons] at he
    rcases he with rfl | rfl | he
    · show d + 1 ≤ i + 1 + 1; omega
    · show d ≤ i + 1 + 1; omega
    · have := hdr' e he; omega
theorem cells_new2 (w : World) (x y : Value) (T : TypeId) : ∀ j u, [x, y][j]? = some u → (w.alloc (.cells #[x, y] T)).cell? ((⟨w.heap.size, 0, none⟩ : Addr).add j) = some u := by
  intro j u hj
  have hrow := heap_alloc_new w (.cells #[x, y] T)
  have hp : (⟨w.heap.size, 0, none⟩ : Addr).add j = ⟨w.heap.size, j, none⟩ := by unfold Addr.add; split <;> simp_all
  rw [hp, cell_of_row _ w.heap.size j _ T (0, 0) hrow]
  simpa using hj
theorem slice_of_owns {w : World} {B T sz k : Nat} {v : Value} {xs : List Value} (h : w.ownsRow B T sz v (k + 1) xs) : ∃ g cap, v = .slice (some ⟨g, 0, none⟩) (k + 1) cap := by
  rcases h.2 with ⟨_, h0⟩ | ⟨g, cap, _, e, _⟩
  · cases h0
  · exact ⟨g, cap, e⟩
theorem execOp_ldE (ρ : Operand → Value) (dst : Option Tmp) (x : Operand) (ty : TypeId) (pos : String) (after : Array Edge) (guard : Option (Nat × Bool)) :
    execOp ρ { dst := dst, op := .load 29 x, type := ty, pos := pos, after := after, guard := guard } = ldX 29 (ρ x) := rfl
attribute [local go_sem ↓] execOp_ldE
theorem Try.infoBrE : (Try.prog.info? 192).map (fun i => (i.zero, i.size, i.bytes)) = some (some (.agg #[.int .i64 0, .slice none 0 0]), 2, 32) := by kernel_rfl
set_option maxRecDepth 100000 in
set_option maxHeartbeats 8000000 in
theorem visE_any (pr : Nat → Nd → List (Nat × Nd)) (pt : Nd → List Nd) (go : Nat × Nd → Prop) (w0 w : World) (L0 : List Nd) (v0 : Value) (bl bp : Nat) (E : Nat → Prop) (xs : List (Nat × Nd)) (n : Nat) (hxs : xs = L0.flatMap (pr 1)) (hlen : xs.length ≤ 2000000)
    (h0 : Below w0.heap.size w0 w) (hE : ∀ k, E k → w0.heap.size ≤ k ∧ k < w.heap.size) (hbl : w.cell? ⟨bl, 0, none⟩ = some v0) (hbp : w.cell? ⟨bp, 0, none⟩ = some (.func (.func 90) #[] #[])) (hbE : ¬ E bp)
    (hv : LK exprTy w0 w (fun g => ¬ E g) v0 L0) (HP : ∀ d c, (d, c) ∈ xs → go (d, c) → PartsE 90 pt w0 c) (hhd : ∀ d c, ∃ l, pr d c = (d, c) :: l) (hpre : ∀ d c, (d, c) ∈ xs → go (d, c) → pr d c = (d, c) :: (pt c).flatMap (pr (d + 1))) :
    SeqV Fence.wide n Try.prog VE #[.pointer (some ⟨bl, 0, none⟩), .pointer (some ⟨bp, 0, none⟩)] xs (okE w0) go E w := by
  intro l J Jx Ew W hW hEw hJ hJx hY hJ0
  refine callsIn_wide.2 ?_
  obtain ⟨a0, cap0, rfl⟩ := hv.slice
  have kl := (hW.cell (cell_block hbl)).trans hbl
  have hwW : w.heap.size ≤ W.heap.size := hW.size
  have hv1 : LK exprTy w0 W (fun g => ¬ Ew g ∧ g < w.heap.size) (.slice a0 L0.length cap0) L0 := hv.keep hW.size (fun g _ hlt => hW.block g hlt) fun g hg hlt => ⟨fun he => (hEw g he).elim hg fun h => by omega, hlt⟩
  have hb0 : Below w0.heap.size w0 W := h0.trans (hW.mono h0.size)
  go_enter Try.func156, Try.ntmps156
  go_wp2_with fail
  have hown : (W.alloc (.cells #[.int .i64 1, .slice a0 L0.length cap0] 192)).ownsRow W.heap.size 192 2 (.slice (some ⟨W.heap.size, 0, none⟩) 1 1) 1 (entCells [⟨1, .slice a0 L0.length cap0, L0⟩]) :=
    World.ownsRow_lit W #[.int .i64 1, .slice a0 L0.length cap0] 1 (Nat.le_refl _) (by decide) rfl
  have hsE : StE pr w0 W J Ew xs bp (.slice (some ⟨W.heap.size, 0, none⟩) 1 1) (W.alloc (.cells #[.int .i64 1, .slice a0 L0.length cap0] 192)) (2 * xs.length + 1) := by
    have hal : Below W.heap.size W (W.alloc (.cells #[.int .i64 1, .slice a0 L0.length cap0] 192)) := (Below.refl _ _).alloc (Nat.le_refl _) _
    refine ⟨⟨0, [⟨1, .slice a0 L0.length cap0, L0⟩], W.heap.size, 1, rfl, hown, ?_, ?_, Nat.zero_le _, hJ _ _ _ hJ0 hal, rfl, Nat.le_refl _, ?_⟩, ?_, hb0.trans (hal.mono hb0.size), hal.size⟩
    · intro e he
      obtain rfl : e = _ := by simpa using he
      exact ⟨hv1.keep hal.size (fun g _ hlt => hal.block g hlt) fun g hg hlt => ⟨hg.1, by omega⟩, Nat.le_refl _⟩
    · rw [List.drop_zero, hxs]; show _ = _ ++ []; rw [List.append_nil]
    · intro e he
      obtain rfl : e = _ := by simpa using he
      exact Nat.le_refl _
    · have h1 := (hW.cell (cell_block hbp)).trans hbp
      exact (hal.cell (cell_block h1)).trans h1
  clear hown
  generalize W.alloc (.cells #[.int .i64 1, .slice a0 L0.length cap0] 192) = W1 at hsE ⊢
  go_loopw [4] (fun s wr => ∃ m, StE pr w0 W J Ew xs bp s wr m) (fun s wr => least (StE pr w0 W J Ew xs bp s wr))
  case atStart => exact ⟨_, hsE⟩
  case round =>
    have hm := least_is hrel.choose_spec
    obtain ⟨M, hM⟩ : ∃ M, least (StE pr w0 W J Ew xs bp u4 wr) = M := ⟨_, rfl⟩
    rw [hM] at hm
    clear hrel
    obtain ⟨⟨i, S, g, cap, hu, hown, hS, hdrop, hile, hJi, hmeq, hSi, hdi⟩, hparts, hb, hsz⟩ := hm
    have HM : Hid (least (StE pr w0 W J Ew xs bp u4 wr) = M) := hM
    clear hM
    cases S with
    | nil =>
      subst hu
      go_wp2_with fail
      go_end0
      have : i = xs.length := by
        have h1 : xs.drop i = [] := hdrop
        have := List.drop_eq_nil_iff.1 h1
        omega
      exact ⟨⟨_, rfl⟩, .inl (this ▸ hJi)⟩
    | cons e r =>
      obtain ⟨hLe, hde⟩ := hS e (List.mem_cons_self ..)
      obtain ⟨d, v, L⟩ := e
      obtain ⟨k, hk⟩ : ∃ k, r.length = k := ⟨_, rfl⟩
      have hkk : k ≤ 2000000 := by simp at hSi; omega
      replace hu : u4 = .slice (some ⟨g, 0, none⟩) (r.length + 1) cap := hu
      replace hown : wr.ownsRow W.heap.size 192 2 (.slice (some ⟨g, 0, none⟩) (r.length + 1) cap) (r.length + 1) (entCells (⟨d, v, L⟩ :: r)) := by rw [hu] at hown; exact hown
      replace hmeq : M = 2 * (xs.length - i) + (r.length + 1) := hmeq
      replace hSi : r.length + 1 ≤ i + 1 := hSi
      obtain ⟨hcap, hgW⟩ := ownsRow_facts hown
      obtain ⟨k0, k1, k2⟩ := ent_cells hown
      rw [hk] at hu hown hmeq hSi k0 k1 k2 hcap
      subst hu
      obtain ⟨a, cp, rfl⟩ : ∃ a cp, v = .slice a L.length cp := hLe.slice
      cases L with
      | nil =>
        simp only [List.length_nil] at k1
        have HH : StE pr w0 W J Ew xs bp (.slice (some ⟨g, 0, none⟩) k cap) wr (2 * (xs.length - i) + k) := by
          subst hk
          exact ⟨⟨i, r, g, cap, rfl, ent_pop hown, fun e he => hS e (List.mem_cons_of_mem _ he), hdrop, hile, hJi, rfl, by omega, fun e he => hdi e (List.mem_cons_of_mem _ he)⟩, hparts, hb, hsz⟩
        go_wp2_with fail
        refine ⟨⟨_, HH⟩, ?_⟩
        rw [HM.out]
        have h1 := least_le HH
        omega
      | cons c L' =>
        obtain ⟨ga, oa, cp', ys, hv1, hcp, hys, hGa, hga, hcell, htl⟩ := hLe.head
        injection hv1 with e1 e2 e3
        subst e1; subst e3
        have hyl : ys.length = 10 := hys.1
        have hyo : ys.all Value.oneCell' = true := List.all_eq_true.2 hys.ones
        have ld0 := run_ldX (P := Try.prog) hyl Try.isAgg29 Try.sizeOf29 hcell
        simp only [List.length_cons] at k1
        go_wp2_with fail
        refine' region_float (Qf := fun a' => a' = _) 10 12 9 7 39 rfl rfl (by kernel_rfl) (by kernel_rfl) (by kernel_rfl) (by simp) (fun A w => alloc_xE A w _ _ _ _ _) (fun A w b cs hp hg hh => store_xE A w b cs _ _ _ _ _ _ _ hp hg hh) ?hG ?hW ?hQ
        case hW =>
          intro X hX
          have g0 := lat_cell ((hX.cell (cell_block k0)).trans k0)
          have g1 := lat_cell ((hX.cell (cell_block k1)).trans k1)
          have X0 : ∀ n, (ldX 29 (.pointer (some ⟨ga, oa, none⟩))).run Try.prog (lat X n) = .ok (.value (.agg ys.toArray)) (lat X n) := fun n => run_ldX hyl Try.isAgg29 Try.sizeOf29 fun j u hj => lat_cell ((hX.cell (cell_block (hcell j u hj))).trans (hcell j u hj)) n
          clear hX
          simp only [idle]
          iterate 13 go_big_quiet_step (fail)
          refine wpQuiet_nil ?_
          exact rfl
        case hG =>
          rintro _ rfl
          exact ⟨_, ys, rfl, hyl, hyo, rfl⟩
        case hQ =>
          rintro _ w2 b2 cs rfl hb2 hlt2 ⟨zs, hu2, -, -, rfl⟩ hh2
          obtain rfl : ys = zs := by simpa [Act.eval] using hu2
          clear hu2
          have K1 := (hb2.cell (cell_block k1)).trans k1
          have K2 := (hb2.frozen (cell_block k1)).trans k2
          simp only [Act.put, List.setIfInBounds_toArray, List.set_cons_zero, List.set_cons_succ]
          rename_i hK
          refine hK _ _ ((wpIn_wide (n := n)).1 ?_)
          clear hK
          have hbg : b2 ≠ g := by omega
          have HX : ∀ t, RowAt (w2.setCell ⟨g, k * 2 + 1, none⟩ t) b2 29 ys.toArray := fun t => RowAt.other (hh2 : RowAt _ _ _ _) hbg
          have hcp1 : 1 ≤ cp := by omega
          obtain ⟨lpre, hlpre⟩ := hhd d c
          have hdr : xs.drop i = (d, c) :: ((lpre ++ L'.flatMap (pr d)) ++ left pr r) := by
            rw [hdrop]
            show (c :: L').flatMap (pr d) ++ left pr r = _
            rw [List.flatMap_cons, hlpre]
            rfl
          have hxi : xs[i]? = some (d, c) := by
            have h1 : (xs.drop i)[0]? = some (d, c) := by rw [hdr]; rfl
            rw [List.getElem?_drop] at h1
            exact h1
          have hil : i < xs.length := (List.getElem?_eq_some_iff.1 hxi).1
          have hmem : (d, c) ∈ xs := List.mem_of_getElem? hxi
          have hb2s : b2 < w2.heap.size := (Array.getElem?_eq_some_iff.1 hh2).1
          have hWw2 : W.heap.size ≤ w2.heap.size := Nat.le_trans hsz hb2.size
          have hJ3 : ∀ t, J (i) (w2.setCell ⟨g, k * 2 + 1, none⟩ t) := fun t => hJ _ _ _ hJi ((hb2.mono hsz).setCell (p := ⟨g, k * 2 + 1, none⟩) hgW.1 _)
          have hEwW : ∀ q, Ew q → q < W.heap.size := fun q hq => (hEw q hq).elim (fun h => Nat.lt_of_lt_of_le (hE q h).2 hwW) fun h => h.2
          have hEw0 : ∀ q, Ew q → w0.heap.size ≤ q := fun q hq => (hEw q hq).elim (fun h => (hE q h).1) fun h => Nat.le_trans h0.size h.1
          have hg0 : w0.heap.size ≤ g := Nat.le_trans (Nat.le_trans h0.size hwW) hgW.1
          have hown2 : ∀ t, (w2.setCell ⟨g, k * 2 + 1, none⟩ t).ownsRow W.heap.size 192 2 (.slice (some ⟨g, 0, none⟩) (k + 1) cap) (k + 1) (entCells (⟨d, t, L'⟩ :: r)) := fun t => by
            subst hk
            exact ent_set (ownsRow_same hown (hb2.block g hgW.2)) t L'
          have hpb : bp < W.heap.size ∧ ¬ Ew bp := ⟨Nat.lt_of_lt_of_le (cell_block hbp) hwW, fun h => (hEw bp h).elim hbE fun h => by have := cell_block hbp; simp at this; omega⟩
          have hdb : d ≤ 2000001 := by have := hdi _ (List.mem_cons_self ..); simp at this; omega
          obtain ⟨z, hz, hzz⟩ : ∃ z : Nat, z = d + 1 ∧ ((z : Nat) : Int) = (d : Int) + 1 := ⟨_, rfl, by omega⟩
          obtain ⟨ib, hi1, hi2, hi3, hi4⟩ := info_parts Try.infoBrE
          have HLs : ∀ e ∈ (⟨d, .slice (some ⟨ga, oa, none⟩) (L'.length + 1) cp, c :: L'⟩ :: r : List Ent), LK exprTy w0 wr (fun q => ¬ Ew q ∧ q ≠ g) e.v e.L ∧ 1 ≤ e.d := hS
          have hcase : cp = 1 ∨ ¬ cp = 1 := Classical.em _
          rcases hcase with h1 | h1
          · have hY3 := hY i (d, c) _ _ hxi ⟨_, hys, rfl⟩ (hJ3 (.slice (some ⟨ga, oa, none⟩) L'.length 0))
            have R3 := HX (.slice (some ⟨ga, oa, none⟩) L'.length 0)
            have hown3 := hown2 (.slice (some ⟨ga, oa, none⟩) L'.length 0)
            have hL3 : LK exprTy w0 wr (fun q => ¬ Ew q ∧ q ≠ g) (.slice (some ⟨ga, oa, none⟩) L'.length 0) L' := htl _ _ (.inl (by have := hcp; rw [h1] at this; exact List.eq_nil_of_length_eq_zero (by omega)))
            have y0 := run_ldX (P := Try.prog) (o := 0) hyl Try.isAgg29 Try.sizeOf29 fun j u hj => by rw [Nat.zero_add]; exact R3.cell (i := j) (by simpa using hj)
            have Hb3 : Below g w2 (w2.setCell ⟨g, k * 2 + 1, none⟩ (.slice (some ⟨ga, oa, none⟩) L'.length 0)) := (Below.refl _ _).setCell (p := ⟨g, k * 2 + 1, none⟩) (Nat.le_refl _) _
            obtain ⟨fn, tmps, assign, body, hy, hR⟩ := hY3
            gi_wp2
            refine ⟨fun h => (by cases h), hR.mono ?_⟩
            rintro e W3 (⟨rfl, hgo, hJ4, hk4⟩ | ⟨rfl, hJx4⟩)
            · have hdr2 : xs.drop (i + 1) = ((pt c).flatMap (pr (d + 1)) ++ L'.flatMap (pr d)) ++ left pr r := by
                have h1 := hpre d c hmem hgo
                rw [hlpre] at h1
                injection h1 with _ h1
                rw [← List.drop_drop, hdr, h1]; rfl
              have q2 : (w2.setCell ⟨g, k * 2 + 1, none⟩ (.slice (some ⟨ga, oa, none⟩) L'.length 0)).heap.size = w2.heap.size := by simp
              have R4 : RowAt W3 b2 29 _ := (hk4.block b2 (by omega) (fun h => by have := hEwW _ h; omega)).trans R3
              have v0 := run_ldX (P := Try.prog) (o := 0) hyl Try.isAgg29 Try.sizeOf29 fun j u hj => by rw [Nat.zero_add]; exact R4.cell (i := j) (by simpa using hj)
              have B3 : Below w0.heap.size w0 (w2.setCell ⟨g, k * 2 + 1, none⟩ (.slice (some ⟨ga, oa, none⟩) L'.length 0)) := (hb.trans (hb2.mono hb.size)).setCell (p := ⟨g, k * 2 + 1, none⟩) hg0 _
              have B4 : Below w0.heap.size w0 W3 := B3.trans (hk4.low B3.size fun q hq h => by have := hEw0 q h; omega)
              have P4 : W3.cell? ⟨bp, 0, none⟩ = some (.func (.func 90) #[] #[]) := by
                refine (World.cell?_of_block (w := wr) (a := ⟨bp, 0, none⟩) ?_).trans hparts
                exact (hk4.block bp (by omega) hpb.2).trans (((heap_setCell_other w2 ⟨g, k * 2 + 1, none⟩ bp _ (by show bp ≠ g; omega))).trans (hb2.block bp (by omega)))
              have hown4 := ownsRow_same hown3 (hk4.block g (by omega) (fun h => by have := hEwW _ h; omega))
              have s4 : W.heap.size ≤ W3.heap.size := by have := hk4.size; omega
              have s5 : g < W3.heap.size := by have := hk4.size; omega
              have hpart := HP d c hmem hgo _ W3 hys B4
              clear hy hR R3 hY HX hown2 hJ3 k0 k1 k2 ld0 y0 K1 K2
              gi_wp2
              refine ⟨trivial, fun h => (by cases h), (callsIn_wide.2 hpart).mono ?_⟩
              clear hpart
              rintro e W4 ⟨pv, rfl, hL4, hb4⟩
              obtain ⟨pa, pcap, rfl⟩ := hL4.slice
              have hown5 := ownsRow_same hown4 (hb4.block g s5)
              gi_wp2_with (gi_at_builtin; go_loud ( refine wpListIn_append_own_at _ rfl _ _ 193 rfl W.heap.size 192 ib _ 2 32 Try.underlying193 hi1 hi2 hi3 hi4 rfl (by decide) (.slice (some ⟨g, 0, none⟩) (k + 1) cap) (k + 1) _ rfl (World.ownsRow.alloc hown5 _) ⟨W4.heap.size, 0, none⟩ 1 1 [.int .i64 ((d : Int) + 1), .slice pa (pt c).length pcap] rfl rfl (cells_new2 _ _ _ _) (by intro u hu; simp only [List.mem_cons, List.not_mem_nil, or_false] at hu; rcases hu with rfl | rfl <;> rfl) (by unfold maxLen; omega) (by omega) (by have := hb4.size; simp; omega) ?_; intro v' w5 hown6 hgrow hat; obtain ⟨g', cap', rfl⟩ := slice_of_owns hown6; have hs45 : W4.heap.size ≤ w5.heap.size := (by have := hgrow.size; simp at this; omega); have hg5 : ∀ q, q < W4.heap.size → q ≠ g → w5.heap[q]? = W4.heap[q]? := (fun q hq hne => (hgrow.block q (by simp; omega) (by intro e; apply hne; injection e)).trans (Below.heap_alloc _ _ _ hq)); have HH := StE.push (J := J) (Ew := Ew) (xs := xs) (bp := bp) (i := i) (wr := wr) (g := g) (by rw [← hk] at hown6; exact hown6) (fun q h1 h2 h3 => (hb4.block q (by have := hk4.size; have := hb2.size; omega)).trans ((hk4.block q (by have := hb2.size; omega) h1).trans ((heap_setCell_other w2 ⟨g, k * 2 + 1, none⟩ q _ h2).trans (hb2.block q h3)))) (by have := hb4.size; have := hk4.size; have := hb2.size; omega) hg5 hs45 (by rcases hat with h | h; exact .inl (by simpa [Value.ownBlock] using h); exact .inr (by simp [Value.ownBlock] at h; omega)) hL3 hde (fun e he => HLs e (List.mem_cons_of_mem _ he)) (hL4.keep (Nat.le_refl _) (fun _ _ _ => rfl) (fun q hq _ => ⟨fun h => by have := hEw0 q h; have := hEwW q h; omega, by omega⟩)) hdr2 hil (hJ _ _ _ hJ4 (((hb4.mono s4).alloc (by have := hb4.size; omega) _).grown hgrow (by have := hb4.size; simp; omega) (fun q e => by cases e; exact hgW.1))) (by omega) (hdi _ (List.mem_cons_self ..)) (fun e he => hdi e (List.mem_cons_of_mem _ he)) ((World.cell?_of_block (w := W4) (a := ⟨bp, 0, none⟩) (hg5 bp (by have := hb4.size; omega) (by omega))).trans ((hb4.cell (cell_block P4)).trans P4)) (((B4.trans (hb4.mono B4.size)).alloc (by have := B4.size; have := hb4.size; omega) _).grown hgrow (by have := B4.size; have := hb4.size; simp; omega) (fun q e => by cases e; exact hg0)) (by have := hb4.size; omega); rw [hk] at HH; have HHH := Lib.hid HH; clear HH hgrow hat hg5 hown6 hown5 hown4))
              refine ⟨⟨_, HHH.out⟩, ?_⟩
              rw [HM.out]
              have h1 := least_le HHH.out
              omega
            · gi_wp2
              refine bodyPost_ret (results_none rfl _ _ _) rfl ?_
              exact ⟨⟨_, rfl⟩, .inr ⟨i + 1, hil, hJx4⟩⟩
          · have hY3 := hY i (d, c) _ _ hxi ⟨_, hys, rfl⟩ (hJ3 (.slice (some ⟨ga, oa + 10, none⟩) L'.length (cp - 1)))
            have R3 := HX (.slice (some ⟨ga, oa + 10, none⟩) L'.length (cp - 1))
            have hown3 := hown2 (.slice (some ⟨ga, oa + 10, none⟩) L'.length (cp - 1))
            have hL3 : LK exprTy w0 wr (fun q => ¬ Ew q ∧ q ≠ g) (.slice (some ⟨ga, oa + 10, none⟩) L'.length (cp - 1)) L' := htl _ _ (.inr ⟨rfl, by omega⟩)
            have y0 := run_ldX (P := Try.prog) (o := 0) hyl Try.isAgg29 Try.sizeOf29 fun j u hj => by rw [Nat.zero_add]; exact R3.cell (i := j) (by simpa using hj)
            have Hb3 : Below g w2 (w2.setCell ⟨g, k * 2 + 1, none⟩ (.slice (some ⟨ga, oa + 10, none⟩) L'.length (cp - 1))) := (Below.refl _ _).setCell (p := ⟨g, k * 2 + 1, none⟩) (Nat.le_refl _) _
            obtain ⟨fn, tmps, assign, body, hy, hR⟩ := hY3
            gi_wp2
            refine ⟨fun h => (by cases h), hR.mono ?_⟩
            rintro e W3 (⟨rfl, hgo, hJ4, hk4⟩ | ⟨rfl, hJx4⟩)
            · have hdr2 : xs.drop (i + 1) = ((pt c).flatMap (pr (d + 1)) ++ L'.flatMap (pr d)) ++ left pr r := by
                have h1 := hpre d c hmem hgo
                rw [hlpre] at h1
                injection h1 with _ h1
                rw [← List.drop_drop, hdr, h1]; rfl
              have q2 : (w2.setCell ⟨g, k * 2 + 1, none⟩ (.slice (some ⟨ga, oa + 10, none⟩) L'.length (cp - 1))).heap.size = w2.heap.size := by simp
              have R4 : RowAt W3 b2 29 _ := (hk4.block b2 (by omega) (fun h => by have := hEwW _ h; omega)).trans R3
              have v0 := run_ldX (P := Try.prog) (o := 0) hyl Try.isAgg29 Try.sizeOf29 fun j u hj => by rw [Nat.zero_add]; exact R4.cell (i := j) (by simpa using hj)
              have B3 : Below w0.heap.size w0 (w2.setCell ⟨g, k * 2 + 1, none⟩ (.slice (some ⟨ga, oa + 10, none⟩) L'.length (cp - 1))) := (hb.trans (hb2.mono hb.size)).setCell (p := ⟨g, k * 2 + 1, none⟩) hg0 _
              have B4 : Below w0.heap.size w0 W3 := B3.trans (hk4.low B3.size fun q hq h => by have := hEw0 q h; omega)
              have P4 : W3.cell? ⟨bp, 0, none⟩ = some (.func (.func 90) #[] #[]) := by
                refine (World.cell?_of_block (w := wr) (a := ⟨bp, 0, none⟩) ?_).trans hparts
                exact (hk4.block bp (by omega) hpb.2).trans (((heap_setCell_other w2 ⟨g, k * 2 + 1, none⟩ bp _ (by show bp ≠ g; omega))).trans (hb2.block bp (by omega)))
              have hown4 := ownsRow_same hown3 (hk4.block g (by omega) (fun h => by have := hEwW _ h; omega))
              have s4 : W.heap.size ≤ W3.heap.size := by have := hk4.size; omega
              have s5 : g < W3.heap.size := by have := hk4.size; omega
              have hpart := HP d c hmem hgo _ W3 hys B4
              clear hy hR R3 hY HX hown2 hJ3 k0 k1 k2 ld0 y0 K1 K2
              gi_wp2
              refine ⟨trivial, fun h => (by cases h), (callsIn_wide.2 hpart).mono ?_⟩
              clear hpart
              rintro e W4 ⟨pv, rfl, hL4, hb4⟩
              obtain ⟨pa, pcap, rfl⟩ := hL4.slice
              have hown5 := ownsRow_same hown4 (hb4.block g s5)
              gi_wp2_with (gi_at_builtin; go_loud ( refine wpListIn_append_own_at _ rfl _ _ 193 rfl W.heap.size 192 ib _ 2 32 Try.underlying193 hi1 hi2 hi3 hi4 rfl (by decide) (.slice (some ⟨g, 0, none⟩) (k + 1) cap) (k + 1) _ rfl (World.ownsRow.alloc hown5 _) ⟨W4.heap.size, 0, none⟩ 1 1 [.int .i64 ((d : Int) + 1), .slice pa (pt c).length pcap] rfl rfl (cells_new2 _ _ _ _) (by intro u hu; simp only [List.mem_cons, List.not_mem_nil, or_false] at hu; rcases hu with rfl | rfl <;> rfl) (by unfold maxLen; omega) (by omega) (by have := hb4.size; simp; omega) ?_; intro v' w5 hown6 hgrow hat; obtain ⟨g', cap', rfl⟩ := slice_of_owns hown6; have hs45 : W4.heap.size ≤ w5.heap.size := (by have := hgrow.size; simp at this; omega); have hg5 : ∀ q, q < W4.heap.size → q ≠ g → w5.heap[q]? = W4.heap[q]? := (fun q hq hne => (hgrow.block q (by simp; omega) (by intro e; apply hne; injection e)).trans (Below.heap_alloc _ _ _ hq)); have HH := StE.push (J := J) (Ew := Ew) (xs := xs) (bp := bp) (i := i) (wr := wr) (g := g) (by rw [← hk] at hown6; exact hown6) (fun q h1 h2 h3 => (hb4.block q (by have := hk4.size; have := hb2.size; omega)).trans ((hk4.block q (by have := hb2.size; omega) h1).trans ((heap_setCell_other w2 ⟨g, k * 2 + 1, none⟩ q _ h2).trans (hb2.block q h3)))) (by have := hb4.size; have := hk4.size; have := hb2.size; omega) hg5 hs45 (by rcases hat with h | h; exact .inl (by simpa [Value.ownBlock] using h); exact .inr (by simp [Value.ownBlock] at h; omega)) hL3 hde (fun e he => HLs e (List.mem_cons_of_mem _ he)) (hL4.keep (Nat.le_refl _) (fun _ _ _ => rfl) (fun q hq _ => ⟨fun h => by have := hEw0 q h; have := hEwW q h; omega, by omega⟩)) hdr2 hil (hJ _ _ _ hJ4 (((hb4.mono s4).alloc (by have := hb4.size; omega) _).grown hgrow (by have := hb4.size; simp; omega) (fun q e => by cases e; exact hgW.1))) (by omega) (hdi _ (List.mem_cons_self ..)) (fun e he => hdi e (List.mem_cons_of_mem _ he)) ((World.cell?_of_block (w := W4) (a := ⟨bp, 0, none⟩) (hg5 bp (by have := hb4.size; omega) (by omega))).trans ((hb4.cell (cell_block P4)).trans P4)) (((B4.trans (hb4.mono B4.size)).alloc (by have := B4.size; have := hb4.size; omega) _).grown hgrow (by have := B4.size; have := hb4.size; simp; omega) (fun q e => by cases e; exact hg0)) (by have := hb4.size; omega); rw [hk] at HH; have HHH := Lib.hid HH; clear HH hgrow hat hg5 hown6 hown5 hown4))
              refine ⟨⟨_, HHH.out⟩, ?_⟩
              rw [HM.out]
              have h1 := least_le HHH.out
              omega
            · gi_wp2
              refine bodyPost_ret (results_none rfl _ _ _) rfl ?_
              exact ⟨⟨_, rfl⟩, .inr ⟨i + 1, hil, hJx4⟩⟩
end Go.Proofs.Ytkacelpndeoogaa

/- The program's slotsIn: every expression of a query. -/
namespace Go.Proofs.Ytkacelpndeoogaa
open Go.RowKit

theorem OutK.ten {w0 : World} {ys : List Value} {c : Nd} (h : OutK exprTy w0 ys [c]) : ∃ (c0 : Int) (c1 : Int) (c2 : Bool) (c3 : Int) (c4 : Int) (c5 : ByteArray) (c6 : ByteArray) (c7 : ByteArray) (a8 : Option Addr) (n8 p8 : Nat) (a9 : Option Addr) (n9 p9 : Nat),
    ys = [.int .i64 c0, .int .i64 c1, .bool c2, .int .i64 c3, .int .i64 c4, .string c5, .string c6, .string c7, .slice a8 n8 p8, .slice a9 n9 p9] ∧
    ((c 0 = .v (.int .i64 c0) ∧ -9223372036854775808 ≤ c0 ∧ c0 ≤ 9223372036854775807) ∧ (c 1 = .v (.int .i64 c1) ∧ -9223372036854775808 ≤ c1 ∧ c1 ≤ 9223372036854775807) ∧ c 2 = .v (.bool c2) ∧ (c 3 = .v (.int .i64 c3) ∧ -9223372036854775808 ≤ c3 ∧ c3 ≤ 9223372036854775807) ∧ (c 4 = .v (.int .i64 c4) ∧ -9223372036854775808 ≤ c4 ∧ c4 ≤ 9223372036854775807) ∧ (c 5 = .v (.string c5) ∧ c5.size ≤ 9223372036854775807) ∧ (c 6 = .v (.string c6) ∧ c6.size ≤ 9223372036854775807) ∧ (c 7 = .v (.string c7) ∧ c7.size ≤ 9223372036854775807) ∧ (Rd w0 0 (.slice a8 n8 p8) (c 8) ∧ Fits (c 8) .exprs) ∧ (Rd w0 0 (.slice a9 n9 p9) (c 9) ∧ Fits (c 9) .queries)) := by
  have hl : ys.length = 10 := h.1
  obtain ⟨y0, z0, r0, f0⟩ := h.cellOf 0 (by decide)
  obtain ⟨c0, e0, b0⟩ := Fits.int f0
  rw [e0] at r0; obtain rfl : y0 = _ := r0
  obtain ⟨y1, z1, r1, f1⟩ := h.cellOf 1 (by decide)
  obtain ⟨c1, e1, b1⟩ := Fits.int f1
  rw [e1] at r1; obtain rfl : y1 = _ := r1
  obtain ⟨y2, z2, r2, f2⟩ := h.cellOf 2 (by decide)
  obtain ⟨c2, e2⟩ := Fits.bool f2
  rw [e2] at r2; obtain rfl : y2 = _ := r2
  obtain ⟨y3, z3, r3, f3⟩ := h.cellOf 3 (by decide)
  obtain ⟨c3, e3, b3⟩ := Fits.int f3
  rw [e3] at r3; obtain rfl : y3 = _ := r3
  obtain ⟨y4, z4, r4, f4⟩ := h.cellOf 4 (by decide)
  obtain ⟨c4, e4, b4⟩ := Fits.int f4
  rw [e4] at r4; obtain rfl : y4 = _ := r4
  obtain ⟨y5, z5, r5, f5⟩ := h.cellOf 5 (by decide)
  obtain ⟨c5, e5, b5⟩ := Fits.str f5
  rw [e5] at r5; obtain rfl : y5 = _ := r5
  obtain ⟨y6, z6, r6, f6⟩ := h.cellOf 6 (by decide)
  obtain ⟨c6, e6, b6⟩ := Fits.str f6
  rw [e6] at r6; obtain rfl : y6 = _ := r6
  obtain ⟨y7, z7, r7, f7⟩ := h.cellOf 7 (by decide)
  obtain ⟨c7, e7, b7⟩ := Fits.str f7
  rw [e7] at r7; obtain rfl : y7 = _ := r7
  obtain ⟨y8, z8, r8, f8⟩ := h.cellOf 8 (by decide)
  have g8 : Fits (c 8) .exprs := f8
  obtain ⟨a8, n8, p8, rfl⟩ := r8.slice_of g8 rfl
  obtain ⟨y9, z9, r9, f9⟩ := h.cellOf 9 (by decide)
  have g9 : Fits (c 9) .queries := f9
  obtain ⟨a9, n9, p9, rfl⟩ := r9.slice_of g9 rfl
  refine ⟨c0, c1, c2, c3, c4, c5, c6, c7, a8, n8, p8, a9, n9, p9, ?_, ⟨e0, b0⟩, ⟨e1, b1⟩, e2, ⟨e3, b3⟩, ⟨e4, b4⟩, ⟨e5, b5⟩, ⟨e6, b6⟩, ⟨e7, b7⟩, ⟨r8, g8⟩, ⟨r9, g9⟩⟩
  refine List.ext_getElem? fun j => ?_
  rcases j with _ | _ | _ | _ | _ | _ | _ | _ | _ | _ | j
  · exact z0
  · exact z1
  · exact z2
  · exact z3
  · exact z4
  · exact z5
  · exact z6
  · exact z7
  · exact z8
  · exact z9
  · rw [List.getElem?_eq_none (by omega), List.getElem?_eq_none (by simp)]
theorem OutK.itemRow {w0 : World} {ys : List Value} {c : Nd} (h : OutK (rowTy .items) w0 ys [c]) : ∃ (c0 : Bool) (c1 : ByteArray) (c2 : Int) (c3 : Int) (c4 : Bool) (c5 : Int) (c6 : Int) (c7 : ByteArray) (c8 : ByteArray) (c9 : ByteArray) (a10 : Option Addr) (n10 p10 : Nat) (a11 : Option Addr) (n11 p11 : Nat) (c12 : ByteArray),
    ys = [.bool c0, .string c1, .int .i64 c2, .int .i64 c3, .bool c4, .int .i64 c5, .int .i64 c6, .string c7, .string c8, .string c9, .slice a10 n10 p10, .slice a11 n11 p11, .string c12] ∧
    (c 0 = .v (.bool c0) ∧ (c 1 = .v (.string c1) ∧ c1.size ≤ 9223372036854775807) ∧ (c 2 = .v (.int .i64 c2) ∧ -9223372036854775808 ≤ c2 ∧ c2 ≤ 9223372036854775807) ∧ (c 3 = .v (.int .i64 c3) ∧ -9223372036854775808 ≤ c3 ∧ c3 ≤ 9223372036854775807) ∧ c 4 = .v (.bool c4) ∧ (c 5 = .v (.int .i64 c5) ∧ -9223372036854775808 ≤ c5 ∧ c5 ≤ 9223372036854775807) ∧ (c 6 = .v (.int .i64 c6) ∧ -9223372036854775808 ≤ c6 ∧ c6 ≤ 9223372036854775807) ∧ (c 7 = .v (.string c7) ∧ c7.size ≤ 9223372036854775807) ∧ (c 8 = .v (.string c8) ∧ c8.size ≤ 9223372036854775807) ∧ (c 9 = .v (.string c9) ∧ c9.size ≤ 9223372036854775807) ∧ (Rd w0 0 (.slice a10 n10 p10) (c 10) ∧ Fits (c 10) .exprs) ∧ (Rd w0 0 (.slice a11 n11 p11) (c 11) ∧ Fits (c 11) .queries) ∧ (c 12 = .v (.string c12) ∧ c12.size ≤ 9223372036854775807)) := by
  have hl : ys.length = 13 := h.1
  obtain ⟨y0, z0, r0, f0⟩ := h.cellOf 0 (by decide)
  obtain ⟨c0, e0⟩ := Fits.bool f0
  rw [e0] at r0; obtain rfl : y0 = _ := r0
  obtain ⟨y1, z1, r1, f1⟩ := h.cellOf 1 (by decide)
  obtain ⟨c1, e1, b1⟩ := Fits.str f1
  rw [e1] at r1; obtain rfl : y1 = _ := r1
  obtain ⟨y2, z2, r2, f2⟩ := h.cellOf 2 (by decide)
  obtain ⟨c2, e2, b2⟩ := Fits.int f2
  rw [e2] at r2; obtain rfl : y2 = _ := r2
  obtain ⟨y3, z3, r3, f3⟩ := h.cellOf 3 (by decide)
  obtain ⟨c3, e3, b3⟩ := Fits.int f3
  rw [e3] at r3; obtain rfl : y3 = _ := r3
  obtain ⟨y4, z4, r4, f4⟩ := h.cellOf 4 (by decide)
  obtain ⟨c4, e4⟩ := Fits.bool f4
  rw [e4] at r4; obtain rfl : y4 = _ := r4
  obtain ⟨y5, z5, r5, f5⟩ := h.cellOf 5 (by decide)
  obtain ⟨c5, e5, b5⟩ := Fits.int f5
  rw [e5] at r5; obtain rfl : y5 = _ := r5
  obtain ⟨y6, z6, r6, f6⟩ := h.cellOf 6 (by decide)
  obtain ⟨c6, e6, b6⟩ := Fits.int f6
  rw [e6] at r6; obtain rfl : y6 = _ := r6
  obtain ⟨y7, z7, r7, f7⟩ := h.cellOf 7 (by decide)
  obtain ⟨c7, e7, b7⟩ := Fits.str f7
  rw [e7] at r7; obtain rfl : y7 = _ := r7
  obtain ⟨y8, z8, r8, f8⟩ := h.cellOf 8 (by decide)
  obtain ⟨c8, e8, b8⟩ := Fits.str f8
  rw [e8] at r8; obtain rfl : y8 = _ := r8
  obtain ⟨y9, z9, r9, f9⟩ := h.cellOf 9 (by decide)
  obtain ⟨c9, e9, b9⟩ := Fits.str f9
  rw [e9] at r9; obtain rfl : y9 = _ := r9
  obtain ⟨y10, z10, r10, f10⟩ := h.cellOf 10 (by decide)
  have g10 : Fits (c 10) .exprs := f10
  obtain ⟨a10, n10, p10, rfl⟩ := r10.slice_of g10 rfl
  obtain ⟨y11, z11, r11, f11⟩ := h.cellOf 11 (by decide)
  have g11 : Fits (c 11) .queries := f11
  obtain ⟨a11, n11, p11, rfl⟩ := r11.slice_of g11 rfl
  obtain ⟨y12, z12, r12, f12⟩ := h.cellOf 12 (by decide)
  obtain ⟨c12, e12, b12⟩ := Fits.str f12
  rw [e12] at r12; obtain rfl : y12 = _ := r12
  refine ⟨c0, c1, c2, c3, c4, c5, c6, c7, c8, c9, a10, n10, p10, a11, n11, p11, c12, ?_, e0, ⟨e1, b1⟩, ⟨e2, b2⟩, ⟨e3, b3⟩, e4, ⟨e5, b5⟩, ⟨e6, b6⟩, ⟨e7, b7⟩, ⟨e8, b8⟩, ⟨e9, b9⟩, ⟨r10, g10⟩, ⟨r11, g11⟩, ⟨e12, b12⟩⟩
  refine List.ext_getElem? fun j => ?_
  rcases j with _ | _ | _ | _ | _ | _ | _ | _ | _ | _ | _ | _ | _ | j
  · exact z0
  · exact z1
  · exact z2
  · exact z3
  · exact z4
  · exact z5
  · exact z6
  · exact z7
  · exact z8
  · exact z9
  · exact z10
  · exact z11
  · exact z12
  · rw [List.getElem?_eq_none (by omega), List.getElem?_eq_none (by simp)]
theorem OutK.sourceRow {w0 : World} {ys : List Value} {c : Nd} (h : OutK (rowTy .sources) w0 ys [c]) : ∃ (c0 : ByteArray) (c1 : ByteArray) (a2 : Option Addr) (n2 p2 : Nat),
    ys = [.string c0, .string c1, .slice a2 n2 p2] ∧
    ((c 0 = .v (.string c0) ∧ c0.size ≤ 9223372036854775807) ∧ (c 1 = .v (.string c1) ∧ c1.size ≤ 9223372036854775807) ∧ (Rd w0 0 (.slice a2 n2 p2) (c 2) ∧ Fits (c 2) .exprs)) := by
  have hl : ys.length = 3 := h.1
  obtain ⟨y0, z0, r0, f0⟩ := h.cellOf 0 (by decide)
  obtain ⟨c0, e0, b0⟩ := Fits.str f0
  rw [e0] at r0; obtain rfl : y0 = _ := r0
  obtain ⟨y1, z1, r1, f1⟩ := h.cellOf 1 (by decide)
  obtain ⟨c1, e1, b1⟩ := Fits.str f1
  rw [e1] at r1; obtain rfl : y1 = _ := r1
  obtain ⟨y2, z2, r2, f2⟩ := h.cellOf 2 (by decide)
  have g2 : Fits (c 2) .exprs := f2
  obtain ⟨a2, n2, p2, rfl⟩ := r2.slice_of g2 rfl
  refine ⟨c0, c1, a2, n2, p2, ?_, ⟨e0, b0⟩, ⟨e1, b1⟩, ⟨r2, g2⟩⟩
  refine List.ext_getElem? fun j => ?_
  rcases j with _ | _ | _ | j
  · exact z0
  · exact z1
  · exact z2
  · rw [List.getElem?_eq_none (by omega), List.getElem?_eq_none (by simp)]
theorem OutK.keyRow {w0 : World} {ys : List Value} {c : Nd} (h : OutK (rowTy .keys) w0 ys [c]) : ∃ (c0 : Int) (c1 : Int) (c2 : Bool) (c3 : Int) (c4 : Int) (c5 : ByteArray) (c6 : ByteArray) (c7 : ByteArray) (a8 : Option Addr) (n8 p8 : Nat) (a9 : Option Addr) (n9 p9 : Nat) (c10 : Bool),
    ys = [.int .i64 c0, .int .i64 c1, .bool c2, .int .i64 c3, .int .i64 c4, .string c5, .string c6, .string c7, .slice a8 n8 p8, .slice a9 n9 p9, .bool c10] ∧
    ((c 0 = .v (.int .i64 c0) ∧ -9223372036854775808 ≤ c0 ∧ c0 ≤ 9223372036854775807) ∧ (c 1 = .v (.int .i64 c1) ∧ -9223372036854775808 ≤ c1 ∧ c1 ≤ 9223372036854775807) ∧ c 2 = .v (.bool c2) ∧ (c 3 = .v (.int .i64 c3) ∧ -9223372036854775808 ≤ c3 ∧ c3 ≤ 9223372036854775807) ∧ (c 4 = .v (.int .i64 c4) ∧ -9223372036854775808 ≤ c4 ∧ c4 ≤ 9223372036854775807) ∧ (c 5 = .v (.string c5) ∧ c5.size ≤ 9223372036854775807) ∧ (c 6 = .v (.string c6) ∧ c6.size ≤ 9223372036854775807) ∧ (c 7 = .v (.string c7) ∧ c7.size ≤ 9223372036854775807) ∧ (Rd w0 0 (.slice a8 n8 p8) (c 8) ∧ Fits (c 8) .exprs) ∧ (Rd w0 0 (.slice a9 n9 p9) (c 9) ∧ Fits (c 9) .queries) ∧ c 10 = .v (.bool c10)) := by
  have hl : ys.length = 11 := h.1
  obtain ⟨y0, z0, r0, f0⟩ := h.cellOf 0 (by decide)
  obtain ⟨c0, e0, b0⟩ := Fits.int f0
  rw [e0] at r0; obtain rfl : y0 = _ := r0
  obtain ⟨y1, z1, r1, f1⟩ := h.cellOf 1 (by decide)
  obtain ⟨c1, e1, b1⟩ := Fits.int f1
  rw [e1] at r1; obtain rfl : y1 = _ := r1
  obtain ⟨y2, z2, r2, f2⟩ := h.cellOf 2 (by decide)
  obtain ⟨c2, e2⟩ := Fits.bool f2
  rw [e2] at r2; obtain rfl : y2 = _ := r2
  obtain ⟨y3, z3, r3, f3⟩ := h.cellOf 3 (by decide)
  obtain ⟨c3, e3, b3⟩ := Fits.int f3
  rw [e3] at r3; obtain rfl : y3 = _ := r3
  obtain ⟨y4, z4, r4, f4⟩ := h.cellOf 4 (by decide)
  obtain ⟨c4, e4, b4⟩ := Fits.int f4
  rw [e4] at r4; obtain rfl : y4 = _ := r4
  obtain ⟨y5, z5, r5, f5⟩ := h.cellOf 5 (by decide)
  obtain ⟨c5, e5, b5⟩ := Fits.str f5
  rw [e5] at r5; obtain rfl : y5 = _ := r5
  obtain ⟨y6, z6, r6, f6⟩ := h.cellOf 6 (by decide)
  obtain ⟨c6, e6, b6⟩ := Fits.str f6
  rw [e6] at r6; obtain rfl : y6 = _ := r6
  obtain ⟨y7, z7, r7, f7⟩ := h.cellOf 7 (by decide)
  obtain ⟨c7, e7, b7⟩ := Fits.str f7
  rw [e7] at r7; obtain rfl : y7 = _ := r7
  obtain ⟨y8, z8, r8, f8⟩ := h.cellOf 8 (by decide)
  have g8 : Fits (c 8) .exprs := f8
  obtain ⟨a8, n8, p8, rfl⟩ := r8.slice_of g8 rfl
  obtain ⟨y9, z9, r9, f9⟩ := h.cellOf 9 (by decide)
  have g9 : Fits (c 9) .queries := f9
  obtain ⟨a9, n9, p9, rfl⟩ := r9.slice_of g9 rfl
  obtain ⟨y10, z10, r10, f10⟩ := h.cellOf 10 (by decide)
  obtain ⟨c10, e10⟩ := Fits.bool f10
  rw [e10] at r10; obtain rfl : y10 = _ := r10
  refine ⟨c0, c1, c2, c3, c4, c5, c6, c7, a8, n8, p8, a9, n9, p9, c10, ?_, ⟨e0, b0⟩, ⟨e1, b1⟩, e2, ⟨e3, b3⟩, ⟨e4, b4⟩, ⟨e5, b5⟩, ⟨e6, b6⟩, ⟨e7, b7⟩, ⟨r8, g8⟩, ⟨r9, g9⟩, e10⟩
  refine List.ext_getElem? fun j => ?_
  rcases j with _ | _ | _ | _ | _ | _ | _ | _ | _ | _ | _ | j
  · exact z0
  · exact z1
  · exact z2
  · exact z3
  · exact z4
  · exact z5
  · exact z6
  · exact z7
  · exact z8
  · exact z9
  · exact z10
  · rw [List.getElem?_eq_none (by omega), List.getElem?_eq_none (by simp)]
theorem LK.at {tys : List Ty} {w0 w : World} {G : Nat → Prop} {v : Value} {L : List Nd} (h : LK tys w0 w G v L) {j : Nat} {c : Nd} (hc : L[j]? = some c) :
    ∃ g o cap ys, v = .slice (some ⟨g, o, none⟩) L.length cap ∧ OutK tys w0 ys [c] ∧ G g ∧ g < w.heap.size ∧ ∀ m u, ys[m]? = some u → w.cell? ⟨g, o + j * tys.length + m, none⟩ = some u := by
  have hj : j < L.length := (List.getElem?_eq_some_iff.1 hc).1
  obtain ⟨a, cap, C, e, hC, h⟩ := h
  rcases h with rfl | ⟨g, o, rfl, _, hg, hlt, hcell⟩
  · simp at hc
  have hlen : j * tys.length + tys.length ≤ C.length := by
    rw [hC.1]
    have : (j + 1) * tys.length ≤ L.length * tys.length := Nat.mul_le_mul_right _ hj
    rw [Nat.add_mul, Nat.one_mul] at this
    exact this
  refine ⟨g, o, cap, (C.drop (j * tys.length)).take tys.length, e, OutK.one (by rw [List.length_take, List.length_drop]; omega) fun m hm => ?_, hg, hlt, fun m u hm => ?_⟩
  · obtain ⟨y, hy, hr⟩ := hC.2 j c hc m hm
    exact ⟨y, by rw [List.getElem?_take_of_lt hm, List.getElem?_drop]; exact hy, hr⟩
  · have hml : m < tys.length := by have := (List.getElem?_eq_some_iff.1 hm).1; rw [List.length_take] at this; omega
    rw [List.getElem?_take_of_lt hml, List.getElem?_drop] at hm
    rw [Nat.add_assoc]
    exact hcell _ u hm
theorem OutE.later {w0 w w' : World} {B : Nat} {v : Value} {L : List Nd} (h : OutE w0 w B v L) (hb : Below w.heap.size w w') : OutE w0 w' B v L := by
  obtain ⟨C, hC, hP⟩ := h
  refine ⟨C, ⟨hC.1, hC.2.imp id ?_⟩, hP⟩
  rintro ⟨g, cap, cur, e, hg, hrow, hr⟩
  exact ⟨g, cap, cur, e, hg, (hb.block g (Array.getElem?_eq_some_iff.1 hrow).1).trans hrow, hr⟩
/-- the query's box and the list so far -/
structure LY (w0 W wr : World) (arr : Array Value) (out : Value) (L : List Nd) : Prop where
  box : RowAt wr W.heap.size 38 arr
  own : OutE w0 wr (W.heap.size + 1) out L
  b : Below W.heap.size W wr
  b0 : Below w0.heap.size w0 wr
theorem LY.app {w0 W wr w' : World} {arr : Array Value} {out out' : Value} {L L' : List Nd} (H : LY w0 W wr arr out L) (h : OutE w0 w' (W.heap.size + 1) out' L') (hb : Below (W.heap.size + 1) wr w') (hz : w0.heap.size ≤ W.heap.size := by assumption) : LY w0 W w' arr out' L' :=
  ⟨(hb.block _ (Nat.lt_succ_self _)).trans H.box, h, H.b.trans (hb.mono (Nat.le_succ _)), H.b0.trans (hb.mono (Nat.le_succ_of_le hz))⟩
theorem LY.sz {w0 W wr : World} {arr : Array Value} {out : Value} {L : List Nd} (H : LY w0 W wr arr out L) : W.heap.size + 1 ≤ wr.heap.size := H.box.lt
theorem LY.next {w0 W wr w' : World} {arr : Array Value} {out : Value} {L : List Nd} (H : LY w0 W wr arr out L) (h : Below wr.heap.size wr w') : LY w0 W w' arr out L :=
  ⟨H.box.later h, H.own.later h, H.b.trans (h.mono H.b.size), H.b0.trans (h.mono H.b0.size)⟩
set_option maxRecDepth 100000 in
set_option maxHeartbeats 8000000 in
theorem slots_any (w0 W : World) (c0 : Bool) (a1 : Option Addr) (p1 : Nat) (L1 : List Nd) (a2 : Option Addr) (n2 p2 : Nat) (a3 : Option Addr) (n3 p3 : Nat) (a4 : Option Addr) (n4 p4 : Nat) (c5 : Int) (f2 f3 f4 : Nat → Nat → Dat)
    (hb0 : Below w0.heap.size w0 W) (h1 : LK (rowTy .items) w0 W (fun _ => True) (.slice a1 L1.length p1) L1) (r2 : Rd w0 0 (.slice a2 n2 p2) (.sl n2 3 f2)) (q2 : Fits (.sl n2 3 f2) .sources)
    (r3 : Rd w0 0 (.slice a3 n3 p3) (.sl n3 10 f3)) (q3 : Fits (.sl n3 10 f3) .exprs) (r4 : Rd w0 0 (.slice a4 n4 p4) (.sl n4 11 f4)) (q4 : Fits (.sl n4 11 f4) .keys)
    (hN : L1.length + (exFrom (.sl n2 3 f2)).length + n3 + n4 ≤ 1048576) :
    Calls Try.prog 94 #[.agg #[.bool c0, .slice a1 L1.length p1, .slice a2 n2 p2, .slice a3 n3 p3, .slice a4 n4 p4, .int .i64 c5]] W fun e w' => ∃ v, e = .returned v ∧ OutE w0 w' (W.heap.size + 1) v (((L1.map (cut 2) ++ exFrom (.sl n2 3 f2)) ++ (Dat.sl n3 10 f3).els) ++ (Dat.sl n4 11 f4).els) ∧ Below W.heap.size W w' := by
  have hz0 := hb0.size
  have H0 : LY w0 W (W.alloc (.cells #[.bool c0, .slice a1 L1.length p1, .slice a2 n2 p2, .slice a3 n3 p3, .slice a4 n4 p4, .int .i64 c5] 38)) #[.bool c0, .slice a1 L1.length p1, .slice a2 n2 p2, .slice a3 n3 p3, .slice a4 n4 p4, .int .i64 c5] (.slice none 0 0) ((L1.take 0).map (cut 2)) :=
    ⟨RowAt.new W _ _, ⟨[], World.ownsRow_nil _ _ _ _, OutP.nil w0⟩, (Below.refl _ _).alloc (Nat.le_refl _) _, hb0.alloc hb0.size _⟩
  have HN := Lib.hid hN
  clear hN
  have hn1 : L1.length ≤ 9223372036854775807 := by have := HN.out; omega
  have hn2 := q2.2.1
  have hn3 := q3.2.1
  have hn4 := q4.2.1
  have b1 := H0.box.cell (i := 1) (v := .slice a1 L1.length p1) rfl
  go_enter Try.func94, Try.ntmps94
  go_wp2_with fail
  generalize W.alloc (.cells #[.bool c0, .slice a1 L1.length p1, .slice a2 n2 p2, .slice a3 n3 p3, .slice a4 n4 p4, .int .i64 c5] 38) = w1 at H0 ⊢
  clear b1
  go_loopw [3, 13] (fun out i wr => ∃ (j : Nat) (v : Value), j ≤ L1.length ∧ i = .int .i64 (j : Int) ∧ v = out ∧ LY w0 W wr #[.bool c0, .slice a1 L1.length p1, .slice a2 n2 p2, .slice a3 n3 p3, .slice a4 n4 p4, .int .i64 c5] v ((L1.take j).map (cut 2))) (fun _ i _ => L1.length - (intOf i).toNat)
  case atStart => exact ⟨0, _, by omega, rfl, rfl, H0⟩
  case round =>
    obtain ⟨j, v, hj, rfl, rfl, H⟩ := hrel
    by_cases hlt : j < L1.length
    · have hlt2 : (j : Int) < (L1.length : Int) := by omega
      obtain ⟨g, o, cap, ys, hv, hys, -, hg, hcell⟩ := h1.at (List.getElem?_eq_getElem hlt)
      injection hv with e1 _ e3
      subst e1; subst e3
      obtain ⟨x0, x1, x2, x3, x4, x5, x6, x7, x8, x9, ax10, nx10, px10, ax11, nx11, px11, x12, rfl, e0, ⟨e1, b1⟩, ⟨e2, b2⟩, ⟨e3, b3⟩, e4, ⟨e5, b5⟩, ⟨e6, b6⟩, ⟨e7, b7⟩, ⟨e8, b8⟩, ⟨e9, b9⟩, ⟨r10, q10⟩, ⟨r11, q11⟩, ⟨e12, b12⟩⟩ := hys.itemRow
      have z0 : wr.cell? ⟨g, o + j * 13, none⟩ = some (.bool x0) := (H.b.cell (p := ⟨g, o + j * 13, none⟩) hg).trans (hcell 0 _ rfl)
      have z1 : wr.cell? ⟨g, o + j * 13 + 1, none⟩ = some (.string x1) := (H.b.cell (p := ⟨g, o + j * 13 + 1, none⟩) hg).trans (hcell 1 _ rfl)
      have z2 : wr.cell? ⟨g, o + j * 13 + 2, none⟩ = some (.int .i64 x2) := (H.b.cell (p := ⟨g, o + j * 13 + 2, none⟩) hg).trans (hcell 2 _ rfl)
      have z3 : wr.cell? ⟨g, o + j * 13 + 3, none⟩ = some (.int .i64 x3) := (H.b.cell (p := ⟨g, o + j * 13 + 3, none⟩) hg).trans (hcell 3 _ rfl)
      have z4 : wr.cell? ⟨g, o + j * 13 + 4, none⟩ = some (.bool x4) := (H.b.cell (p := ⟨g, o + j * 13 + 4, none⟩) hg).trans (hcell 4 _ rfl)
      have z5 : wr.cell? ⟨g, o + j * 13 + 5, none⟩ = some (.int .i64 x5) := (H.b.cell (p := ⟨g, o + j * 13 + 5, none⟩) hg).trans (hcell 5 _ rfl)
      have z6 : wr.cell? ⟨g, o + j * 13 + 6, none⟩ = some (.int .i64 x6) := (H.b.cell (p := ⟨g, o + j * 13 + 6, none⟩) hg).trans (hcell 6 _ rfl)
      have z7 : wr.cell? ⟨g, o + j * 13 + 7, none⟩ = some (.string x7) := (H.b.cell (p := ⟨g, o + j * 13 + 7, none⟩) hg).trans (hcell 7 _ rfl)
      have z8 : wr.cell? ⟨g, o + j * 13 + 8, none⟩ = some (.string x8) := (H.b.cell (p := ⟨g, o + j * 13 + 8, none⟩) hg).trans (hcell 8 _ rfl)
      have z9 : wr.cell? ⟨g, o + j * 13 + 9, none⟩ = some (.string x9) := (H.b.cell (p := ⟨g, o + j * 13 + 9, none⟩) hg).trans (hcell 9 _ rfl)
      have z10 : wr.cell? ⟨g, o + j * 13 + 10, none⟩ = some (.slice ax10 nx10 px10) := (H.b.cell (p := ⟨g, o + j * 13 + 10, none⟩) hg).trans (hcell 10 _ rfl)
      have z11 : wr.cell? ⟨g, o + j * 13 + 11, none⟩ = some (.slice ax11 nx11 px11) := (H.b.cell (p := ⟨g, o + j * 13 + 11, none⟩) hg).trans (hcell 11 _ rfl)
      have z12 : wr.cell? ⟨g, o + j * 13 + 12, none⟩ = some (.string x12) := (H.b.cell (p := ⟨g, o + j * 13 + 12, none⟩) hg).trans (hcell 12 _ rfl)
      clear hcell
      have hc : OutP w0 [.int .i64 x2, .int .i64 x3, .bool x4, .int .i64 x5, .int .i64 x6, .string x7, .string x8, .string x9, .slice ax10 nx10 px10, .slice ax11 nx11 px11] [cut 2 L1[j]] := OutP.one rfl (fun m hm => match m, hm with
          | 0, _ => ⟨_, rfl, by show Rd w0 0 _ (L1[j] 2); rw [e2]; rfl, by show Fits (L1[j] 2) _; rw [e2]; exact ⟨_, rfl, b2⟩⟩
          | 1, _ => ⟨_, rfl, by show Rd w0 0 _ (L1[j] 3); rw [e3]; rfl, by show Fits (L1[j] 3) _; rw [e3]; exact ⟨_, rfl, b3⟩⟩
          | 2, _ => ⟨_, rfl, by show Rd w0 0 _ (L1[j] 4); rw [e4]; rfl, by show Fits (L1[j] 4) _; rw [e4]; exact ⟨_, rfl⟩⟩
          | 3, _ => ⟨_, rfl, by show Rd w0 0 _ (L1[j] 5); rw [e5]; rfl, by show Fits (L1[j] 5) _; rw [e5]; exact ⟨_, rfl, b5⟩⟩
          | 4, _ => ⟨_, rfl, by show Rd w0 0 _ (L1[j] 6); rw [e6]; rfl, by show Fits (L1[j] 6) _; rw [e6]; exact ⟨_, rfl, b6⟩⟩
          | 5, _ => ⟨_, rfl, by show Rd w0 0 _ (L1[j] 7); rw [e7]; rfl, by show Fits (L1[j] 7) _; rw [e7]; exact ⟨_, rfl, b7⟩⟩
          | 6, _ => ⟨_, rfl, by show Rd w0 0 _ (L1[j] 8); rw [e8]; rfl, by show Fits (L1[j] 8) _; rw [e8]; exact ⟨_, rfl, b8⟩⟩
          | 7, _ => ⟨_, rfl, by show Rd w0 0 _ (L1[j] 9); rw [e9]; rfl, by show Fits (L1[j] 9) _; rw [e9]; exact ⟨_, rfl, b9⟩⟩
          | 8, _ => ⟨_, rfl, by exact r10, by exact q10⟩
          | 9, _ => ⟨_, rfl, by exact r11, by exact q11⟩
          | m + 10, hm => absurd hm (by simp [exprTy]))
      have HC := Lib.hid hc
      have hs : (L1.take (j + 1)).map (cut 2) = (L1.take j).map (cut 2) ++ [cut 2 L1[j]] := by rw [take_next (List.getElem?_eq_getElem hlt), List.map_append]; rfl
      have HS := Lib.hid hs
      have hl : ((L1.take j).map (cut 2)).length ≤ 4000000 := by have := HN.out; rw [List.length_map, List.length_take]; omega
      have H1 := H.next ((Below.refl _ wr).alloc (Nat.le_refl _) (.cells #[.bool x0, .string x1, .int .i64 x2, .int .i64 x3, .bool x4, .int .i64 x5, .int .i64 x6, .string x7, .string x8, .string x9, .slice ax10 nx10 px10, .slice ax11 nx11 px11, .string x12] 126))
      clear hc hs e0 e1 b1 e2 b2 e3 b3 e4 e5 b5 e6 b6 e7 b7 e8 b8 e9 b9 r10 q10 r11 q11 e12 b12
      go_wp2_with (at_builtin; refine appE rfl (.tmp 17) (.tmp 20) rfl w0 (W.heap.size + 1) v ((L1.take j).map (cut 2)) (cut 2 L1[j]) #[.int .i64 x2, .int .i64 x3, .bool x4, .int .i64 x5, .int .i64 x6, .string x7, .string x8, .string x9, .slice ax10 nx10 px10, .slice ax11 nx11 px11] (wr.alloc (.cells #[.bool x0, .string x1, .int .i64 x2, .int .i64 x3, .bool x4, .int .i64 x5, .int .i64 x6, .string x7, .string x8, .string x9, .slice ax10 nx10 px10, .slice ax11 nx11 px11, .string x12] 126)) (wr.heap.size + 1) (by simp) rfl rfl H1.own HC.out hl H1.sz ?_; intro v' w' hown' hb')
      have H2 := H1.app hown' hb'
      rw [← HS.out] at H2
      go_roundw
      case rel => exact ⟨j + 1, _, by omega, by go_num, rfl, H2⟩
      case measure => simp [intOf]; omega
    · obtain rfl : j = L1.length := by omega
      clear hlt hj
      rw [List.take_length] at H
      have bx := H.box.cell (i := 2) (v := .slice a2 n2 p2) rfl
      go_wp2_with fail
      clear bx
      go_loopw [3, 26] (fun out i wr => ∃ (j : Nat) (v : Value), j ≤ n2 ∧ i = .int .i64 (j : Int) ∧ v = out ∧ LY w0 W wr #[.bool c0, .slice a1 L1.length p1, .slice a2 n2 p2, .slice a3 n3 p3, .slice a4 n4 p4, .int .i64 c5] v ((L1.map (cut 2)) ++ exFrom (.sl j 3 f2))) (fun _ i _ => n2 - (intOf i).toNat)
      case atStart => exact ⟨0, _, by omega, rfl, rfl, by show LY w0 W _ _ _ (_ ++ []); rw [List.append_nil]; exact H⟩
      case round =>
        obtain ⟨j, v, hj, rfl, rfl, H⟩ := hrel
        by_cases hlt : j < n2
        · have hlt2 : (j : Int) < (n2 : Int) := by omega
          obtain ⟨g, o, rfl, -, hg, x0, x1, x2, ⟨z0, z1, z2⟩, ⟨⟨e0, b0⟩, ⟨e1, b1⟩, ⟨r2_, q2_⟩⟩⟩ := row_sources r2 q2 hlt
          replace z0 := (H.b0.cell (p := ⟨g, o + j * 3, none⟩) hg).trans z0
          replace z1 := (H.b0.cell (p := ⟨g, o + j * 3 + 1, none⟩) hg).trans z1
          replace z2 := (H.b0.cell (p := ⟨g, o + j * 3 + 2, none⟩) hg).trans z2
          obtain ⟨nn, kk, ff, hsl⟩ := q2_.deep rfl
          obtain ⟨ya, yn, yc, rfl⟩ := r2_.slice_of q2_ rfl
          have hs : (L1.map (cut 2)) ++ exFrom (.sl (j + 1) 3 f2) = ((L1.map (cut 2)) ++ exFrom (.sl j 3 f2)) ++ (Dat.sl nn kk ff).els := by rw [exFrom_succ, hsl, List.append_assoc]
          have hl : ((L1.map (cut 2)) ++ exFrom (.sl j 3 f2)).length ≤ 1048576 ∧ nn ≤ 1048576 := by
            have h1 := exFrom_mono 3 f2 (show j + 1 ≤ n2 by omega)
            have h2 := HN.out
            rw [exFrom_succ, hsl, List.length_append, els_len] at h1
            rw [List.length_append, List.length_map]
            omega
          rw [hsl] at r2_ q2_
          have HS := Lib.hid hs
          obtain ⟨hl1, hl2⟩ := hl
          have H1 := H.next ((Below.refl _ wr).alloc (Nat.le_refl _) (.cells #[.string x0, .string x1, .slice ya yn yc] 93))
          clear hs hsl e0 e1
          go_wp2_with (at_builtin; refine appM rfl (.tmp 30) (.tmp 32) rfl w0 (W.heap.size + 1) v ((L1.map (cut 2)) ++ exFrom (.sl j 3 f2)) ya yn yc nn kk ff (wr.alloc (.cells #[.string x0, .string x1, .slice ya yn yc] 93)) rfl rfl H1.own r2_ q2_ H1.b0 (by omega) (by omega) H1.sz ?_; intro v' w' hown' hb')
          have H2 := H1.app hown' hb'
          rw [← HS.out] at H2
          go_roundw
          case rel => exact ⟨j + 1, _, by omega, by go_num, rfl, H2⟩
          case measure => simp [intOf]; omega
        · obtain rfl : n2 = j := by omega
          clear hlt hj
          have hl : ((L1.map (cut 2)) ++ exFrom (.sl n2 3 f2)).length ≤ 1048576 ∧ n3 ≤ 1048576 := by
            have h2 := HN.out
            rw [List.length_append, List.length_map]
            omega
          obtain ⟨hl1, hl2⟩ := hl
          have b3 := H.box.cell (i := 3) (v := .slice a3 n3 p3) rfl
          have b4 := H.box.cell (i := 4) (v := .slice a4 n4 p4) rfl
          go_wp2_with (at_builtin; refine appM rfl (.tmp 35) (.tmp 37) rfl w0 (W.heap.size + 1) v ((L1.map (cut 2)) ++ exFrom (.sl n2 3 f2)) a3 n3 p3 n3 10 f3 _ rfl rfl H.own r3 q3 H.b0 (by omega) (by omega) H.sz ?_; intro v' w' hown' hb'; replace H : LY w0 W w' #[.bool c0, .slice a1 L1.length p1, .slice a2 n2 p2, .slice a3 n3 p3, .slice a4 n4 p4, .int .i64 c5] v' (((L1.map (cut 2)) ++ exFrom (.sl n2 3 f2)) ++ (Dat.sl n3 10 f3).els) := H.app hown' hb'; replace b4 := H.box.cell (i := 4) (v := .slice a4 n4 p4) rfl; clear hown' hb' b3)
          clear hl1 hl2 b4
          go_loopw [3, 42] (fun out i wr => ∃ (j : Nat) (v : Value), j ≤ n4 ∧ i = .int .i64 (j : Int) ∧ v = out ∧ LY w0 W wr #[.bool c0, .slice a1 L1.length p1, .slice a2 n2 p2, .slice a3 n3 p3, .slice a4 n4 p4, .int .i64 c5] v ((((L1.map (cut 2)) ++ exFrom (.sl n2 3 f2)) ++ (Dat.sl n3 10 f3).els) ++ (Dat.sl j 11 f4).els)) (fun _ i _ => n4 - (intOf i).toNat)
          case atStart => exact ⟨0, _, by omega, rfl, rfl, by show LY w0 W _ _ _ (_ ++ []); rw [List.append_nil]; exact H⟩
          case round =>
            obtain ⟨j, v, hj, rfl, rfl, H⟩ := hrel
            by_cases hlt : j < n4
            · have hlt2 : (j : Int) < (n4 : Int) := by omega
              obtain ⟨g, o, rfl, -, hg, x0, x1, x2, x3, x4, x5, x6, x7, x8, x9, x10, ⟨z0, z1, z2, z3, z4, z5, z6, z7, z8, z9, z10⟩, ⟨⟨e0, b0⟩, ⟨e1, b1⟩, e2, ⟨e3, b3⟩, ⟨e4, b4⟩, ⟨e5, b5⟩, ⟨e6, b6⟩, ⟨e7, b7⟩, ⟨r8_, q8_⟩, ⟨r9_, q9_⟩, e10⟩⟩ := row_keys r4 q4 hlt
              replace z0 := (H.b0.cell (p := ⟨g, o + j * 11, none⟩) hg).trans z0
              replace z1 := (H.b0.cell (p := ⟨g, o + j * 11 + 1, none⟩) hg).trans z1
              replace z2 := (H.b0.cell (p := ⟨g, o + j * 11 + 2, none⟩) hg).trans z2
              replace z3 := (H.b0.cell (p := ⟨g, o + j * 11 + 3, none⟩) hg).trans z3
              replace z4 := (H.b0.cell (p := ⟨g, o + j * 11 + 4, none⟩) hg).trans z4
              replace z5 := (H.b0.cell (p := ⟨g, o + j * 11 + 5, none⟩) hg).trans z5
              replace z6 := (H.b0.cell (p := ⟨g, o + j * 11 + 6, none⟩) hg).trans z6
              replace z7 := (H.b0.cell (p := ⟨g, o + j * 11 + 7, none⟩) hg).trans z7
              replace z8 := (H.b0.cell (p := ⟨g, o + j * 11 + 8, none⟩) hg).trans z8
              replace z9 := (H.b0.cell (p := ⟨g, o + j * 11 + 9, none⟩) hg).trans z9
              replace z10 := (H.b0.cell (p := ⟨g, o + j * 11 + 10, none⟩) hg).trans z10
              obtain ⟨ya, yn, yc, rfl⟩ := r8_.slice_of q8_ rfl
              obtain ⟨za, zn, zc, rfl⟩ := r9_.slice_of q9_ rfl
              have hs : (((L1.map (cut 2)) ++ exFrom (.sl n2 3 f2)) ++ (Dat.sl n3 10 f3).els) ++ (Dat.sl (j + 1) 11 f4).els = ((((L1.map (cut 2)) ++ exFrom (.sl n2 3 f2)) ++ (Dat.sl n3 10 f3).els) ++ (Dat.sl j 11 f4).els) ++ [f4 j] := by rw [els_succ, ← List.append_assoc]
              have hl : ((((L1.map (cut 2)) ++ exFrom (.sl n2 3 f2)) ++ (Dat.sl n3 10 f3).els) ++ (Dat.sl j 11 f4).els).length ≤ 1048576 := by
                have h2 := HN.out
                simp only [List.length_append, els_len, List.length_map]
                omega
              have HS := Lib.hid hs
              have hc : OutP w0 [.int .i64 x0, .int .i64 x1, .bool x2, .int .i64 x3, .int .i64 x4, .string x5, .string x6, .string x7, .slice ya yn yc, .slice za zn zc] [f4 j] := OutP.one rfl (fun m hm => match m, hm with
                  | 0, _ => ⟨_, rfl, by show Rd w0 0 _ (f4 j 0); rw [e0]; rfl, q4.2.2.2 j hlt 0 (by decide)⟩
                  | 1, _ => ⟨_, rfl, by show Rd w0 0 _ (f4 j 1); rw [e1]; rfl, q4.2.2.2 j hlt 1 (by decide)⟩
                  | 2, _ => ⟨_, rfl, by show Rd w0 0 _ (f4 j 2); rw [e2]; rfl, q4.2.2.2 j hlt 2 (by decide)⟩
                  | 3, _ => ⟨_, rfl, by show Rd w0 0 _ (f4 j 3); rw [e3]; rfl, q4.2.2.2 j hlt 3 (by decide)⟩
                  | 4, _ => ⟨_, rfl, by show Rd w0 0 _ (f4 j 4); rw [e4]; rfl, q4.2.2.2 j hlt 4 (by decide)⟩
                  | 5, _ => ⟨_, rfl, by show Rd w0 0 _ (f4 j 5); rw [e5]; rfl, q4.2.2.2 j hlt 5 (by decide)⟩
                  | 6, _ => ⟨_, rfl, by show Rd w0 0 _ (f4 j 6); rw [e6]; rfl, q4.2.2.2 j hlt 6 (by decide)⟩
                  | 7, _ => ⟨_, rfl, by show Rd w0 0 _ (f4 j 7); rw [e7]; rfl, q4.2.2.2 j hlt 7 (by decide)⟩
                  | 8, _ => ⟨_, rfl, by exact r8_, q4.2.2.2 j hlt 8 (by decide)⟩
                  | 9, _ => ⟨_, rfl, by exact r9_, q4.2.2.2 j hlt 9 (by decide)⟩
                  | m + 10, hm => absurd hm (by simp [exprTy]))
              have HC := Lib.hid hc
              have H1 := H.next ((Below.refl _ wr).alloc (Nat.le_refl _) (.cells #[.int .i64 x0, .int .i64 x1, .bool x2, .int .i64 x3, .int .i64 x4, .string x5, .string x6, .string x7, .slice ya yn yc, .slice za zn zc, .bool x10] 198))
              clear hs hc e0 e1 e2 e3 e4 e5 e6 e7 e10 r8_ r9_
              go_wp2_with (at_builtin; refine appE rfl (.tmp 46) (.tmp 49) rfl w0 (W.heap.size + 1) v ((((L1.map (cut 2)) ++ exFrom (.sl n2 3 f2)) ++ (Dat.sl n3 10 f3).els) ++ (Dat.sl j 11 f4).els) (f4 j) #[.int .i64 x0, .int .i64 x1, .bool x2, .int .i64 x3, .int .i64 x4, .string x5, .string x6, .string x7, .slice ya yn yc, .slice za zn zc] (wr.alloc (.cells #[.int .i64 x0, .int .i64 x1, .bool x2, .int .i64 x3, .int .i64 x4, .string x5, .string x6, .string x7, .slice ya yn yc, .slice za zn zc, .bool x10] 198)) (wr.heap.size + 1) (by simp) rfl rfl H1.own HC.out (by omega) H1.sz ?_; intro v' w' hown' hb')
              have H2 := H1.app hown' hb'
              rw [← HS.out] at H2
              go_roundw
              case rel => exact ⟨j + 1, _, by omega, by go_num, rfl, H2⟩
              case measure => simp [intOf]; omega
            · obtain rfl : n4 = j := by omega
              clear hlt hj
              go_wp2_with fail
              go_ret
              exact ⟨v, rfl, H.own, H.b⟩
end Go.Proofs.Ytkacelpndeoogaa

/- slices.Clone, IndexFunc and DeleteFunc at the items of a query, as this program calls them; the program's exprsIn. -/
namespace Go.Proofs.Ytkacelpndeoogaa
open Go.RowKit

/-- block g holds the elements R -/
def RowK (tys : List Ty) (T : TypeId) (w0 w : World) (g cap : Nat) (R : List Nd) : Prop :=
  ∃ cs, RowAt w g T cs ∧ cs.size = cap * tys.length ∧ R.length ≤ cap ∧ ∀ k c, R[k]? = some c → ∃ ys, OutK tys w0 ys [c] ∧ ∀ m u, ys[m]? = some u → cs[k * tys.length + m]? = some u
section
variable {tys : List Ty} {T : TypeId} {w0 w : World} {g cap : Nat} {R : List Nd}
theorem RowK.lt (h : RowK tys T w0 w g cap R) : g < w.heap.size := by obtain ⟨cs, h1, _⟩ := h; exact h1.lt
theorem RowK.later {w' : World} (h : RowK tys T w0 w g cap R) (hb : Below w.heap.size w w') : RowK tys T w0 w' g cap R := by
  obtain ⟨cs, h1, h2⟩ := h
  exact ⟨cs, h1.later hb, h2⟩
theorem RowK.at {k : Nat} {c : Nd} (h : RowK tys T w0 w g cap R) (hk : R[k]? = some c) : ∃ ys, OutK tys w0 ys [c] ∧ ∀ m u, ys[m]? = some u → w.cell? ⟨g, k * tys.length + m, none⟩ = some u := by
  obtain ⟨cs, h1, _, _, h2⟩ := h
  obtain ⟨ys, hy, hc⟩ := h2 k c hk
  exact ⟨ys, hy, fun m u hm => h1.cell (hc m u hm)⟩
theorem RowK.spot {k m : Nat} (h : RowK tys T w0 w g cap R) (hk : k < R.length) (hm : m < tys.length) : ∃ u, w.cell? ⟨g, k * tys.length + m, none⟩ = some u ∧ w.frozen? ⟨g, k * tys.length + m, none⟩ = false := by
  obtain ⟨cs, h1, h2, h3, _⟩ := h
  have hlt : k * tys.length + m < cs.size := by rw [h2]; exact mul_lt_of (by omega) hm
  exact ⟨cs[k * tys.length + m], h1.cell (Array.getElem?_eq_getElem hlt), h1.soft _⟩
theorem putsA_high : ∀ (ys : List Value) (o : Nat) (cs : Array Value) (x : Nat), o + ys.length ≤ x → (putsA o ys cs)[x]? = cs[x]?
  | [], _, _, _, _ => rfl
  | y :: ys, o, cs, x, h => by
    simp only [List.length_cons] at h
    unfold putsA; rw [putsA_high ys (o + 1) _ x (by omega), Array.getElem?_setIfInBounds_ne (by omega)]
theorem RowK.put {i : Nat} {c : Nd} {ys : List Value} (h : RowK tys T w0 w g cap R) (hi : i < R.length) (hy : OutK tys w0 ys [c]) : RowK tys T w0 (puts g (i * tys.length) ys w) g cap (R.set i c) := by
  obtain ⟨cs, h1, h2, h3, h4⟩ := h
  have hyl : ys.length = tys.length := by have := hy.1; simpa using this
  refine ⟨putsA (i * tys.length) ys cs, puts_row ys _ h1, by rw [putsA_size, h2], by rw [List.length_set]; exact h3, fun k c' hk => ?_⟩
  by_cases e : k = i
  · subst e
    have hc : c = c' := by rw [List.getElem?_set_self hi] at hk; exact Option.some.inj hk
    subst hc
    refine ⟨ys, hy, fun m u hm => ?_⟩
    have hml : m < ys.length := (List.getElem?_eq_some_iff.1 hm).1
    rw [putsA_in ys _ cs m hml (by rw [h2, hyl]; have := Nat.mul_le_mul_right tys.length (show k + 1 ≤ cap by omega); rw [Nat.add_mul, Nat.one_mul] at this; exact this)]
    exact hm
  · rw [List.getElem?_set_ne (Ne.symm e)] at hk
    obtain ⟨zs, hz, hc⟩ := h4 k c' hk
    refine ⟨zs, hz, fun m u hm => ?_⟩
    have hzl : zs.length = tys.length := by have := hz.1; simpa using this
    have hml : m < tys.length := by have := (List.getElem?_eq_some_iff.1 hm).1; omega
    rcases Nat.lt_or_gt_of_ne e with hlt | hgt
    · rw [putsA_low ys _ cs _ (Nat.lt_of_lt_of_le (by have := Nat.mul_le_mul_right tys.length (show k + 1 ≤ i by omega); rw [Nat.add_mul, Nat.one_mul] at this; omega) (Nat.le_refl (i * tys.length)))]; exact hc m u hm
    · rw [putsA_high ys _ cs _ (by rw [hyl]; have := Nat.mul_le_mul_right tys.length (show i + 1 ≤ k by omega); rw [Nat.add_mul, Nat.one_mul] at this; omega)]; exact hc m u hm
theorem RowK.lk {i cap' : Nat} (h : RowK tys T w0 w g cap R) (hi : i ≤ R.length) (hc : i ≤ cap') : LK tys w0 w (fun q => q = g) (.slice (some ⟨g, 0, none⟩) i cap') (R.take i) := by
  have hlt := h.lt
  obtain ⟨cs, h1, h2, h3, h4⟩ := h
  have hl : (R.take i).length = i := by rw [List.length_take]; omega
  have hle : i * tys.length ≤ cs.size := by rw [h2]; exact Nat.mul_le_mul_right _ (by omega)
  refine ⟨_, cap', cs.toList.take (i * tys.length), by rw [hl], ⟨by rw [List.length_take, hl]; have : cs.toList.length = cs.size := Array.length_toList; omega, fun k c hk j hj => ?_⟩, .inr ⟨g, 0, rfl, by rw [hl]; exact hc, rfl, hlt, fun j u hj => ?_⟩⟩
  · have hki : k < i := by have := (List.getElem?_eq_some_iff.1 hk).1; omega
    rw [List.getElem?_take_of_lt hki] at hk
    obtain ⟨ys, hy, hyc⟩ := h4 k c hk
    obtain ⟨y, hyj, hr⟩ := hy.cellOf j hj
    exact ⟨y, by rw [List.getElem?_take_of_lt (mul_lt_of hki hj)]; simpa using hyc j y hyj, hr⟩
  · have hj' : j < i * tys.length := Nat.lt_of_lt_of_le (List.getElem?_eq_some_iff.1 hj).1 (by rw [List.length_take]; exact Nat.min_le_left _ _)
    rw [List.getElem?_take_of_lt hj'] at hj
    rw [Nat.zero_add]
    exact h1.cell (by simpa using hj)
theorem RowK.cut {i : Nat} {cs' : Array Value} (h : RowK tys T w0 w g cap R) (hi : i ≤ R.length) (w' : World) (hr : RowAt w' g T cs') (hs : cs'.size = cap * tys.length) (hl : ∀ cs, RowAt w g T cs → ∀ x, x < i * tys.length → cs'[x]? = cs[x]?) : RowK tys T w0 w' g cap (R.take i) := by
  obtain ⟨cs, h1, h2, h3, h4⟩ := h
  refine ⟨cs', hr, hs, by rw [List.length_take]; omega, fun k c hk => ?_⟩
  have hki : k < i := by have := (List.getElem?_eq_some_iff.1 hk).1; rw [List.length_take] at this; omega
  rw [List.getElem?_take_of_lt hki] at hk
  obtain ⟨ys, hy, hyc⟩ := h4 k c hk
  refine ⟨ys, hy, fun m u hm => ?_⟩
  have hml : m < tys.length := by have := (List.getElem?_eq_some_iff.1 hm).1; have h5 := hy.1; simp at h5; omega
  rw [hl cs h1 _ (mul_lt_of hki hml)]
  exact hyc m u hm
end
/-- is the item a star? -/
def star (c : Nd) : Bool := (c 0).tru
set_option maxHeartbeats 1000000 in
theorem isStar_any (c0 : Bool) (c1 : ByteArray) (c2 : Int) (c3 : Int) (c4 : Bool) (c5 : Int) (c6 : Int) (c7 : ByteArray) (c8 : ByteArray) (c9 : ByteArray) (a10 : Option Addr) (n10 p10 : Nat) (a11 : Option Addr) (n11 p11 : Nat) (c12 : ByteArray) (W : World) : Calls Try.prog 93 #[.agg #[.bool c0, .string c1, .int .i64 c2, .int .i64 c3, .bool c4, .int .i64 c5, .int .i64 c6, .string c7, .string c8, .string c9, .slice a10 n10 p10, .slice a11 n11 p11, .string c12]] W fun e w' => e = .returned (.bool c0) ∧ Below W.heap.size W w' := by
  go_enter Try.func93, Try.ntmps93
  go_wp2_with fail
  go_ret
  exact ⟨rfl, (Below.refl _ _).alloc (Nat.le_refl _) _⟩
set_option maxRecDepth 100000 in
set_option maxHeartbeats 4000000 in
theorem indexFunc_any (w0 W : World) (a : Option Addr) (cap : Nat) (L : List Nd) (h : LK (rowTy .items) w0 W (fun _ => True) (.slice a L.length cap) L) (hN : L.length ≤ 1048576) :
    Calls Try.prog 158 #[.slice a L.length cap, .func (.func 93) #[] #[]] W fun e w' => Below W.heap.size W w' ∧
      ((∃ i : Nat, i < L.length ∧ e = .returned (.int .i64 (i : Int)) ∧ (∀ k c, k < i → L[k]? = some c → star c = false) ∧ ∃ c, L[i]? = some c ∧ star c = true) ∨ (e = .returned (.int .i64 (-1)) ∧ ∀ c ∈ L, star c = false)) := by
  have hB0 := Below.refl W.heap.size W
  go_enter Try.func158, Try.ntmps158
  go_wp2_with fail
  go_loopw [8] (fun i wr => ∃ j : Nat, j ≤ L.length ∧ i = .int .i64 (j : Int) ∧ Below W.heap.size W wr ∧ ∀ k c, k < j → L[k]? = some c → star c = false) (fun i _ => L.length - (intOf i).toNat)
  case atStart => exact ⟨0, by omega, rfl, hB0, fun k c hk => by omega⟩
  case round =>
    obtain ⟨j, hj, rfl, hB, hno⟩ := hrel
    by_cases hlt : j < L.length
    · have hlt2 : (j : Int) < (L.length : Int) := by omega
      have hLj := List.getElem?_eq_getElem hlt
      obtain ⟨g, o, cap', ys, hv, hys, -, hg, hcell⟩ := h.at hLj
      injection hv with e1 _ e3
      subst e1; subst e3
      obtain ⟨x0, x1, x2, x3, x4, x5, x6, x7, x8, x9, ax10, nx10, px10, ax11, nx11, px11, x12, rfl, e0, -⟩ := hys.itemRow
      have z0 : wr.cell? ⟨g, o + j * 13, none⟩ = some (.bool x0) := (hB.cell (p := ⟨g, o + j * 13, none⟩) hg).trans (hcell 0 _ rfl)
      have z1 : wr.cell? ⟨g, o + j * 13 + 1, none⟩ = some (.string x1) := (hB.cell (p := ⟨g, o + j * 13 + 1, none⟩) hg).trans (hcell 1 _ rfl)
      have z2 : wr.cell? ⟨g, o + j * 13 + 2, none⟩ = some (.int .i64 x2) := (hB.cell (p := ⟨g, o + j * 13 + 2, none⟩) hg).trans (hcell 2 _ rfl)
      have z3 : wr.cell? ⟨g, o + j * 13 + 3, none⟩ = some (.int .i64 x3) := (hB.cell (p := ⟨g, o + j * 13 + 3, none⟩) hg).trans (hcell 3 _ rfl)
      have z4 : wr.cell? ⟨g, o + j * 13 + 4, none⟩ = some (.bool x4) := (hB.cell (p := ⟨g, o + j * 13 + 4, none⟩) hg).trans (hcell 4 _ rfl)
      have z5 : wr.cell? ⟨g, o + j * 13 + 5, none⟩ = some (.int .i64 x5) := (hB.cell (p := ⟨g, o + j * 13 + 5, none⟩) hg).trans (hcell 5 _ rfl)
      have z6 : wr.cell? ⟨g, o + j * 13 + 6, none⟩ = some (.int .i64 x6) := (hB.cell (p := ⟨g, o + j * 13 + 6, none⟩) hg).trans (hcell 6 _ rfl)
      have z7 : wr.cell? ⟨g, o + j * 13 + 7, none⟩ = some (.string x7) := (hB.cell (p := ⟨g, o + j * 13 + 7, none⟩) hg).trans (hcell 7 _ rfl)
      have z8 : wr.cell? ⟨g, o + j * 13 + 8, none⟩ = some (.string x8) := (hB.cell (p := ⟨g, o + j * 13 + 8, none⟩) hg).trans (hcell 8 _ rfl)
      have z9 : wr.cell? ⟨g, o + j * 13 + 9, none⟩ = some (.string x9) := (hB.cell (p := ⟨g, o + j * 13 + 9, none⟩) hg).trans (hcell 9 _ rfl)
      have z10 : wr.cell? ⟨g, o + j * 13 + 10, none⟩ = some (.slice ax10 nx10 px10) := (hB.cell (p := ⟨g, o + j * 13 + 10, none⟩) hg).trans (hcell 10 _ rfl)
      have z11 : wr.cell? ⟨g, o + j * 13 + 11, none⟩ = some (.slice ax11 nx11 px11) := (hB.cell (p := ⟨g, o + j * 13 + 11, none⟩) hg).trans (hcell 11 _ rfl)
      have z12 : wr.cell? ⟨g, o + j * 13 + 12, none⟩ = some (.string x12) := (hB.cell (p := ⟨g, o + j * 13 + 12, none⟩) hg).trans (hcell 12 _ rfl)
      clear hcell
      have hst : star L[j] = x0 := by unfold star; rw [e0]; rfl
      clear e0
      cases x0
      case true =>
        have HS := Lib.hid (And.intro hst (And.intro hno hLj))
        clear hst hno hLj
        go_wp2_with fail
        refine (isStar_any true x1 x2 x3 x4 x5 x6 x7 x8 x9 ax10 nx10 px10 ax11 nx11 px11 x12 wr).mono ?_
        rintro e w2 ⟨rfl, hb2⟩
        have hB2 := hB.trans (hb2.mono hB.size)
        clear hb2 z0 z1 z2 z3 z4 z5 z6 z7 z8 z9 z10 z11 z12
        go_wp2_with fail
        go_ret
        exact ⟨hB2, .inl ⟨j, hlt, rfl, HS.out.2.1, _, HS.out.2.2, HS.out.1⟩⟩
      case false =>
        have HS := Lib.hid (And.intro hst (And.intro hno hLj))
        clear hst hno hLj
        go_wp2_with fail
        refine (isStar_any false x1 x2 x3 x4 x5 x6 x7 x8 x9 ax10 nx10 px10 ax11 nx11 px11 x12 wr).mono ?_
        rintro e w2 ⟨rfl, hb2⟩
        have hB2 := hB.trans (hb2.mono hB.size)
        clear hb2 z0 z1 z2 z3 z4 z5 z6 z7 z8 z9 z10 z11 z12
        go_wp2_with fail
        go_roundw
        case rel =>
          refine ⟨j + 1, by omega, by go_num, hB2, fun k c hk hc => ?_⟩
          by_cases e : k = j
          · subst e
            have h1 := HS.out.2.2
            rw [hc] at h1
            rw [Option.some.inj h1]; exact HS.out.1
          · exact HS.out.2.1 k c (by omega) hc
        case measure => simp [intOf]; omega
    · obtain rfl : j = L.length := by omega
      have HN := Lib.hid hno
      clear hno hlt hj
      go_wp2_with fail
      go_ret
      refine ⟨hB, .inr ⟨rfl, fun c hc => ?_⟩⟩
      obtain ⟨k, hk⟩ := List.getElem?_of_mem hc
      exact HN.out k c (List.getElem?_eq_some_iff.1 hk).1 hk
end Go.Proofs.Ytkacelpndeoogaa

/- slices.DeleteFunc and Clone at the items of a query, as this program calls them; the program's exprsIn. -/
namespace Go.Proofs.Ytkacelpndeoogaa
open Go.RowKit

theorem run_clear_items (w : World) (g o n c : Nat) (cur : Array Value) (ty : TypeId) (hg : RowAt w g 126 cur) (hn : 0 < n) (hfit : o + n * 13 ≤ cur.size) :
    ∃ cs', (Builtin.clear_ #[34] ty #[.slice (some ⟨g, o, none⟩) n c]).run Try.prog w = .ok (.tuple #[]) (w.setRow g cs') ∧ cs'.size = cur.size ∧ ∀ x, x < o → cs'[x]? = cur[x]? := by
  obtain ⟨m, rfl⟩ : ∃ m, n = m + 1 := ⟨n - 1, by omega⟩
  have hz : ∀ v ∈ (Builtin.zeroCells #[.bool false, .string ⟨#[]⟩, .int .i64 0, .int .i64 0, .bool false, .int .i64 0, .int .i64 0, .string ⟨#[]⟩, .string ⟨#[]⟩, .string ⟨#[]⟩, .slice none 0 0, .slice none 0 0, .string ⟨#[]⟩] (m + 1)).toList, v.oneCell' = true := by
    intro v hv
    simp only [Builtin.zeroCells, Array.toList_map, List.mem_map] at hv
    obtain ⟨i, _, rfl⟩ := hv
    have hi : i % 13 < 13 := Nat.mod_lt _ (by decide)
    show (#[Value.bool false, .string ⟨#[]⟩, .int .i64 0, .int .i64 0, .bool false, .int .i64 0, .int .i64 0, .string ⟨#[]⟩, .string ⟨#[]⟩, .string ⟨#[]⟩, .slice none 0 0, .slice none 0 0, .string ⟨#[]⟩])[i % 13]!.oneCell' = true
    generalize i % 13 = k at hi
    match k, hi with
    | 0, _ | 1, _ | 2, _ | 3, _ | 4, _ | 5, _ | 6, _ | 7, _ | 8, _ | 9, _ | 10, _ | 11, _ | 12, _ => rfl
    | k + 13, h => exact absurd h (by omega)
  have hlen : (Builtin.zeroCells #[.bool false, .string ⟨#[]⟩, .int .i64 0, .int .i64 0, .bool false, .int .i64 0, .int .i64 0, .string ⟨#[]⟩, .string ⟨#[]⟩, .string ⟨#[]⟩, .slice none 0 0, .slice none 0 0, .string ⟨#[]⟩] (m + 1)).toList.length = (m + 1) * 13 := by
    rw [Array.length_toList, size_zeroCells]; rfl
  have hv : ∀ w, (zeroValue 126).run Try.prog w = .ok (.agg #[.bool false, .string ⟨#[]⟩, .int .i64 0, .int .i64 0, .bool false, .int .i64 0, .int .i64 0, .string ⟨#[]⟩, .string ⟨#[]⟩, .string ⟨#[]⟩, .slice none 0 0, .slice none 0 0, .string ⟨#[]⟩]) w := fun w => Try.zeroValue126 w
  generalize hZ : (Builtin.zeroCells #[.bool false, .string ⟨#[]⟩, .int .i64 0, .int .i64 0, .bool false, .int .i64 0, .int .i64 0, .string ⟨#[]⟩, .string ⟨#[]⟩, .string ⟨#[]⟩, .slice none 0 0, .slice none 0 0, .string ⟨#[]⟩] (m + 1)).toList = Z at hz hlen
  have hst := run_storeCells_at (P := Try.prog) g o 126 Z 0 cur w hg (by rw [hlen]; omega) hz
  refine ⟨(cur.toList.take o ++ Z ++ cur.toList.drop (o + Z.length)).toArray, ?_, ?_, ?_⟩
  · have hv2 := hv w
    simp only [Nat.add_zero] at hst
    simp [Builtin.clear_, run_underlying Try.underlying34, hv2, Value.cells, hZ, hst]
  · simp only [List.size_toArray, List.length_append, List.length_take, List.length_drop, hlen]
    have : cur.toList.length = cur.size := Array.length_toList
    omega
  · intro x hx
    have : cur.toList.length = cur.size := Array.length_toList
    rw [List.getElem?_toArray, List.append_assoc, List.getElem?_append_left (by rw [List.length_take]; omega), List.getElem?_take_of_lt hx]
    simp
theorem filter_snoc {L : List Nd} {j : Nat} {c : Nd} (h : L[j]? = some c) (p : Nd → Bool) : (L.take (j + 1)).filter p = (L.take j).filter p ++ (if p c then [c] else []) := by
  rw [take_next h, List.filter_append]
  congr 1
  simp only [List.filter_cons, List.filter_nil]
set_option maxRecDepth 100000 in
set_option maxHeartbeats 8000000 in
theorem deleteFunc_any (w0 W : World) (g cap B : Nat) (L : List Nd) (h : RowK (rowTy .items) 126 w0 W g cap L) (hB : B ≤ g) (hN : L.length ≤ 1048576) :
    Calls Try.prog 91 #[.slice (some ⟨g, 0, none⟩) L.length cap, .func (.func 93) #[] #[]] W fun e w' => ∃ v, e = .returned v ∧ LK (rowTy .items) w0 w' (fun q => q = g) v (L.filter fun c => !star c) ∧ Below B W w' := by
  have hcap : L.length ≤ cap := by obtain ⟨cs, _, _, h3, _⟩ := h; exact h3
  have hBW : B ≤ W.heap.size := Nat.le_of_lt (Nat.lt_of_le_of_lt hB h.lt)
  have hlk := h.lk (Nat.le_refl _) hcap
  rw [List.take_length] at hlk
  have hIF := indexFunc_any w0 W _ cap L (hlk.keep (Nat.le_refl _) (fun _ _ _ => rfl) fun _ _ _ => trivial) hN
  go_enter Try.func91, Try.ntmps91
  go_wp2_with fail
  refine hIF.mono ?_
  clear hIF
  rintro e w1 ⟨hb1, ⟨i0, hi0, rfl, hbef, c0, hc0, hs0⟩ | ⟨rfl, hall⟩⟩
  · have hR := h.later hb1
    have hb := hb1.mono hBW
    clear h hlk hb1
    have hne : ((i0 : Int) == -1) = false := by simp
    have h0 : (L.take (i0 + 1)).filter (fun c => !star c) = L.take i0 := by
      rw [filter_snoc hc0, hs0]
      have : (L.take i0).filter (fun c => !star c) = L.take i0 := List.filter_eq_self.2 fun c hc => by
        obtain ⟨k, hk⟩ := List.getElem?_of_mem hc
        have hki : k < i0 := by have := (List.getElem?_eq_some_iff.1 hk).1; rw [List.length_take] at this; omega
        rw [List.getElem?_take_of_lt hki] at hk
        rw [hbef k c hki hk]; rfl
      rw [this]; simp
    have H0 := Lib.hid h0
    clear h0 hbef hc0 hs0
    go_wp2_with fail
    go_loopw [5, 6] (fun a b wr => ∃ (i j : Nat) (R : List Nd), a = .int .i64 (i : Int) ∧ b = .int .i64 (j : Int) ∧ i < j ∧ j ≤ L.length ∧ R.length = L.length ∧ Hid (R.take i = (L.take j).filter fun c => !star c) ∧ Hid (R.drop j = L.drop j) ∧ RowK (rowTy .items) 126 w0 wr g cap R ∧ Below B W wr) (fun _ b _ => L.length - (intOf b).toNat)
    case atStart => exact ⟨i0, i0 + 1, L, rfl, by go_num, by omega, by omega, rfl, H0.out.symm, rfl, hR, hb⟩
    case round =>
      obtain ⟨i, j, R, rfl, rfl, hij, hj, hRl, hT, hD, hR, hb⟩ := hrel
      by_cases hlt : j < L.length
      · have hlt2 : (j : Int) < (L.length : Int) := by omega
        have hLj := List.getElem?_eq_getElem hlt
        have hRj : R[j]? = some L[j] := by
          have h1 : (R.drop j)[0]? = (L.drop j)[0]? := by rw [hD.out]
          rw [List.getElem?_drop, List.getElem?_drop, Nat.add_zero, hLj] at h1
          exact h1
        obtain ⟨ys, hys, hcell⟩ := hR.at hRj
        have hys2 := hys
        obtain ⟨x0, x1, x2, x3, x4, x5, x6, x7, x8, x9, ax10, nx10, px10, ax11, nx11, px11, x12, rfl, e0, -⟩ := hys.itemRow
        have z0 : wr.cell? ⟨g, j * 13, none⟩ = some (.bool x0) := hcell 0 _ rfl
        have z1 : wr.cell? ⟨g, j * 13 + 1, none⟩ = some (.string x1) := hcell 1 _ rfl
        have z2 : wr.cell? ⟨g, j * 13 + 2, none⟩ = some (.int .i64 x2) := hcell 2 _ rfl
        have z3 : wr.cell? ⟨g, j * 13 + 3, none⟩ = some (.int .i64 x3) := hcell 3 _ rfl
        have z4 : wr.cell? ⟨g, j * 13 + 4, none⟩ = some (.bool x4) := hcell 4 _ rfl
        have z5 : wr.cell? ⟨g, j * 13 + 5, none⟩ = some (.int .i64 x5) := hcell 5 _ rfl
        have z6 : wr.cell? ⟨g, j * 13 + 6, none⟩ = some (.int .i64 x6) := hcell 6 _ rfl
        have z7 : wr.cell? ⟨g, j * 13 + 7, none⟩ = some (.string x7) := hcell 7 _ rfl
        have z8 : wr.cell? ⟨g, j * 13 + 8, none⟩ = some (.string x8) := hcell 8 _ rfl
        have z9 : wr.cell? ⟨g, j * 13 + 9, none⟩ = some (.string x9) := hcell 9 _ rfl
        have z10 : wr.cell? ⟨g, j * 13 + 10, none⟩ = some (.slice ax10 nx10 px10) := hcell 10 _ rfl
        have z11 : wr.cell? ⟨g, j * 13 + 11, none⟩ = some (.slice ax11 nx11 px11) := hcell 11 _ rfl
        have z12 : wr.cell? ⟨g, j * 13 + 12, none⟩ = some (.string x12) := hcell 12 _ rfl
        clear hcell
        have hst : star L[j] = x0 := by unfold star; rw [e0]; rfl
        have hdn : Hid (∀ R' : List Nd, R'.drop (j + 1) = R.drop (j + 1) → R'.drop (j + 1) = L.drop (j + 1)) := fun R' h1 => by
          rw [h1, ← List.drop_drop, ← List.drop_drop, hD.out]
        have HS := Lib.hid hst
        have HLj := Lib.hid hLj
        clear e0 hst hRj hLj hys
        have bx0 := RowAt.new wr 126 #[.bool x0, .string x1, .int .i64 x2, .int .i64 x3, .bool x4, .int .i64 x5, .int .i64 x6, .string x7, .string x8, .string x9, .slice ax10 nx10 px10, .slice ax11 nx11 px11, .string x12]
        have hal : Below wr.heap.size wr (wr.alloc (.cells #[.bool x0, .string x1, .int .i64 x2, .int .i64 x3, .bool x4, .int .i64 x5, .int .i64 x6, .string x7, .string x8, .string x9, .slice ax10 nx10 px10, .slice ax11 nx11 px11, .string x12] 126)) := (Below.refl _ _).alloc (Nat.le_refl _) _
        cases x0
        case true =>
          go_wp2_with fail
          refine (isStar_any true x1 x2 x3 x4 x5 x6 x7 x8 x9 ax10 nx10 px10 ax11 nx11 px11 x12 (wr.alloc (.cells #[.bool true, .string x1, .int .i64 x2, .int .i64 x3, .bool x4, .int .i64 x5, .int .i64 x6, .string x7, .string x8, .string x9, .slice ax10 nx10 px10, .slice ax11 nx11 px11, .string x12] 126))).mono ?_
          rintro e w2 ⟨rfl, hb2⟩
          have hR1 := (hR.later hal).later hb2
          have hB1 : Below B W w2 := (hb.trans (hal.mono (by have := hR.lt; omega))).trans (hb2.mono (by have := hR.lt; simp; omega))
          clear hal hb2 bx0 hR hb z0 z1 z2 z3 z4 z5 z6 z7 z8 z9 z10 z11 z12
          go_wp2_with fail
          go_roundw
          case rel =>
            refine ⟨i, j + 1, R, rfl, by go_num, by omega, by omega, hRl, ?_, hdn R rfl, hR1, hB1⟩
            show R.take i = _
            rw [filter_snoc HLj.out, HS.out, hT.out]; simp
          case measure => simp [intOf]; omega
        case false =>
          go_wp2_with fail
          refine (isStar_any false x1 x2 x3 x4 x5 x6 x7 x8 x9 ax10 nx10 px10 ax11 nx11 px11 x12 (wr.alloc (.cells #[.bool false, .string x1, .int .i64 x2, .int .i64 x3, .bool x4, .int .i64 x5, .int .i64 x6, .string x7, .string x8, .string x9, .slice ax10 nx10 px10, .slice ax11 nx11 px11, .string x12] 126))).mono ?_
          rintro e w1 ⟨rfl, hb2⟩
          have hR1 := (hR.later hal).later hb2
          have hg := hR.lt
          have hB1 : Below B W w1 := (hb.trans (hal.mono (by omega))).trans (hb2.mono (by simp; omega))
          have box := bx0.later hb2
          have hi : i < R.length := by omega
          have y0 := box.cell (i := 0) (v := .bool false) rfl
          have y1 := box.cell (i := 1) (v := .string x1) rfl
          have y2 := box.cell (i := 2) (v := .int .i64 x2) rfl
          have y3 := box.cell (i := 3) (v := .int .i64 x3) rfl
          have y4 := box.cell (i := 4) (v := .bool x4) rfl
          have y5 := box.cell (i := 5) (v := .int .i64 x5) rfl
          have y6 := box.cell (i := 6) (v := .int .i64 x6) rfl
          have y7 := box.cell (i := 7) (v := .string x7) rfl
          have y8 := box.cell (i := 8) (v := .string x8) rfl
          have y9 := box.cell (i := 9) (v := .string x9) rfl
          have y10 := box.cell (i := 10) (v := .slice ax10 nx10 px10) rfl
          have y11 := box.cell (i := 11) (v := .slice ax11 nx11 px11) rfl
          have y12 := box.cell (i := 12) (v := .string x12) rfl
          obtain ⟨u0, p0, v0⟩ : ∃ u, w1.cell? ⟨g, i * 13, none⟩ = some u ∧ w1.frozen? ⟨g, i * 13, none⟩ = false := hR1.spot hi (m := 0) (by decide)
          obtain ⟨u1, p1, v1⟩ : ∃ u, w1.cell? ⟨g, i * 13 + 1, none⟩ = some u ∧ w1.frozen? ⟨g, i * 13 + 1, none⟩ = false := hR1.spot hi (m := 1) (by decide)
          obtain ⟨u2, p2, v2⟩ : ∃ u, w1.cell? ⟨g, i * 13 + 2, none⟩ = some u ∧ w1.frozen? ⟨g, i * 13 + 2, none⟩ = false := hR1.spot hi (m := 2) (by decide)
          obtain ⟨u3, p3, v3⟩ : ∃ u, w1.cell? ⟨g, i * 13 + 3, none⟩ = some u ∧ w1.frozen? ⟨g, i * 13 + 3, none⟩ = false := hR1.spot hi (m := 3) (by decide)
          obtain ⟨u4, p4, v4⟩ : ∃ u, w1.cell? ⟨g, i * 13 + 4, none⟩ = some u ∧ w1.frozen? ⟨g, i * 13 + 4, none⟩ = false := hR1.spot hi (m := 4) (by decide)
          obtain ⟨u5, p5, v5⟩ : ∃ u, w1.cell? ⟨g, i * 13 + 5, none⟩ = some u ∧ w1.frozen? ⟨g, i * 13 + 5, none⟩ = false := hR1.spot hi (m := 5) (by decide)
          obtain ⟨u6, p6, v6⟩ : ∃ u, w1.cell? ⟨g, i * 13 + 6, none⟩ = some u ∧ w1.frozen? ⟨g, i * 13 + 6, none⟩ = false := hR1.spot hi (m := 6) (by decide)
          obtain ⟨u7, p7, v7⟩ : ∃ u, w1.cell? ⟨g, i * 13 + 7, none⟩ = some u ∧ w1.frozen? ⟨g, i * 13 + 7, none⟩ = false := hR1.spot hi (m := 7) (by decide)
          obtain ⟨u8, p8, v8⟩ : ∃ u, w1.cell? ⟨g, i * 13 + 8, none⟩ = some u ∧ w1.frozen? ⟨g, i * 13 + 8, none⟩ = false := hR1.spot hi (m := 8) (by decide)
          obtain ⟨u9, p9, v9⟩ : ∃ u, w1.cell? ⟨g, i * 13 + 9, none⟩ = some u ∧ w1.frozen? ⟨g, i * 13 + 9, none⟩ = false := hR1.spot hi (m := 9) (by decide)
          obtain ⟨u10, p10, v10⟩ : ∃ u, w1.cell? ⟨g, i * 13 + 10, none⟩ = some u ∧ w1.frozen? ⟨g, i * 13 + 10, none⟩ = false := hR1.spot hi (m := 10) (by decide)
          obtain ⟨u11, p11, v11⟩ : ∃ u, w1.cell? ⟨g, i * 13 + 11, none⟩ = some u ∧ w1.frozen? ⟨g, i * 13 + 11, none⟩ = false := hR1.spot hi (m := 11) (by decide)
          obtain ⟨u12, p12, v12⟩ : ∃ u, w1.cell? ⟨g, i * 13 + 12, none⟩ = some u ∧ w1.frozen? ⟨g, i * 13 + 12, none⟩ = false := hR1.spot hi (m := 12) (by decide)
          have hR2 := hR1.put hi hys2
          have hB2 := puts_below (B := g) hB [.bool false, .string x1, .int .i64 x2, .int .i64 x3, .bool x4, .int .i64 x5, .int .i64 x6, .string x7, .string x8, .string x9, .slice ax10 nx10 px10, .slice ax11 nx11 px11, .string x12] (i * 13) hB1
          clear hal hb2 bx0 box hR hb hR1 hB1 z0 z1 z2 z3 z4 z5 z6 z7 z8 z9 z10 z11 z12
          go_wp2_with fail
          rw [show (((((((((((((w1.setCell ⟨g, i * 13, none⟩ (.bool false)).setCell ⟨g, i * 13 + 1, none⟩ (.string x1)).setCell ⟨g, i * 13 + 2, none⟩ (.int .i64 x2)).setCell ⟨g, i * 13 + 3, none⟩ (.int .i64 x3)).setCell ⟨g, i * 13 + 4, none⟩ (.bool x4)).setCell ⟨g, i * 13 + 5, none⟩ (.int .i64 x5)).setCell ⟨g, i * 13 + 6, none⟩ (.int .i64 x6)).setCell ⟨g, i * 13 + 7, none⟩ (.string x7)).setCell ⟨g, i * 13 + 8, none⟩ (.string x8)).setCell ⟨g, i * 13 + 9, none⟩ (.string x9)).setCell ⟨g, i * 13 + 10, none⟩ (.slice ax10 nx10 px10)).setCell ⟨g, i * 13 + 11, none⟩ (.slice ax11 nx11 px11)).setCell ⟨g, i * 13 + 12, none⟩ (.string x12)) = puts g (i * 13) [.bool false, .string x1, .int .i64 x2, .int .i64 x3, .bool x4, .int .i64 x5, .int .i64 x6, .string x7, .string x8, .string x9, .slice ax10 nx10 px10, .slice ax11 nx11 px11, .string x12] w1 from rfl]
          replace hR2 : RowK (rowTy .items) 126 w0 (puts g (i * 13) [.bool false, .string x1, .int .i64 x2, .int .i64 x3, .bool x4, .int .i64 x5, .int .i64 x6, .string x7, .string x8, .string x9, .slice ax10 nx10 px10, .slice ax11 nx11 px11, .string x12] w1) g cap (R.set i L[j]) := hR2
          generalize puts g (i * 13) [.bool false, .string x1, .int .i64 x2, .int .i64 x3, .bool x4, .int .i64 x5, .int .i64 x6, .string x7, .string x8, .string x9, .slice ax10 nx10 px10, .slice ax11 nx11 px11, .string x12] w1 = w3 at hR2 hB2 ⊢
          go_roundw
          case rel =>
            refine ⟨i + 1, j + 1, R.set i L[j], by go_num, by go_num, by omega, by omega, by rw [List.length_set]; exact hRl, ?_, hdn _ (by rw [List.drop_set_of_lt (by omega)]), hR2, hB2⟩
            show (R.set i L[j]).take (i + 1) = _
            rw [filter_snoc HLj.out, HS.out, take_next (List.getElem?_set_self hi), List.take_set_of_le (Nat.le_refl _), hT.out]; simp
          case measure => simp [intOf]; omega
      · obtain rfl : j = L.length := by omega
        clear hlt hj
        have hni : 0 < L.length - i := by omega
        obtain ⟨cs, c1, c2, c3, c4⟩ := hR
        have hRc : RowK (rowTy .items) 126 w0 wr g cap R := ⟨cs, c1, c2, c3, c4⟩
        have hfit : i * 13 + (L.length - i) * 13 ≤ cs.size := by
          rw [c2]; show _ ≤ cap * 13
          omega
        have hcl := fun ty => run_clear_items wr g (i * 13) (L.length - i) (cap - i) cs ty c1 hni hfit
        obtain ⟨cs', k1, k2, k3⟩ := hcl 0
        have hrow : RowAt (wr.setRow g cs') g 126 cs' := setRow_heap wr g cs cs' _ _ c1
        have hB3 : Below B W (wr.setRow g cs') := hb.trans ⟨rfl, rfl, rfl, by simp, fun k hk => setRow_other wr g k _ (by omega)⟩
        have hcut := hRc.cut (i := i) (by omega) _ hrow (k2.trans c2) (fun cs2 h2 x hx => by
          have e : cs2 = cs := by have h3 := h2.symm.trans c1; injection h3 with h3; injection h3
          rw [e]; exact k3 x hx)
        rw [hT.out, List.take_length] at hcut
        have hfl : (L.filter fun c => !star c).length = i := by
          have := congrArg List.length hT.out
          rw [List.length_take, List.take_length] at this
          omega
        have hlk2 := hcut.lk (Nat.le_refl _) (show _ ≤ cap by omega)
        rw [List.take_length, hfl] at hlk2
        clear hcl c4 hRc hcut hT hD
        go_wp2_with fail
        go_ret
        exact ⟨_, rfl, hlk2, hB3⟩
  · have he : (L.filter fun c => !star c) = L := List.filter_eq_self.2 fun c hc => by rw [hall c hc]; rfl
    have HL := Lib.hid he
    clear he hall
    go_wp2_with fail
    go_ret
    refine ⟨_, rfl, ?_, hb1.mono hBW⟩
    rw [HL.out]
    exact hlk.later hb1
theorem RowK.of_owns {tys : List Ty} {T : TypeId} {w0 w : World} {B n : Nat} {v : Value} {C : List Value} {L : List Nd} (h : w.ownsRow B T tys.length v n C) (hC : OutK tys w0 C L) (hn : L.length = n) :
    (v = .slice none 0 0 ∧ L = []) ∨ ∃ g cap, v = .slice (some ⟨g, 0, none⟩) n cap ∧ B ≤ g ∧ RowK tys T w0 w g cap L := by
  rcases h.2 with ⟨e, h0⟩ | ⟨g, cap, cur, e, hg, hrow, hnc, hcm, hsz, hcur⟩
  · exact .inl ⟨e, List.eq_nil_of_length_eq_zero (by omega)⟩
  · refine .inr ⟨g, cap, e, hg, cur, hrow, hsz, by omega, fun k c hk => ?_⟩
    have hkl : k < L.length := (List.getElem?_eq_some_iff.1 hk).1
    have hlen : k * tys.length + tys.length ≤ C.length := by
      rw [hC.1]
      have := Nat.mul_le_mul_right tys.length (show k + 1 ≤ L.length by omega)
      rw [Nat.add_mul, Nat.one_mul] at this
      exact this
    refine ⟨(C.drop (k * tys.length)).take tys.length, OutK.one (by rw [List.length_take, List.length_drop]; omega) fun m hm => ?_, fun m u hm => ?_⟩
    · obtain ⟨y, hy, hr⟩ := hC.2 k c hk m hm
      exact ⟨y, by rw [List.getElem?_take_of_lt hm, List.getElem?_drop]; exact hy, hr⟩
    · have hml : m < tys.length := by have := (List.getElem?_eq_some_iff.1 hm).1; rw [List.length_take] at this; omega
      rw [List.getElem?_take_of_lt hml, List.getElem?_drop, ← hcur, List.getElem?_take_of_lt (by rw [← hn]; exact mul_lt_of hkl hml)] at hm
      simpa using hm
theorem Try.infoItm : (Try.prog.info? 126).map (fun i => (i.zero, i.size, i.bytes)) = some (some (.agg #[.bool false, .string ByteArray.empty, .int .i64 0, .int .i64 0, .bool false, .int .i64 0, .int .i64 0, .string ByteArray.empty, .string ByteArray.empty, .string ByteArray.empty, .slice none 0 0, .slice none 0 0, .string ByteArray.empty]), 13, 176) := by kernel_rfl
set_option maxRecDepth 100000 in
set_option maxHeartbeats 4000000 in
theorem clone_any (w0 W : World) (a : Option Addr) (cap : Nat) (L : List Nd) (G : Nat → Prop) (h : LK (rowTy .items) w0 W G (.slice a L.length cap) L) (hN : L.length ≤ 1048576) :
    Calls Try.prog 92 #[.slice a L.length cap] W fun e w' => ∃ v, e = .returned v ∧ Below W.heap.size W w' ∧ ((v = .slice none 0 0 ∧ L = []) ∨ ∃ g cap', v = .slice (some ⟨g, 0, none⟩) L.length cap' ∧ W.heap.size ≤ g ∧ RowK (rowTy .items) 126 w0 w' g cap' L) := by
  obtain ⟨a', cap', C, e, hC, h⟩ := h
  injection e with e1 _ e3
  subst e1; subst e3
  cases a with
  | none =>
    have hL : L = [] := by
      rcases h with h | ⟨_, _, h, _⟩
      · exact h
      · cases h
    subst hL
    have hnil := Lib.run_eql_slice_nil (P := Try.prog) W 34 126 none 0 cap 0 0 Try.underlying34
    simp only [List.length_nil]
    go_enter Try.func92, Try.ntmps92
    go_wp2_with fail
    go_ret
    exact ⟨_, rfl, Below.refl _ _, .inl (by simp)⟩
  | some ad =>
    obtain ⟨i, hi, hz, hsize, hby⟩ := info_parts Try.infoItm
    have hcl : C.length = L.length * 13 := hC.1
    have hcell : ∀ j u, C[j]? = some u → (W.alloc (.cells #[] 126)).cell? (ad.add j) = some u := by
      intro j u hj
      rcases h with rfl | ⟨g, o, e, _, _, hlt, hc⟩
      · rw [List.length_nil, Nat.zero_mul] at hcl
        have := (List.getElem?_eq_some_iff.1 hj).1
        omega
      · injection e with e
        subst e
        have hadd : (⟨g, o, none⟩ : Addr).add j = ⟨g, o + j, none⟩ := by unfold Addr.add; split <;> simp_all
        rw [hadd]
        have h1 := hc j u hj
        exact (((Below.refl _ W).alloc (Nat.le_refl _) _).cell (p := ⟨g, o + j, none⟩) hlt).trans h1
    have hown := World.ownsRow_lit W (e := 126) (size := 13) #[] 0 (Nat.le_refl _) (by decide) (by rfl)
    have hones := hC.ones
    have hout := Lib.hid hC
    have HH := Lib.hid hcell
    have HO := Lib.hid hones
    have hcl2 := Lib.hid hcl
    have hnil := Lib.run_eql_slice_nil (P := Try.prog) W 34 126 (some ad) L.length cap 0 0 Try.underlying34
    clear hC h hcell hones hcl
    go_enter Try.func92, Try.ntmps92
    go_wp2_with (at_builtin; refine wpList_append_own _ rfl (.tmp 5) (.tmp 6) 34 rfl W.heap.size 126 i _ 13 176 Try.underlying34 hi hz hsize hby rfl (by decide) (.slice (some ⟨W.heap.size, 0, none⟩) 0 0) 0 [] rfl hown ad L.length cap C rfl hcl2.out HH.out HO.out (by unfold maxLen; omega) (by omega) (by simp) ?_; intro v' w' hown' hgrow _)
    go_ret
    refine ⟨_, rfl, ((Below.refl _ W).alloc (Nat.le_refl _) _).grown hgrow (by simp) (fun q hq => by cases hq; exact Nat.le_refl _), ?_⟩
    rw [Nat.zero_add, List.nil_append] at hown'
    exact RowK.of_owns (tys := rowTy .items) hown' hout.out rfl
theorem exprsIn_len (n : Nat) (k : Nat) (f : Nat → Nat → Dat) : ((Dat.sl n k f).els.filter fun c => !star c).map (cut 2) = exItems (.sl n k f) := rfl
theorem Rd.lkK {w : World} {n : Nat} {f : Nat → Nat → Dat} {a : Option Addr} {m cap : Nat} {ty : Ty} {G : Nat → Prop} (h : Rd w 0 (.slice a m cap) (.sl n (rowTy ty).length f)) (hf : Fits (.sl n (rowTy ty).length f) ty) (hG : ∀ g, g < w.heap.size → G g) :
    m = n ∧ LK (rowTy ty) w w G (.slice a n cap) (Dat.sl n (rowTy ty).length f).els := by
  obtain ⟨_, _, _, hfit⟩ := hf
  obtain ⟨a', cap', e, hc, hz, h⟩ := h
  injection e with e1 e2 e3
  subst e1; subst e2; subst e3
  refine ⟨rfl, ?_⟩
  have hlen : (Dat.sl m (rowTy ty).length f).els.length = m := els_len _ _ _
  rcases h with rfl | ⟨g, o, rfl, _, hg, hcell⟩
  · refine ⟨a, cap, [], by rw [hlen], ?_, .inl rfl⟩
    exact OutK.nil _ _
  · refine ⟨_, cap, (List.range (m * (rowTy ty).length)).map fun x => (w.cell? ⟨g, o + x, none⟩).getD undef, by rw [hlen], ⟨by rw [hlen]; simp, fun i c hi j hj => ?_⟩, .inr ⟨g, o, rfl, by rw [hlen]; exact hc, hG g hg, hg, fun j u hj => ?_⟩⟩
    · have him : i < m := by have := (List.getElem?_eq_some_iff.1 hi).1; omega
      obtain ⟨y, hy, hr⟩ := hcell i him j hj
      have hcf : c = f i := by simpa [Dat.els, Dat.len, Dat.el, him] using hi.symm
      subst hcf
      refine ⟨y, ?_, hr, hfit i him j hj⟩
      rw [List.getElem?_map, List.getElem?_range (mul_lt_of him hj)]
      rw [Nat.add_assoc] at hy
      simp [hy]
    · have hj2 : j < m * (rowTy ty).length := by have := (List.getElem?_eq_some_iff.1 hj).1; simpa using this
      rw [List.getElem?_map, List.getElem?_range hj2] at hj
      have hk0 : 0 < (rowTy ty).length := by
        rcases Nat.eq_zero_or_pos (rowTy ty).length with h | h
        · rw [h, Nat.mul_zero] at hj2; omega
        · exact h
      obtain ⟨y, hy, _⟩ := hcell (j / (rowTy ty).length) (by rw [Nat.div_lt_iff_lt_mul hk0]; exact hj2) (j % (rowTy ty).length) (Nat.mod_lt _ hk0)
      rw [Nat.add_assoc, show j / (rowTy ty).length * (rowTy ty).length + j % (rowTy ty).length = j by rw [Nat.mul_comm]; exact Nat.div_add_mod _ _] at hy
      rw [hy]
      simpa [hy] using hj
theorem deleteNil_any (W : World) :
    Calls Try.prog 91 #[.slice none 0 0, .func (.func 93) #[] #[]] W fun e w' => e = .returned (.slice none 0 0) ∧ Below W.heap.size W w' := by
  have h : LK (rowTy .items) W W (fun _ => True) (.slice none ([] : List Nd).length 0) [] := ⟨none, 0, [], rfl, OutK.nil _ _, .inl rfl⟩
  have hIF := indexFunc_any W W none 0 [] h (by decide)
  rw [List.length_nil] at hIF
  go_enter Try.func91, Try.ntmps91
  go_wp2_with fail
  refine hIF.mono ?_
  clear hIF
  rintro e w1 ⟨hb1, ⟨i0, hi0, _⟩ | ⟨rfl, hall⟩⟩
  · exact absurd hi0 (by omega)
  · clear hall h
    go_wp2_with fail
    go_ret
    exact ⟨rfl, hb1⟩
theorem OutE.low {w0 wr : World} {B B' : Nat} {v : Value} {L : List Nd} (h : OutE w0 wr B v L) (hB : B' ≤ B) : OutE w0 wr B' v L := by
  obtain ⟨C, hC, hP⟩ := h
  refine ⟨C, ⟨hC.1, hC.2.imp id ?_⟩, hP⟩
  rintro ⟨g, cap, cur, e, hg, hr⟩
  exact ⟨g, cap, cur, e, Nat.le_trans hB hg, hr⟩
set_option maxRecDepth 100000 in
set_option maxHeartbeats 8000000 in
theorem exprsIn_any (w0 W : World) (c0 : Bool) (a1 : Option Addr) (n1 p1 : Nat) (a2 : Option Addr) (n2 p2 : Nat) (a3 : Option Addr) (n3 p3 : Nat) (a4 : Option Addr) (n4 p4 : Nat) (c5 : Int) (f1 f2 f3 f4 : Nat → Nat → Dat)
    (hb0 : Below w0.heap.size w0 W) (r1 : Rd w0 0 (.slice a1 n1 p1) (.sl n1 13 f1)) (q1 : Fits (.sl n1 13 f1) .items) (r2 : Rd w0 0 (.slice a2 n2 p2) (.sl n2 3 f2)) (q2 : Fits (.sl n2 3 f2) .sources)
    (r3 : Rd w0 0 (.slice a3 n3 p3) (.sl n3 10 f3)) (q3 : Fits (.sl n3 10 f3) .exprs) (r4 : Rd w0 0 (.slice a4 n4 p4) (.sl n4 11 f4)) (q4 : Fits (.sl n4 11 f4) .keys)
    (hN : n1 + (exFrom (.sl n2 3 f2)).length + n3 + n4 ≤ 1048576) :
    Calls Try.prog 43 #[.agg #[.bool c0, .slice a1 n1 p1, .slice a2 n2 p2, .slice a3 n3 p3, .slice a4 n4 p4, .int .i64 c5]] W fun e w' => ∃ v, e = .returned v ∧
      OutE w0 w' (W.heap.size + 1) v (((exItems (.sl n1 13 f1) ++ exFrom (.sl n2 3 f2)) ++ (Dat.sl n3 10 f3).els) ++ (Dat.sl n4 11 f4).els) ∧ Below W.heap.size W w' := by
  obtain ⟨_, hlk⟩ := Rd.lkK (ty := .items) (G := fun g => g < w0.heap.size) r1 q1 fun g hg => hg
  have hl1 : (Dat.sl n1 (rowTy .items).length f1).els.length = n1 := els_len _ _ _
  rw [← exprsIn_len]
  have hx : (Dat.sl n1 13 f1).els = (Dat.sl n1 (rowTy .items).length f1).els := rfl
  rw [hx]
  clear hx
  generalize (Dat.sl n1 (rowTy .items).length f1).els = L at hlk hl1 ⊢
  subst hl1
  clear r1 q1 f1
  have hlW := hlk.keep (w' := W) (G' := fun g => g < w0.heap.size) hb0.size (fun g _ hlt => hb0.block g hlt) fun _ h _ => h
  have HB := BX.new W 38 #[.bool c0, .slice a1 L.length p1, .slice a2 n2 p2, .slice a3 n3 p3, .slice a4 n4 p4, .int .i64 c5]
  go_enter Try.func43, Try.ntmps43
  have b1 := HB.box.cell (i := 1) (v := .slice a1 L.length p1) rfl
  go_wp2_with fail
  generalize W.alloc (.cells #[.bool c0, .slice a1 L.length p1, .slice a2 n2 p2, .slice a3 n3 p3, .slice a4 n4 p4, .int .i64 c5] 38) = w1 at HB b1 ⊢
  clear b1
  have hl1 := hlW.later ((Below.refl _ _).trans (HB.b))
  refine (clone_any w0 w1 a1 p1 L _ hl1 (by omega)).mono ?_
  rintro e w2 ⟨v, rfl, hb2, hcl⟩
  have HB2 := HB.next hb2
  have hs1 : W.heap.size < w1.heap.size := HB.box.lt
  have hf : (L.filter fun c => !star c).length ≤ L.length := List.length_filter_le _ _
  obtain ⟨w3pf⟩ : Nonempty (Calls Try.prog 91 #[v, .func (.func 93) #[] #[]] w2 fun e w' => ∃ v, e = .returned v ∧ LK (rowTy .items) w0 w' (fun q => q ≠ W.heap.size) v (L.filter fun c => !star c) ∧ Below w1.heap.size w2 w') := by
    rcases hcl with ⟨rfl, rfl⟩ | ⟨g, cap', rfl, hg, hrow⟩
    · refine ⟨(deleteNil_any w2).mono ?_⟩
      rintro e w' ⟨rfl, hb⟩
      exact ⟨_, rfl, ⟨none, 0, [], rfl, OutK.nil _ _, .inl rfl⟩, hb.mono hb2.size⟩
    · refine ⟨(deleteFunc_any w0 w2 g cap' w1.heap.size L hrow hg (by omega)).mono ?_⟩
      rintro e w' ⟨v, rfl, hl, hb⟩
      exact ⟨_, rfl, hl.keep (Nat.le_refl _) (fun _ _ _ => rfl) (fun q hq _ => by omega), hb⟩
  obtain ⟨v2, hv2⟩ : ∃ v2, v2 = v := ⟨_, rfl⟩
  rw [← hv2] at w3pf ⊢
  clear hcl hv2
  go_wp2_with fail
  refine w3pf.mono ?_
  clear w3pf
  rintro e w3 ⟨v3, rfl, hl3, hb3⟩
  obtain ⟨a3', p3', rfl⟩ := hl3.slice
  have HB3 : RowAt w3 W.heap.size 38 #[.bool c0, .slice a1 L.length p1, .slice a2 n2 p2, .slice a3 n3 p3, .slice a4 n4 p4, .int .i64 c5] := (hb3.block _ hs1).trans HB2.box
  have hbW : Below W.heap.size W w3 := HB2.b.trans (hb3.mono (Nat.le_of_lt hs1))
  have k1 := HB3.cell (i := 1) (v := .slice a1 L.length p1) rfl
  have k2 := HB3.soft 1
  have R4 : RowAt (w3.setCell ⟨W.heap.size, 1, none⟩ (.slice a3' (L.filter fun c => !star c).length p3')) W.heap.size 38 #[.bool c0, .slice a3' (L.filter fun c => !star c).length p3', .slice a2 n2 p2, .slice a3 n3 p3, .slice a4 n4 p4, .int .i64 c5] := HB3.set 1 _
  have x0 := R4.cell (i := 0) (v := .bool c0) rfl
  have x1 := R4.cell (i := 1) (v := .slice a3' (L.filter fun c => !star c).length p3') rfl
  have x2 := R4.cell (i := 2) (v := .slice a2 n2 p2) rfl
  have x3 := R4.cell (i := 3) (v := .slice a3 n3 p3) rfl
  have x4 := R4.cell (i := 4) (v := .slice a4 n4 p4) rfl
  have x5 := R4.cell (i := 5) (v := .int .i64 c5) rfl
  have hl4 : LK (rowTy .items) w0 (w3.setCell ⟨W.heap.size, 1, none⟩ (.slice a3' (L.filter fun c => !star c).length p3')) (fun _ => True) (.slice a3' (L.filter fun c => !star c).length p3') (L.filter fun c => !star c) :=
    hl3.keep (by simp) (fun q hq _ => heap_setCell_other w3 ⟨W.heap.size, 1, none⟩ q _ hq) fun _ _ _ => trivial
  have hW4 : Below W.heap.size W (w3.setCell ⟨W.heap.size, 1, none⟩ (.slice a3' (L.filter fun c => !star c).length p3')) := hbW.setCell (p := ⟨W.heap.size, 1, none⟩) (Nat.le_refl _) _
  have hb4 := hb0.trans (hW4.mono hb0.size)
  clear hl3 hb3 hb2 hbW HB3 HB2 HB hl1 hlW hlk
  generalize hLf : (L.filter fun c => !star c) = Lf at *
  go_wp2_with fail
  generalize w3.setCell ⟨W.heap.size, 1, none⟩ (.slice a3' Lf.length p3') = w4 at *
  refine (slots_any w0 w4 c0 a3' p3' Lf a2 n2 p2 a3 n3 p3 a4 n4 p4 c5 f2 f3 f4 hb4 hl4 r2 q2 r3 q3 r4 q4 (by omega)).mono ?_
  rintro e w5 ⟨v5, rfl, ho, hb5⟩
  clear x0 x1 x2 x3 x4 x5 k1 k2
  go_wp2_with fail
  go_ret
  subst hLf
  exact ⟨_, rfl, ho.low (B' := W.heap.size + 1) (by have := R4.lt; omega), hW4.trans (hb5.mono hW4.size)⟩
end Go.Proofs.Ytkacelpndeoogaa
