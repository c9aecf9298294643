
/- A region that draws its order, whose operations are quiet but for one allocation, which may come up at any time, and the store into it: one walk, in the order of the text. -/
import Derived.Test.YtgihklohhjhjbaaLat
import Derived.Test.YtgihklohhjhjbaaLatTail
import Derived.Test.YtgihklohhjhjbaaDet
namespace Go.Proofs.Ytgihklohhjhjbaa
open Go.RowKit

/-- the region with operation m made idle -/
def idle : List Oper → Nat → List Oper
  | [], _ => []
  | o :: l, 0 => { o with op := .assign (.const undef) } :: l
  | o :: l, n + 1 => o :: idle l n
theorem idle_at : ∀ (l : List Oper) (m : Nat), (idle l m)[m]? = (l[m]?).map fun o => { o with op := .assign (.const undef) }
  | [], m => by simp [idle]
  | o :: l, 0 => by simp [idle]
  | o :: l, m + 1 => by simp [idle, idle_at l m]
theorem idle_ne : ∀ (l : List Oper) (m j : Nat), j ≠ m → (idle l m)[j]? = l[j]?
  | [], m, j, _ => by simp [idle]
  | o :: l, 0, 0, h => absurd rfl h
  | o :: l, 0, j + 1, _ => by simp [idle]
  | o :: l, m + 1, 0, _ => by simp [idle]
  | o :: l, m + 1, j + 1, h => by simp [idle, idle_ne l m j (by omega)]
theorem idle_same (l : List Oper) (m j : Nat) : ((idle l m)[j]?).map (fun o => (o.dst, o.after, o.guard)) = (l[j]?).map (fun o => (o.dst, o.after, o.guard)) := by
  by_cases h : j = m
  · subst h
    rw [idle_at]
    cases l[j]? <;> rfl
  · rw [idle_ne l m j h]
theorem idle_len : ∀ (l : List Oper) (m : Nat), (idle l m).length = l.length
  | [], _ => rfl
  | _ :: _, 0 => rfl
  | _ :: l, m + 1 => by simp [idle, idle_len l m]

section
variable {P : Program} {md : Region.Mode} {l lv : List Oper}
/-- two regions that differ in what is done alone -/
def Alike (l lv : List Oper) : Prop := ∀ j : Nat, (lv[j]?).map (fun o : Oper => (o.dst, o.after, o.guard)) = (l[j]?).map (fun o : Oper => (o.dst, o.after, o.guard))
theorem Alike.some (h : Alike l lv) {j : Nat} {o : Oper} (ho : l[j]? = some o) : ∃ o', lv[j]? = some o' ∧ o'.dst = o.dst ∧ o'.after = o.after ∧ o'.guard = o.guard := by
  have h1 := h j
  rw [ho] at h1
  cases h2 : lv[j]? with
  | none => rw [h2] at h1; cases h1
  | some o' =>
    rw [h2] at h1
    simp only [Option.map_some, Option.some.injEq, Prod.mk.injEq] at h1
    exact ⟨o', rfl, h1⟩
theorem Alike.symm (h : Alike l lv) : Alike lv l := fun j => (h j).symm
theorem Alike.ready (h : Alike l lv) {i : Nat} {listed : Array Bool} (hi : i ∈ Region.ready md l.toArray listed) : i ∈ Region.ready md lv.toArray listed := by
  obtain ⟨h1, o, ho, ha⟩ := mem_ready.1 hi
  obtain ⟨o', ho', _, e2, _⟩ := h.some (by simpa using ho)
  exact mem_ready.2 ⟨h1, o', by simpa using ho', by rw [e2]; exact ha⟩
theorem Alike.yielded (h : Alike l lv) (ts : Array Value) : yielded lv.toArray ts = yielded l.toArray ts := by
  funext j
  unfold Go.yielded
  have : (lv.toArray[j]?).bind (·.dst) = (l.toArray[j]?).bind (·.dst) := by
    have h1 := h j
    have e1 : lv.toArray[j]? = lv[j]? := by simp
    have e2 : l.toArray[j]? = l[j]? := by simp
    rw [e1, e2]
    cases h2 : lv[j]? <;> cases h3 : l[j]? <;> rw [h2, h3] at h1 <;> simp at h1 ⊢
    exact h1.1
  rw [this]
theorem Alike.wanted (h : Alike l lv) {o : Oper} (ts : Array Value) : Region.wanted o (Go.yielded lv.toArray ts) = Region.wanted o (Go.yielded l.toArray ts) := by rw [h.yielded]

/-- what is asked of the region -/
structure Floats (md : Region.Mode) (l : List Oper) (m s k : Nat) (d e : Tmp) (om os : Oper) : Prop where
  hm : l[m]? = some om
  hs : l[s]? = some os
  dst : om.dst = some d
  mg : om.guard = none
  sd : os.dst = none
  sg : os.guard = none
  wm : Region.waitsFor md l.toArray s m = true
  wk : Region.waitsFor md l.toArray s k = true
  ms : m ≠ s
  mnk : m ≠ k
  ap : ∀ j oj, l[j]? = some oj → j ≠ m → j ≠ s → om.apart l.toArray oj = true
  de : ∀ j oj, l[j]? = some oj → j ≠ k → oj.dst ≠ some e
  sel : Region.noSelect l.toArray = true
  back : ∀ i, i < l.length → backB md l l.length i = true
def floatsB (md : Region.Mode) (l : List Oper) (m s k : Nat) (d e : Tmp) : Bool :=
  (match l[m]?, l[s]? with
    | some om, some os => ((om.dst == some d) && om.guard.isNone) && (os.dst.isNone && os.guard.isNone) &&
      ((List.range l.length).all fun j => j == m || j == s || (match l[j]? with
        | some oj => om.apart l.toArray oj
        | none => true))
    | _, _ => false) &&
  ((Region.waitsFor md l.toArray s m && Region.waitsFor md l.toArray s k) && (m != s && m != k)) &&
  (((List.range l.length).all fun j => j == k || (match l[j]? with
    | some oj => oj.dst != some e
    | none => true)) && (Region.noSelect l.toArray && (List.range l.length).all fun i => backB md l l.length i))
theorem floats_of {m s k : Nat} {d e : Tmp} {om os : Oper} (hm : l[m]? = some om) (hs : l[s]? = some os) (h : floatsB md l m s k d e = true) : Floats md l m s k d e om os := by
  unfold floatsB at h
  rw [hm, hs] at h
  simp only [Bool.and_eq_true, Option.isNone_iff_eq_none, beq_iff_eq, bne_iff_ne, ne_eq] at h
  obtain ⟨⟨⟨⟨⟨h1, h2⟩, h3, h4⟩, h5⟩, ⟨h6, h7⟩, h8, h9⟩, h10, h11, h12⟩ := h
  refine ⟨hm, hs, h1, h2, h3, h4, h6, h7, h8, h9, ?_, ?_, h11, fun i hi => List.all_eq_true.1 h12 i (List.mem_range.2 hi)⟩
  · intro j oj hj hjm hjs
    have := List.all_eq_true.1 h5 j (List.mem_range.2 (List.getElem?_eq_some_iff.1 hj).1)
    rw [hj] at this
    simpa [hjm, hjs] using this
  · intro j oj hj hjk
    have := List.all_eq_true.1 h10 j (List.mem_range.2 (List.getElem?_eq_some_iff.1 hj).1)
    rw [hj] at this
    simpa [hjk] using this

theorem listed_whole {listed : Array Bool} (hs : listed.size = l.length) (hb : ∀ i, i < l.length → backB md l l.length i = true) (h : Region.ready md l.toArray listed = []) :
    ∀ i, i < l.length → listed.getD i true = true := by
  intro i
  induction i using Nat.strongRecOn with
  | _ i ih =>
    intro hi
    cases hl : listed.getD i true
    · exfalso
      have h1 := hb i hi
      unfold backB at h1
      rw [List.getElem?_eq_getElem hi, Bool.and_eq_true] at h1
      have hm : i ∈ Region.ready md l.toArray listed := by
        refine mem_ready.2 ⟨hl, l[i], by simp [hi], fun e he hbd => ?_⟩
        have h2 := Array.all_eq_true_iff_forall_mem.1 h1.1 e he
        rw [hbd] at h2
        have h3 : e.on < i := by simpa using h2
        have h4 := ih e.on h3 (by omega)
        have h5 : e.on < listed.size := by rw [hs]; omega
        simpa [h5] using h4
      rw [h] at hm
      cases hm
    · rfl

theorem waits_listed {s m : Nat} {listed : Array Bool} (hw : Region.waitsFor md l.toArray s m = true) (hr : s ∈ Region.ready md l.toArray listed) : listed.getD m false = true := by
  obtain ⟨oj, hoj, x, hx, hb, hon⟩ := Region.waitsFor_spec hw
  obtain ⟨_, o, ho, ha⟩ := mem_ready.1 hr
  obtain rfl : oj = o := Option.some.inj (hoj.symm.trans ho)
  rw [← hon]; exact ha x hx hb

theorem eval_put_ne {a : Act} {x : Option Tmp} {v : Value} {e : Tmp} (h : x ≠ some e) : (a.put x v).eval (.tmp e) = a.eval (.tmp e) :=
  Act.eval_put fun d hd he => h (by rw [hd]; injection he with he; rw [he])
/-- what stands in a slot that has been yielded stands there at the end -/
theorem look_end {C : World → Prop} {Qf : Act → Prop} {k : Nat} {e : Tmp} (de : ∀ j oj, lv[j]? = some oj → j ≠ k → oj.dst ≠ some e) :
    ∀ (f : Nat) (listed : Array Bool) (a : Act), wpAnyQ P md lv.toArray C Qf f listed a → listed.getD k false = true → ∃ a', Qf a' ∧ a'.eval (.tmp e) = a.eval (.tmp e)
  | 0, _, a, h, _ => ⟨a, h.2, rfl⟩
  | f + 1, listed, a, h, hk => by
    by_cases hr : Region.ready md lv.toArray listed = []
    · exact ⟨a, h.1 hr, rfl⟩
    · obtain ⟨i, hi⟩ := List.exists_mem_of_ne_nil _ hr
      obtain ⟨h0, o, ho, _⟩ := mem_ready.1 hi
      have hik : i ≠ k := fun e => by
        subst e
        rw [getD_both h0] at hk; cases hk
      obtain ⟨v, _, hK⟩ := yieldsIn_of_qOp ho (h.2 i hi)
      obtain ⟨a', h1, h2⟩ := look_end de f _ _ hK (getD_set_true hk)
      exact ⟨a', h1, h2.trans (eval_put_ne (de i o (by simpa using ho) hik))⟩

theorem wp_from_quiet {o : Oper} {a A : Act} {v : Value} {C : World → Prop} {K : Act → World → Prop} {Q' : Exit → Act → World → Prop} {w : World} (he : execOp A.eval o = execOp a.eval o) (hC : C w)
    (hq : o.quietAt P a C w v) (hK : ∀ w', C w' → K (A.put o.dst v) w') : o.wp P A w K Q' := by
  unfold Oper.quietAt at hq
  unfold Oper.wp
  rw [he]
  generalize (execOp a.eval o).run P w = r at *
  cases r with
  | ok n w' =>
    cases n <;> simp only [Oper.quietUpon] at hq <;> simp only [Oper.upon]
    case value u =>
      obtain ⟨e1, e2⟩ := hq
      rw [e1, e2]; exact hK _ hC
    case skip =>
      obtain ⟨e1, e2⟩ := hq
      rw [e1, ← e2]; exact hK _ hC
    case enter f args =>
      obtain ⟨e1, hc⟩ := hq
      rw [e1]
      exact hc.mono fun e w'' ⟨he, hw''⟩ => by subst he; exact hK _ hw''
  | halt x w' => simp only [Oper.quietUpon] at hq

/-- where the allocation and the store stand -/
inductive Stand (wr : World) (m s k : Nat) (d e : Tmp) (Z : Array Value) (T : TypeId) (Good : Value → Array Value → Prop) (listed : Array Bool) (a A : Act) (w : World) : Prop where
  | none (hm : listed.getD m true = false) (hs : listed.getD s true = false) (hA : A = a)
  | made (b : Nat) (hm : listed.getD m false = true) (hs : listed.getD s true = false) (hA : A = a.put (some d) (.pointer (some ⟨b, 0, none⟩))) (hb : wr.heap.size ≤ b) (hh : w.heap[b]? = some (.cells Z T (0, 0)))
  | done (b : Nat) (cs : Array Value) (hm : listed.getD m false = true) (hs : listed.getD s false = true) (hk : listed.getD k false = true) (hA : A = a.put (some d) (.pointer (some ⟨b, 0, none⟩))) (hb : wr.heap.size ≤ b)
      (hg : Good (a.eval (.tmp e)) cs) (hh : w.heap[b]? = some (.cells cs T (0, 0)))

theorem put_size (a : Act) (x : Option Tmp) (v : Value) : (a.put x v).tmps.size = a.tmps.size := by cases x <;> simp [Act.put]
theorem put_twice (a : Act) (d : Tmp) (v u : Value) : (a.put (some d) v).put (some d) u = a.put (some d) u := by simp [Act.put]
theorem put_eval {a : Act} {d : Tmp} {v : Value} (h : d < a.tmps.size) : (a.put (some d) v).eval (.tmp d) = v := by simp [Act.put, Act.eval, h]
theorem cells_lt {w : World} {b : Nat} {o : Obj} (h : w.heap[b]? = some o) : b < w.heap.size := (Array.getElem?_eq_some_iff.1 h).1

theorem float_any {wr : World} {Qf : Act → Prop} {Q' : Exit → Act → World → Prop} {m s k : Nat} {d e : Tmp} {om os : Oper} (HB : Floats md l m s k d e om os)
    {Z : Array Value} {T : TypeId} {Good : Value → Array Value → Prop}
    (hAl : ∀ (A : Act) (w : World), (execOp A.eval om).run P w = .ok (.value (.pointer (some ⟨w.heap.size, 0, none⟩))) (w.alloc (.cells Z T)))
    (hSt : ∀ (A : Act) (w : World) (b : Nat) (cs : Array Value), A.eval (.tmp d) = .pointer (some ⟨b, 0, none⟩) → Good (A.eval (.tmp e)) cs → w.heap[b]? = some (.cells Z T (0, 0)) →
      ∃ w', (execOp A.eval os).run P w = .ok .skip w' ∧ w'.heap[b]? = some (.cells cs T (0, 0)) ∧ Below b w w')
    (hG : ∀ a', Qf a' → ∃ cs, Good (a'.eval (.tmp e)) cs)
    (hQ : ∀ a' w' b cs, Qf a' → Below wr.heap.size wr w' → wr.heap.size ≤ b → Good (a'.eval (.tmp e)) cs → w'.heap[b]? = some (.cells cs T (0, 0)) → Q' .normal (a'.put (some d) (.pointer (some ⟨b, 0, none⟩))) w') :
    ∀ (f : Nat) (listed : Array Bool) (a A : Act) (w : World), listed.size = l.length → d < a.tmps.size → Below wr.heap.size wr w →
      (∀ X, Below wr.heap.size wr X → wpAnyQ P md (idle (idle l m) s).toArray (fun w' => ∃ n, w' = lat X n) Qf f listed a) →
      Stand wr m s k d e Z T Good listed a A w → wpAny P md l.toArray Q' f listed A w := by
  have hal : Alike l (idle (idle l m) s) := fun j => (idle_same (idle l m) s j).trans (idle_same l m j)
  have de' : ∀ j oj, (idle (idle l m) s)[j]? = some oj → j ≠ k → oj.dst ≠ some e := by
    intro j oj hj hjk
    obtain ⟨o', ho', e1, _, _⟩ := hal.symm.some hj
    rw [← e1]
    exact HB.de j o' ho' hjk
  have fin : ∀ (listed : Array Bool) (a A : Act) (w : World), listed.size = l.length → Below wr.heap.size wr w → Region.ready md l.toArray listed = [] → Qf a → Stand wr m s k d e Z T Good listed a A w → Q' .normal A w := by
    intro listed a A w hsz hw hr hq hst
    have hall := listed_whole hsz HB.back hr
    have hml : m < l.length := (List.getElem?_eq_some_iff.1 HB.hm).1
    have hsl : s < l.length := (List.getElem?_eq_some_iff.1 HB.hs).1
    cases hst with
    | none hm _ _ => rw [hall m hml] at hm; cases hm
    | made b _ hs _ _ _ => rw [hall s hsl] at hs; cases hs
    | done b cs _ _ _ hA hb hg hh => rw [hA]; exact hQ a w b cs hq hw hb hg hh
  intro f
  induction f with
  | zero =>
    intro listed a A w hsz _ hw hW hst
    have h0 := hW wr (Below.refl _ _)
    have hr : Region.ready md l.toArray listed = [] := by
      rcases hx : Region.ready md l.toArray listed with _ | ⟨i, r⟩
      · rfl
      · have := hal.ready (i := i) (by rw [hx]; exact List.mem_cons_self)
        rw [h0.1] at this; cases this
    exact ⟨hr, fin listed a A w hsz hw hr h0.2 hst⟩
  | succ f ih =>
    intro listed a A w hsz hd hw hW hst
    have h0 := hW wr (Below.refl _ _)
    refine ⟨fun hr => fin listed a A w hsz hw hr (h0.1 ?_) hst, fun j hj => ?_⟩
    · rcases hx : Region.ready md (idle (idle l m) s).toArray listed with _ | ⟨i, r⟩
      · rfl
      · have := hal.symm.ready (i := i) (by rw [hx]; exact List.mem_cons_self)
        rw [hr] at this; cases this
    · obtain ⟨hjun, oj, hoj, _⟩ := mem_ready.1 hj
      have hoj' : l[j]? = some oj := by simpa using hoj
      have hjv := hal.ready hj
      obtain ⟨ov, hov, edst, _, eguard⟩ := hal.some hoj'
      have hov' : (idle (idle l m) s).toArray[j]? = some ov := by simpa using hov
      have hsz' : (listed.setIfInBounds j true).size = l.length := by simpa using hsz
      obtain ⟨v, hy, _⟩ := yieldsIn_of_qOp hov' (h0.2 j hjv)
      have hall : ∀ X, Below wr.heap.size wr X → YieldsIn P (idle (idle l m) s).toArray (fun w' => ∃ n, w' = lat X n) ov v a ∧
          wpAnyQ P md (idle (idle l m) s).toArray (fun w' => ∃ n, w' = lat X n) Qf f (listed.setIfInBounds j true) (a.put ov.dst v) := by
        intro X hX
        obtain ⟨v', hy', hK'⟩ := yieldsIn_of_qOp hov' ((hW X hX).2 j hjv)
        have e1 : v' = v := by
          rcases hy with ⟨hw1, q1⟩ | ⟨hw1, rfl⟩ <;> rcases hy' with ⟨hw2, q2⟩ | ⟨hw2, rfl⟩
          · exact quiet_one (q2 X ⟨X, (lat_of (Below.refl _ _)).symm⟩) (q1 X ⟨X, (lat_of hX).symm⟩)
          · rw [hw1] at hw2; cases hw2
          · rw [hw1] at hw2; cases hw2
          · rfl
        subst e1
        exact ⟨hy', hK'⟩
      unfold wpOp
      rw [hoj]
      simp only []
      by_cases hjm : j = m
      · -- the allocation
        subst hjm
        obtain rfl : oj = om := Option.some.inj (hoj'.symm.trans HB.hm)
        have hwd : Region.wanted oj (yielded l.toArray A.tmps) = true := by unfold Region.wanted; rw [HB.mg]
        rw [if_pos hwd]
        refine .inl ?_
        unfold Oper.wp
        rw [hAl A w]
        simp only [Oper.upon]
        cases hst with
        | made b hm _ _ _ _ => rw [getD_both hjun] at hm; cases hm
        | done b cs hm _ _ _ _ _ _ => rw [getD_both hjun] at hm; cases hm
        | none hm hs hA =>
          subst hA
          refine ih _ (A.put ov.dst v) _ _ hsz' (by rw [put_size]; exact hd) (hw.alloc hw.size _) (fun X hX => (hall X hX).2) (Stand.made w.heap.size ?_ ?_ ?_ hw.size (heap_alloc_new w _))
          · have : j < listed.size := by rw [hsz]; exact (List.getElem?_eq_some_iff.1 hoj').1
            simp [this]
          · rw [getD_set_ne true HB.ms]; exact hs
          · rw [edst, HB.dst, put_twice]
      · by_cases hjs : j = s
        · -- the store
          subst hjs
          obtain rfl : oj = os := Option.some.inj (hoj'.symm.trans HB.hs)
          have hwd : Region.wanted oj (yielded l.toArray A.tmps) = true := by unfold Region.wanted; rw [HB.sg]
          rw [if_pos hwd]
          have hlm := waits_listed HB.wm hj
          have hlk := waits_listed HB.wk hj
          cases hst with
          | none hm _ _ => rw [getD_both hm] at hlm; cases hlm
          | done b cs _ hs _ _ _ _ _ => rw [getD_both hjun] at hs; cases hs
          | made b hm hs hA hb hh =>
            obtain ⟨a', hq', he'⟩ := look_end de' _ _ _ h0 hlk
            obtain ⟨cs, hg⟩ := hG a' hq'
            rw [he'] at hg
            have hne : (some d : Option Tmp) ≠ some e := by
              have h1 := HB.de m om HB.hm HB.mnk
              rw [HB.dst] at h1; exact h1
            obtain ⟨w', hrun, hh', hbw⟩ := hSt A w b cs (by rw [hA]; exact put_eval hd) (by rw [hA, eval_put_ne hne]; exact hg) hh
            refine .inl ?_
            unfold Oper.wp
            rw [hrun]
            simp only [Oper.upon]
            rw [HB.sd]
            refine ih _ a A w' hsz' hd (hw.trans (hbw.mono hb)) (fun X hX => ?_) (Stand.done b cs (getD_set_true hm) ?_ (getD_set_true hlk) hA hb hg hh')
            · have := (hall X hX).2
              rw [edst, HB.sd] at this
              exact this
            · have : j < listed.size := by rw [hsz]; exact (List.getElem?_eq_some_iff.1 hoj').1
              simp [this]
        · -- any other
          obtain rfl : ov = oj := by
            rw [idle_ne _ _ _ hjs, idle_ne _ _ _ hjm] at hov
            exact Option.some.inj (hov.symm.trans hoj')
          have hap := HB.ap j ov hoj' hjm hjs
          obtain ⟨h1, h2, _⟩ := Oper.apart_spec hap
          rw [HB.dst] at h1 h2
          have hsj : ∀ cs b, ov.op ≠ .select cs b := fun cs b => Region.noSelect_spec HB.sel j ov cs b hoj
          obtain ⟨hyw, _⟩ := hall w hw
          have hAe : execOp A.eval ov = execOp a.eval ov ∧ Region.wanted ov (yielded l.toArray A.tmps) = Region.wanted ov (yielded l.toArray a.tmps) := by
            cases hst with
            | none _ _ hA => subst hA; exact ⟨rfl, rfl⟩
            | made b _ _ hA _ _ => subst hA; exact ⟨execOp_put (ops := l.toArray) ov hsj a (some d) _ h1, wanted_put ov a (some d) _ h1⟩
            | done b cs _ _ _ hA _ _ _ => subst hA; exact ⟨execOp_put (ops := l.toArray) ov hsj a (some d) _ h1, wanted_put ov a (some d) _ h1⟩
          have next : ∀ w', Below w.heap.size w w' → wpAny P md l.toArray Q' f (listed.setIfInBounds j true) (A.put ov.dst v) w' := by
            intro w' hb'
            refine ih _ (a.put ov.dst v) _ w' hsz' (by rw [put_size]; exact hd) (hw.trans (hb'.mono hw.size)) (fun X hX => (hall X hX).2) ?_
            cases hst with
            | none hm hs hA => subst hA; exact .none (by rw [getD_set_ne true hjm]; exact hm) (by rw [getD_set_ne true hjs]; exact hs) rfl
            | made b hm hs hA hb hh =>
              subst hA
              exact .made b (getD_set_true hm) (by rw [getD_set_ne true hjs]; exact hs) (Act.put_comm _ _ _ h2) hb ((hb'.block b (cells_lt hh)).trans hh)
            | done b cs hm hs hk hA hb hg hh =>
              subst hA
              have hjk : j ≠ k := fun e => by subst e; rw [getD_both hjun] at hk; cases hk
              exact .done b cs (getD_set_true hm) (getD_set_true hs) (getD_set_true hk) (Act.put_comm _ _ _ h2) hb (by rw [eval_put_ne (HB.de j ov hoj' hjk)]; exact hg) ((hb'.block b (cells_lt hh)).trans hh)
          rw [hAe.2]
          rcases hyw with ⟨hw1, q⟩ | ⟨hw1, rfl⟩
          · rw [hal.wanted] at hw1
            rw [if_pos hw1]
            exact .inl (wp_from_quiet hAe.1 ⟨w, (lat_of (Below.refl _ _)).symm⟩ (q w ⟨w, (lat_of (Below.refl _ _)).symm⟩) fun w' ⟨n, hn⟩ => next w' (by rw [hn]; exact lat_below w n))
          · rw [hal.wanted] at hw1
            rw [if_neg (by rw [hw1]; exact Bool.false_ne_true)]
            exact next w (Below.refl _ _)

/-- the region, by one walk of its operations with the allocation and the store made idle -/
theorem region_float {id : Nat} {Q : Exit → Act → World → Prop} {a : Act} {w : World} (m s k : Nat) (d e : Tmp) {Qf : Act → Prop} {om os : Oper} (hm : l[m]? = some om) (hs : l[s]? = some os)
    (hmix : P.follows .mixedOrders = true) (hB : floatsB .any l m s k d e = true) (hL : Region.lexB .any (idle (idle l m) s).toArray = true) (hd : d < a.tmps.size)
    {Z : Array Value} {T : TypeId} {Good : Value → Array Value → Prop}
    (hAl : ∀ (A : Act) (w : World), (execOp A.eval om).run P w = .ok (.value (.pointer (some ⟨w.heap.size, 0, none⟩))) (w.alloc (.cells Z T)))
    (hSt : ∀ (A : Act) (w : World) (b : Nat) (cs : Array Value), A.eval (.tmp d) = .pointer (some ⟨b, 0, none⟩) → Good (A.eval (.tmp e)) cs → w.heap[b]? = some (.cells Z T (0, 0)) →
      ∃ w', (execOp A.eval os).run P w = .ok .skip w' ∧ w'.heap[b]? = some (.cells cs T (0, 0)) ∧ Below b w w')
    (hG : ∀ a', Qf a' → ∃ cs, Good (a'.eval (.tmp e)) cs)
    (hW : ∀ X, Below w.heap.size w X → wpQuiet P (idle (idle l m) s).toArray (fun w' => ∃ n, w' = lat X n) Qf (idle (idle l m) s) a)
    (hQ : ∀ a' w' b cs, Qf a' → Below w.heap.size w w' → w.heap.size ≤ b → Good (a'.eval (.tmp e)) cs → w'.heap[b]? = some (.cells cs T (0, 0)) → Q .normal (a'.put (some d) (.pointer (some ⟨b, 0, none⟩))) w') :
    (Code.region id l.toArray true).wp P Q a w := by
  have HB := floats_of hm hs hB
  simp only [Region.lexB, Bool.and_eq_true] at hL
  have hlen : (idle (idle l m) s).length = l.length := by rw [idle_len, idle_len]
  refine wp_region_any hmix ?_
  have hml : m < l.length := (List.getElem?_eq_some_iff.1 hm).1
  have hsl : s < l.length := (List.getElem?_eq_some_iff.1 hs).1
  refine float_any (wr := w) HB hAl hSt hG hQ _ _ a a _ (by simp) hd ⟨rfl, rfl, rfl, Nat.le_refl _, fun _ _ => rfl⟩ (fun X hX => ?_) (.none (by simp [hml]) (by simp [hsl]) rfl)
  have := wpAnyQ_lex (P := P) (C := fun w' => ∃ n, w' = lat X n) (md := .any) hL.1 (idle (idle l m) s) 0 (Array.replicate (idle (idle l m) s).toArray.size false) a (by simp) (by simpa using hL.2) (hW X hX)
  simpa [hlen] using this
end
end Go.Proofs.Ytgihklohhjhjbaa
