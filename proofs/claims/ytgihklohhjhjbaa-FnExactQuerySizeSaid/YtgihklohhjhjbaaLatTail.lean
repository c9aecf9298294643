
/- A region that draws its order: its first n operations are quiet (calls that make memory among them), the rest is a chain behind them: one walk. -/
import Derived.Test.YtgihklohhjhjbaaLat
import Derived.StillTail
namespace Go.Proofs.Ytgihklohhjhjbaa
open Go.RowKit

section
variable {P : Program} {md : Region.Mode} {l : List Oper} {n : Nat}

/-- an operation that hangs on earlier ones alone -/
def backB (md : Region.Mode) (l : List Oper) (n i : Nat) : Bool :=
  match l[i]? with
  | none => false
  | some o => (o.after.all fun e => !Region.binds md e || decide (e.on < i)) && (match o.guard with
    | none => true
    | some g => decide (g.1 < n))
/-- where the region may be cut -/
def cutB (md : Region.Mode) (l : List Oper) (n : Nat) : Bool :=
  (decide (n < l.length) && ((List.range n).all fun i => backB md l n i)) &&
  ((Region.noSelect (l.take n).toArray && Region.lexFrom md (l.take n).toArray n 0 (Array.replicate l.length false)) &&
  ((Region.sinkB md l.toArray n && Region.chainB md l.toArray n) && Region.seqB md l.toArray (l.length - n) n (Array.replicate n true ++ Array.replicate (l.length - n) false)))

theorem head_get {i : Nat} (hi : i < n) : (l.take n).toArray[i]? = l.toArray[i]? := by
  simp [List.getElem?_take, hi]
theorem head_of {i : Nat} {o : Oper} (h : (l.take n).toArray[i]? = some o) : i < n := by
  have h2 := (Array.getElem?_eq_some_iff.1 h).1
  simp at h2
  omega
theorem ready_up {i : Nat} {listed : Array Bool} (h : i ∈ Region.ready md (l.take n).toArray listed) : i < n ∧ i ∈ Region.ready md l.toArray listed := by
  obtain ⟨h1, o, ho, ha⟩ := mem_ready.1 h
  have hi := head_of ho
  exact ⟨hi, mem_ready.2 ⟨h1, o, (head_get hi).symm.trans ho, ha⟩⟩
theorem ready_down {i : Nat} {listed : Array Bool} (hi : i < n) (h : i ∈ Region.ready md l.toArray listed) : i ∈ Region.ready md (l.take n).toArray listed := by
  obtain ⟨h1, o, ho, ha⟩ := mem_ready.1 h
  exact mem_ready.2 ⟨h1, o, (head_get hi).trans ho, ha⟩
theorem yielded_head {i : Nat} (hi : i < n) (ts : Array Value) : yielded (l.take n).toArray ts i = yielded l.toArray ts i := by
  unfold yielded
  rw [head_get hi]
/-- if no operation of the head may come up, all have -/
theorem all_listed {listed : Array Bool} (hs : listed.size = l.length) (hn : n < l.length) (hb : ∀ i, i < n → backB md l n i = true) (h : Region.ready md (l.take n).toArray listed = []) :
    ∀ i, i < n → listed.getD i true = true := by
  intro i
  induction i using Nat.strongRecOn with
  | _ i ih =>
    intro hi
    cases hl : listed.getD i true
    · exfalso
      have h1 := hb i hi
      unfold backB at h1
      have hil : i < l.length := by omega
      rw [List.getElem?_eq_getElem hil] at h1
      rw [Bool.and_eq_true] at h1
      have hm : i ∈ Region.ready md (l.take n).toArray listed := by
        refine mem_ready.2 ⟨hl, l[i], ?_, fun e he hbd => ?_⟩
        · rw [head_get hi]; simp [hil]
        · have h2 := Array.all_eq_true_iff_forall_mem.1 h1.1 e he
          rw [hbd] at h2
          have h3 : e.on < i := by simpa using h2
          have h4 := ih e.on h3 (by omega)
          have h5 : e.on < listed.size := by rw [hs]; omega
          simpa [h5] using h4
      rw [h] at hm
      cases hm
    · rfl

theorem any_seq {Q' : Exit → Act → World → Prop} (x : Nat) : ∀ (t : List Oper) (k : Nat) (listed : Array Bool) (a : Act) (w : World), (∀ j, t[j]? = l.toArray[k + j]?) →
    Region.seqB md l.toArray t.length k listed = true → wpList P l.toArray Q' t a w → wpAny P md l.toArray Q' (t.length + x) listed a w
  | [], k, listed, a, w, _, hB, h => by
    have hr : Region.ready md l.toArray listed = [] := by simpa [Region.seqB] using hB
    cases x with
    | zero => exact ⟨hr, h⟩
    | succ x => exact ⟨fun _ => h, fun i hi => by rw [hr] at hi; cases hi⟩
  | o :: t, k, listed, a, w, hl, hB, h => by
    have h0 : l.toArray[k]? = some o := by simpa using (hl 0).symm
    simp only [List.length_cons, Region.seqB, Bool.and_eq_true, decide_eq_true_eq] at hB
    rw [show (o :: t).length + x = (t.length + x) + 1 by simp only [List.length_cons]; omega]
    refine ⟨fun h1 => (by rw [hB.1] at h1; cases h1), fun i hi => ?_⟩
    rw [hB.1] at hi
    obtain rfl : i = k := by simpa using hi
    have hw : wpOp P l.toArray Q' i (wpList P l.toArray Q' t) a w := by unfold wpOp; simp only [h0]; exact h
    exact wpOp_mono (fun a' w' h' => any_seq x t (i + 1) _ a' w' (fun j => by have := hl (j + 1); simpa [Nat.add_assoc, Nat.add_comm 1 j] using this) hB.2 h') hw

theorem cut_any {C : World → Prop} {Q' : Exit → Act → World → Prop} (hn : n < l.length) (hb : ∀ i, i < n → backB md l n i = true) (hs : Region.sinkB md l.toArray n = true) (hc : Region.chainB md l.toArray n = true)
    (hq : Region.seqB md l.toArray (l.length - n) n (Array.replicate n true ++ Array.replicate (l.length - n) false) = true) :
    ∀ (f : Nat) (listed : Array Bool) (a : Act) (w : World), HeadInv md l.toArray n listed → C w →
      wpAnyQ P md (l.take n).toArray C (fun a' => ∀ w', C w' → wpList P l.toArray Q' (l.drop n) a' w') f listed a → wpAny P md l.toArray Q' (f + (l.length - n)) listed a w := by
  have fin : ∀ (x : Nat) (listed : Array Bool) (a : Act) (w : World), HeadInv md l.toArray n listed → Region.ready md (l.take n).toArray listed = [] → wpList P l.toArray Q' (l.drop n) a w →
      wpAny P md l.toArray Q' (x + (l.length - n)) listed a w := by
    intro x listed a w inv hr h
    have hsz : listed.size = l.length := by rw [inv.size]; simp
    have hall := all_listed hsz hn hb hr
    have e : listed = Array.replicate n true ++ Array.replicate (l.length - n) false := by
      apply Array.ext
      · simp; omega
      · intro i h1 h2
        by_cases hi : i < n
        · have := hall i hi
          simp [h1] at this
          simp [Array.getElem_append, hi, this]
        · have := inv.tail i (by omega) (by simpa using (by omega : i < l.length))
          simp [h1] at this
          simp [Array.getElem_append, hi, this]
    have hd : (l.drop n).length = l.length - n := by simp
    have := any_seq (P := P) (md := md) (Q' := Q') x (l.drop n) n listed a w (fun j => by simp [List.getElem?_drop]) (by rw [hd, e]; exact hq) h
    rw [hd] at this
    rw [Nat.add_comm]
    exact this
  intro f
  induction f with
  | zero => intro listed a w inv hw h; exact fin 0 listed a w inv h.1 (h.2 w hw)
  | succ f ih =>
    intro listed a w inv hw h
    by_cases hr : Region.ready md (l.take n).toArray listed = []
    · exact fin (f + 1) listed a w inv hr (h.1 hr w hw)
    · obtain ⟨i, hi⟩ := List.exists_mem_of_ne_nil _ hr
      obtain ⟨hin, hi2⟩ := ready_up hi
      rw [show f + 1 + (l.length - n) = (f + (l.length - n)) + 1 by omega]
      refine ⟨fun h0 => (by rw [h0] at hi2; cases hi2), fun j hj => ?_⟩
      have hjn : j < n := by
        rcases Nat.lt_or_ge j n with h1 | h1
        · exact h1
        · exact absurd hj (tail_waits hs hc (by simpa using hn) inv _ i rfl hin (mem_ready.1 hi2).1 j h1)
      have hq2 := h.2 j (ready_down hjn hj)
      obtain ⟨_, o, ho, _⟩ := mem_ready.1 hj
      have hwt : Region.wanted o (yielded (l.take n).toArray a.tmps) = Region.wanted o (yielded l.toArray a.tmps) := by
        have h1 := hb j hjn
        have ho' : l[j]? = some o := by simpa using ho
        unfold backB at h1
        rw [ho', Bool.and_eq_true] at h1
        unfold Region.wanted
        cases hg : o.guard with
        | none => rfl
        | some g =>
          have h2 := h1.2
          rw [hg] at h2
          have h3 : g.1 < n := by simpa using h2
          simp only [yielded_head h3]
      unfold qOp at hq2
      rw [head_get hjn, ho] at hq2
      simp only [hwt] at hq2
      unfold wpOp
      rw [ho]
      simp only []
      split
      · rename_i hwd
        rw [if_pos hwd] at hq2
        exact .inl (Oper.wp_of_quiet hw (fun a' w' hw' hK => ih _ a' w' (inv.set hj hjn) hw' hK) hq2)
      · rename_i hwd
        rw [if_neg hwd] at hq2
        exact ih _ _ w (inv.set hj hjn) hw hq2

theorem region_lat_tail {id : Nat} {Q : Exit → Act → World → Prop} {a : Act} {w : World} (n : Nat) (hm : P.follows .mixedOrders = true) (hB : cutB .any l n = true)
    (h : wpQuiet P (l.take n).toArray (fun w' => ∃ m, w' = lat w m) (fun a' => ∀ w', (∃ m, w' = lat w m) → wpList P l.toArray Q (l.drop n) a' w') (l.take n) a) : (Code.region id l.toArray true).wp P Q a w := by
  simp only [cutB, Bool.and_eq_true, decide_eq_true_eq] at hB
  obtain ⟨⟨hn, hb⟩, ⟨hsel, hlex⟩, ⟨hs, hc⟩, hq⟩ := hB
  have hb' : ∀ i, i < n → backB .any l n i = true := fun i hi => List.all_eq_true.1 hb i (List.mem_range.2 hi)
  have htl : (l.take n).length = n := by simp; omega
  have inv0 : HeadInv .any l.toArray n (Array.replicate l.toArray.size false) :=
    ⟨by simp, fun j oj _ hl => (by rw [getD_replicate_false] at hl; cases hl), fun t _ ht => getD_in (by simpa using ht) (getD_replicate_false _ _)⟩
  have hw0 : ∃ m, ({ w with drawn := w.drawn + 1 } : World) = lat w m :=
    ⟨{ w with drawn := w.drawn + 1 }, (lat_of (wr := w) (w := { w with drawn := w.drawn + 1 }) ⟨rfl, rfl, rfl, Nat.le_refl _, fun _ _ => rfl⟩).symm⟩
  have H := wpAnyQ_lex (C := fun w' => ∃ m, w' = lat w m) (md := .any) (ops := (l.take n).toArray) hsel (l.take n) 0 (Array.replicate l.length false) a (by simp) (by rw [htl]; exact hlex) h
  rw [htl] at H
  refine wp_region_any hm ?_
  have := cut_any (P := P) (md := .any) (C := fun w' => ∃ m, w' = lat w m) (Q' := Q) hn hb' hs hc hq n (Array.replicate l.length false) a _ (by simpa using inv0) hw0 H
  rw [show n + (l.length - n) = l.toArray.size by simp; omega] at this
  simpa using this
end
end Go.Proofs.Ytgihklohhjhjbaa
