/- Joined texts: RangeV Stk Tau TauW LatTail Det. -/
import Derived.Test.YtkacelpndeoogaaQPE
import Derived.Test.YtkacelpndeoogaaQHFoldS
import Derived.Test.YtkacelpndeoogaaQPB
import Derived.Test.YtkacelpndeoogaaQPA
import Derived.Test.YtkacelpndeoogaaQPD
import Derived.RangeFuncIn
import Derived.RangeFuncRecord
import Derived.RangeFuncSeq
import Derived.RangeFuncCalls
import Derived.RangeFuncLeaves
import Derived.RangeFuncKeeps
import Derived.Below
import Derived.WalkSmall
import Derived.OwnWalkIn
import Derived.Laws.AppendOwn
import Derived.StillTail
import Derived.WalkKit
import Derived.BigQuiet
/- A range over a function whose rounds come one by one off a list that is known: the iterator may write blocks of its own; the body may write the blocks of E. -/
namespace Go.Proofs.Ytkacelpndeoogaa
open Go.RowKit

/-- whatever lies outside E lies as it lay -/
structure But (E : Nat → Prop) (W W' : World) : Prop where
  os : W'.os = W.os
  tape : W'.tape = W.tape
  output : W'.output = W.output
  size : W.heap.size ≤ W'.heap.size
  block : ∀ k, k < W.heap.size → ¬ E k → W'.heap[k]? = W.heap[k]?
theorem But.refl (E : Nat → Prop) (W : World) : But E W W := ⟨rfl, rfl, rfl, Nat.le_refl _, fun _ _ _ => rfl⟩
theorem But.trans {E : Nat → Prop} {a b c : World} (h : But E a b) (k : But E b c) : But E a c :=
  ⟨k.os.trans h.os, k.tape.trans h.tape, k.output.trans h.output, Nat.le_trans h.size k.size, fun i hi hn => (k.block i (Nat.lt_of_lt_of_le hi h.size) hn).trans (h.block i hi hn)⟩
theorem But.wide {E E' : Nat → Prop} {a b : World} (h : But E a b) (hE : ∀ k, E k → E' k) : But E' a b := ⟨h.os, h.tape, h.output, h.size, fun k hk hn => h.block k hk fun he => hn (hE k he)⟩
theorem But.below {E : Nat → Prop} {a b : World} (h : Below a.heap.size a b) : But E a b := ⟨h.os, h.tape, h.output, h.size, fun k hk _ => h.block k hk⟩
theorem But.of_below {E : Nat → Prop} {B : Nat} {a b : World} (h : Below B a b) (hE : ∀ k, B ≤ k → k < a.heap.size → E k) : But E a b :=
  ⟨h.os, h.tape, h.output, h.size, fun k hk hn => h.block k (Nat.lt_of_not_le fun hle => hn (hE k hle hk))⟩
theorem But.setCell {E : Nat → Prop} (W : World) (p : Addr) (u : Value) (hE : E p.block) : But E W (W.setCell p u) :=
  ⟨rfl, rfl, rfl, by simp [World.setCell], fun k _ hn => Below.heap_setCell _ _ _ _ (fun e => hn (e ▸ hE))⟩
theorem But.alloc {E : Nat → Prop} (W : World) (o : Obj) : But E W (W.alloc o) := .below ((Below.refl _ W).alloc (Nat.le_refl _) o)
theorem But.drew {E : Nat → Prop} (W : World) : But E W W.drew := ⟨rfl, rfl, rfl, Nat.le_refl _, fun _ _ _ => rfl⟩
theorem But.put {E : Nat → Prop} (W : World) (l : Nat) (o : Obj) (hE : E l) : But E W (W.putObj l o) :=
  ⟨rfl, rfl, rfl, by simp [World.putObj], fun k _ hn => World.putObj_heap_other (fun e => hn (e ▸ hE))⟩
theorem But.low {E : Nat → Prop} {a b : World} (h : But E a b) {B : Nat} (hB : B ≤ a.heap.size) (hE : ∀ k, k < B → ¬ E k) : Below B a b :=
  ⟨h.os, h.tape, h.output, h.size, fun k hk => h.block k (Nat.lt_of_lt_of_le hk hB) (hE k hk)⟩
theorem below_put {B : Nat} (W : World) (l : Nat) (o : Obj) (hB : B ≤ l) : Below B W (W.putObj l o) :=
  ⟨rfl, rfl, rfl, by simp [World.putObj], fun k hk => World.putObj_heap_other (by omega)⟩

/-- THE ITERATOR's CONTRACT: its rounds are those of xs, in order, each as a value that ok takes; a round keeps all but E and what lay between w and the call. -/
def SeqV {α : Type} (F : Fence) (n : Nat) (P : Program) (g : Nat) (lb : Array Value) (xs : List α) (ok : α → Array Value → Prop) (go : α → Prop) (E : Nat → Prop) (w : World) : Prop :=
  ∀ (l : Nat) (J Jx : Nat → World → Prop) (Ew : Nat → Prop) (W : World), Below w.heap.size w W → (∀ k, Ew k → E k ∨ (w.heap.size ≤ k ∧ k < W.heap.size)) →
    (∀ i A B, J i A → Below W.heap.size A B → J i B) → (∀ i A B, Jx i A → Below W.heap.size A B → Jx i B) →
    (∀ i x v W1, xs[i]? = some x → ok x v → J i W1 → YieldAt F (n - 1) P l v W1 fun e W' =>
      (e = .returned (.bool true) ∧ go x ∧ J (i + 1) W' ∧ But Ew W1 W') ∨ (e = .returned (.bool false) ∧ Jx (i + 1) W')) →
    J 0 W →
    CallsIn F n P g (#[.func (.yield l) #[] #[]] ++ lb) W fun e W' => (∃ v, e = .returned v) ∧ (J xs.length W' ∨ ∃ i, i ≤ xs.length ∧ Jx i W')

/-- how the body of a round may be left -/
def postV (E : Nat → Prop) (gx : Prop) (I : Nat → World → Prop) (Ix : Code → Nat → World → Prop) (i : Nat) (W : World) : Exit → Act → World → Prop
  | .normal, _, W' => But E W W' ∧ gx ∧ I i W'
  | .ret, _, W' => But E W W' ∧ Ix .ret i W'
  | .exit id, _, W' => But E W W' ∧ Ix (.exit id) i W'
  | .goto t, _, W' => But E W W' ∧ Ix (.goto t) i W'
  | .panic _, _, _ => False
  | .outgrown, _, _ => False

theorem wpIn_rangeV {F : Fence} {n : Nat} {P : Program} {α : Type} {g : Operand} {ps : Array Tmp} {assign body : Code} {Q : Exit → Act → World → Prop} {a : Act} {w : World}
    (hro : F.round = none) (h1 : 1 ≤ n) {gf : Nat} {lb : Array Value} (hg : a.eval g = .func (.func gf) #[] lb) (hFg : F.fn gf) (eg : ∀ args w, (callFunc gf args).run P w = .ok (.enter gf args) w)
    {xs : List α} {ok : α → Array Value → Prop} {go : α → Prop} {E : Nat → Prop} (hseq : SeqV F (n - 1) P gf lb xs ok go E w) (hE : ∀ k, E k → k < w.heap.size) (hps : ∀ x v, ok x v → v.size = ps.size)
    (I : Nat → World → Prop) (Ix : Code → Nat → World → Prop) (hI : ∀ i A B, I i A → Below w.heap.size A B → I i B) (hIx : ∀ c i A B, Ix c i A → Below w.heap.size A B → Ix c i B) (h0 : I 0 w)
    (Ax : α → Act → World → Prop) (hAx : ∀ x a₁ (A B : World), Ax x a₁ A → (∀ k, w.heap.size + 1 < k → B.heap[k]? = A.heap[k]?) → Ax x a₁ B)
    (hassign : ∀ (l : Nat) (x : α) (v : Array Value) (W : World) (K : Act → World → Prop), ok x v → w.heap.size + 1 < W.heap.size → (∀ a₁ W', Ax x a₁ W' → Below W.heap.size W W' → K a₁ W') →
      assign.wpIn (F.inRound l) (n - 1 - 1) P (Exit.then K (fun _ _ _ => False)) { tmps := (ps.zip v).foldl (fun t (p, v) => t.setIfInBounds p v) a.tmps, defers := [] } W)
    (hbody : ∀ (l : Nat) (i : Nat) (x : α) (a₁ : Act) (W : World), xs[i]? = some x → I i W → w.heap.size < W.heap.size → Ax x a₁ W → body.wpIn (F.inRound l) (n - 1 - 1) P (postV E (go x) I Ix (i + 1) W) a₁ W)
    (hdone : ∀ (D : Nat) (W : World), w.heap.size ≤ D → I xs.length W → W.heap[D]? = some (.deferred (some [])) → Q .normal { a with defers := { target := .collected D, args := #[] } :: a.defers } W)
    (hstop : ∀ (D : Nat) (c : Code) (i : Nat) (W : World), w.heap.size ≤ D → i ≤ xs.length → Ix c i W → W.heap[D]? = some (.deferred (some [])) → c.wpIn F n P Q { a with defers := { target := .collected D, args := #[] } :: a.defers } W) :
    (Code.rangeFunc g ps assign body).wpIn F n P Q a w := by
  refine wpIn_rangeFunc ?_
  intro fn hfn
  rw [hro]
  obtain ⟨rec, hrec⟩ : ∃ rec : LoopState → Option Code → Loop, rec = fun st pe => { state := st, pending := pe, fn, tmps := a.tmps, params := ps, assign, body, defers := w.heap.size } := ⟨_, rfl⟩
  obtain ⟨W1, hW1⟩ : ∃ W1, (w.alloc (.deferred (some []))).alloc (.loop (rec .ready none)) = W1 := ⟨_, rfl⟩
  have hL1 : W1.heap[w.heap.size + 1]? = some (.loop (rec .ready none)) := by
    rw [← hW1]; have := World.alloc_heap_new (w.alloc (.deferred (some []))) (.loop (rec .ready none)); rwa [World.size_alloc] at this
  have hK1 : W1.heap[w.heap.size]? = some (.deferred (some [])) := by
    rw [← hW1]; exact (Below.heap_alloc _ _ _ (by simp)).trans (World.alloc_heap_new w _)
  have hb1 : Below w.heap.size w W1 := by
    rw [← hW1]; exact ((Below.refl _ w).alloc (Nat.le_refl _) _).alloc (by simp) _
  have hI1 : I 0 W1 := hI _ _ _ h0 hb1
  have hs1 : W1.heap.size = w.heap.size + 2 := by rw [← hW1]; simp
  refine ⟨w.heap.size + 1, [{ target := .collected w.heap.size, args := #[] }], W1, { target := .fn (.func gf) lb, args := #[.func (.yield (w.heap.size + 1)) #[] #[]] }, W1, gf,
    #[.func (.yield (w.heap.size + 1)) #[] #[]] ++ lb, W1, ?_, ?_, ?_, ?_, fun _ => h1, ?_⟩
  · rw [← hW1, hrec]; exact run_enterLoop_outer _ _ _ _ _
  · simp only [resolve, hg]
    simp [go_sem]
  · intro f' hf'; simp [Target.leads] at hf'; subst hf'; exact hFg
  · simp [invoke, go_sem, eg]
  · refine (hseq (w.heap.size + 1)
      (fun i W => I i W ∧ W.heap[w.heap.size + 1]? = some (.loop (rec .ready none)) ∧ W.heap[w.heap.size]? = some (.deferred (some [])))
      (fun i W => ∃ c, i ≤ xs.length ∧ Ix c i W ∧ W.heap[w.heap.size + 1]? = some (.loop (rec .done (some c))) ∧ W.heap[w.heap.size]? = some (.deferred (some [])))
      (fun k => E k ∨ k = w.heap.size + 1) W1 hb1 (fun k hk => hk.imp id fun e => ⟨by omega, by omega⟩)
      (fun i A B hs hg' => ⟨hI i A B hs.1 (hg'.mono (by omega)), (hg'.block _ (by omega)).trans hs.2.1, (hg'.block _ (by omega)).trans hs.2.2⟩)
      (fun i A B hs hg' => by
        obtain ⟨c, hle, hc, hl, hk⟩ := hs
        exact ⟨c, hle, hIx c i A B hc (hg'.mono (by omega)), (hg'.block _ (by omega)).trans hl, (hg'.block _ (by omega)).trans hk⟩)
      ?_ ⟨hI1, hL1, hK1⟩).mono ?_
    · -- one round
      rintro i x v W hx hok ⟨hi, hl, hk⟩
      have hlt : w.heap.size + 1 < W.heap.size := (Array.getElem?_eq_some_iff.1 hl).1
      have hy := run_yield (P := P) (args := v) hl (by rw [hrec]; exact hps x v hok)
      rw [hrec] at hy
      have hilen : i + 1 ≤ xs.length := (List.getElem?_eq_some_iff.1 hx).1
      refine ⟨fn, _, assign, body, hy, roundIn_of_wpIn hfn (hassign _ x v W _ hok hlt fun a₁ W' ha₁ hbW => ⟨_, run_beginRound ((hbW.block _ hlt).trans hl) (by rw [hrec]), ?_⟩)⟩
      have hl' := (hbW.block _ hlt).trans hl
      have hk' := (hbW.block w.heap.size (by omega)).trans hk
      have hlt' : w.heap.size + 1 < W'.heap.size := Nat.lt_of_lt_of_le hlt hbW.size
      have bW : But (fun k => E k ∨ k = w.heap.size + 1) W W' := But.below hbW
      replace hi : I i W' := hI i _ _ hi (hbW.mono (by omega))
      have hl2 : (W'.putObj (w.heap.size + 1) (.loop { rec .ready none with state := .busy })).heap[w.heap.size + 1]? = some (.loop { rec .ready none with state := .busy }) := World.putObj_heap_same hlt'
      have hk2 : (W'.putObj (w.heap.size + 1) (.loop { rec .ready none with state := .busy })).heap[w.heap.size]? = some (.deferred (some [])) := (World.putObj_heap_other (by omega)).trans hk'
      refine wpIn_mono (hbody _ i x a₁ _ hx (hI i _ _ hi (below_put W' _ _ (by omega))) (by simp [World.putObj]; omega) (hAx _ _ _ _ ha₁ fun k hk => World.putObj_heap_other (by omega))) ?_
      have fin : ∀ (jump : Option Code) (W3 : World), But E (W'.putObj (w.heap.size + 1) (.loop { rec .ready none with state := .busy })) W3 →
          (Instr.endRound (w.heap.size + 1) jump).run P W3 = .ok (.bool jump.isNone) (W3.putObj (w.heap.size + 1) (.loop (rec (if jump.isNone then .ready else .done) jump))) ∧
          (W3.putObj (w.heap.size + 1) (.loop (rec (if jump.isNone then .ready else .done) jump))).heap[w.heap.size + 1]? = some (.loop (rec (if jump.isNone then .ready else .done) jump)) ∧
          (W3.putObj (w.heap.size + 1) (.loop (rec (if jump.isNone then .ready else .done) jump))).heap[w.heap.size]? = some (.deferred (some [])) := fun jump W3 hk3 => by
        have hl3 := (hk3.block (w.heap.size + 1) (by simpa [World.putObj] using hlt') (fun he => by have := hE _ he; omega)).trans hl2
        have hd3 := (hk3.block w.heap.size (by simp [World.putObj]; omega) (fun he => by have := hE _ he; omega)).trans hk2
        have := run_endRound (P := P) jump hl3
        rw [hrec] at this ⊢
        exact ⟨this, World.putObj_heap_same (Array.getElem?_eq_some_iff.1 hl3).1, (World.putObj_heap_other (by omega)).trans hd3⟩
      have bw : But (fun k => E k ∨ k = w.heap.size + 1) W (W'.putObj (w.heap.size + 1) (.loop { rec .ready none with state := .busy })) := bW.trans (But.put _ _ _ (.inr rfl))
      rintro e a3 W3 hp
      cases e with
      | normal =>
        obtain ⟨hk3, hgx, hi3⟩ := hp
        obtain ⟨hr, hl4, hk4⟩ := fin none W3 hk3
        exact ⟨_, _, hr, .inl ⟨rfl, hgx, ⟨hI _ _ _ hi3 (below_put W3 _ _ (by omega)), hl4, hk4⟩, (bw.trans (hk3.wide fun k hk => .inl hk)).trans (But.put _ _ _ (.inr rfl))⟩⟩
      | ret =>
        obtain ⟨hk3, hi3⟩ := hp
        obtain ⟨hr, hl4, hk4⟩ := fin (some .ret) W3 hk3
        exact ⟨_, _, hr, .inr ⟨rfl, .ret, hilen, hIx _ _ _ _ hi3 (below_put W3 _ _ (by omega)), hl4, hk4⟩⟩
      | exit id =>
        obtain ⟨hk3, hi3⟩ := hp
        obtain ⟨hr, hl4, hk4⟩ := fin (some (.exit id)) W3 hk3
        exact ⟨_, _, hr, .inr ⟨rfl, .exit id, hilen, hIx _ _ _ _ hi3 (below_put W3 _ _ (by omega)), hl4, hk4⟩⟩
      | goto t =>
        obtain ⟨hk3, hi3⟩ := hp
        obtain ⟨hr, hl4, hk4⟩ := fin (some (.goto t)) W3 hk3
        exact ⟨_, _, hr, .inr ⟨rfl, .goto t, hilen, hIx _ _ _ _ hi3 (below_put W3 _ _ (by omega)), hl4, hk4⟩⟩
      | panic ch => exact hp.elim
      | outgrown => exact hp.elim
    · -- behind the iterator
      rintro e W2 ⟨⟨v, rfl⟩, (⟨hi, hl, hk⟩ | ⟨i, hile, c, hile', hi, hl, hk⟩)⟩
      · exact ⟨none, _, by have := run_endLoop (P := P) hl (by rw [hrec]; simp); rw [hrec] at this; exact this, hdone _ _ (Nat.le_refl _) (hI _ _ _ hi (below_put W2 _ _ (by omega))) ((World.putObj_heap_other (by omega)).trans hk)⟩
      · exact ⟨some c, _, by have := run_endLoop (P := P) hl (by rw [hrec]; simp); rw [hrec] at this; exact this, hstop _ c i _ (Nat.le_refl _) hile (hIx _ _ _ _ hi (below_put W2 _ _ (by omega))) ((World.putObj_heap_other (by omega)).trans hk)⟩
end Go.Proofs.Ytkacelpndeoogaa

/- Lists of elements of several cells, as values; a stack of such lists, each with its depth. -/
namespace Go.Proofs.Ytkacelpndeoogaa
open Go.RowKit

/-- the cells C are those of the elements L, as w0 had them -/
def OutK (tys : List Ty) (w0 : World) (C : List Value) (L : List Nd) : Prop :=
  C.length = L.length * tys.length ∧ ∀ i c, L[i]? = some c → ∀ j (h : j < tys.length), ∃ y, C[i * tys.length + j]? = some y ∧ Rd w0 0 y (c j) ∧ Fits (c j) tys[j]
theorem outK_exprs {w0 : World} {C : List Value} {L : List Nd} : OutP w0 C L ↔ OutK exprTy w0 C L := Iff.rfl
theorem OutK.nil (tys : List Ty) (w0 : World) : OutK tys w0 [] [] := ⟨by simp, fun i c h => by simp at h⟩
theorem mul_lt_of {i n k j : Nat} (hi : i < n) (hj : j < k) : i * k + j < n * k := by
  have : (i + 1) * k ≤ n * k := Nat.mul_le_mul_right k hi
  rw [Nat.add_mul, Nat.one_mul] at this
  omega
theorem OutK.append {tys : List Ty} {w0 : World} {C C' : List Value} {L L' : List Nd} (h : OutK tys w0 C L) (h' : OutK tys w0 C' L') : OutK tys w0 (C ++ C') (L ++ L') := by
  refine ⟨by rw [List.length_append, List.length_append, h.1, h'.1, Nat.add_mul], fun i c hc j hj => ?_⟩
  by_cases e : i < L.length
  · rw [List.getElem?_append_left e] at hc
    obtain ⟨y, hy, hr⟩ := h.2 i c hc j hj
    exact ⟨y, by rw [List.getElem?_append_left (by rw [h.1]; exact mul_lt_of e hj)]; exact hy, hr⟩
  · rw [List.getElem?_append_right (by omega)] at hc
    obtain ⟨y, hy, hr⟩ := h'.2 _ c hc j hj
    have h1 : L.length * tys.length ≤ i * tys.length := Nat.mul_le_mul_right _ (by omega)
    refine ⟨y, ?_, hr⟩
    rw [List.getElem?_append_right (by rw [h.1]; omega), h.1, show i * tys.length + j - L.length * tys.length = (i - L.length) * tys.length + j by rw [Nat.mul_sub_right_distrib]; omega]
    exact hy
theorem OutK.one {tys : List Ty} {w0 : World} {C : List Value} {c : Nd} (hl : C.length = tys.length) (h : ∀ j (h : j < tys.length), ∃ y, C[j]? = some y ∧ Rd w0 0 y (c j) ∧ Fits (c j) tys[j]) : OutK tys w0 C [c] := by
  refine ⟨by rw [hl]; simp, fun i c' hc j hj => ?_⟩
  obtain rfl : i = 0 := by
    have := (List.getElem?_eq_some_iff.1 hc).1
    simp at this; exact this
  obtain rfl : c = c' := by simpa using hc
  obtain ⟨y, hy, hr⟩ := h j hj
  exact ⟨y, by rw [Nat.zero_mul, Nat.zero_add]; exact hy, hr⟩
theorem OutK.cons {tys : List Ty} {w0 : World} {C : List Value} {c : Nd} {L : List Nd} (h : OutK tys w0 C (c :: L)) : OutK tys w0 (C.take tys.length) [c] ∧ OutK tys w0 (C.drop tys.length) L := by
  have hl : C.length = L.length * tys.length + tys.length := by rw [h.1, List.length_cons, Nat.add_mul, Nat.one_mul]
  refine ⟨OutK.one (by rw [List.length_take]; omega) fun j hj => ?_, by rw [List.length_drop]; omega, fun i c' hc j hj => ?_⟩
  · obtain ⟨y, hy, hr⟩ := h.2 0 c rfl j hj
    rw [Nat.zero_mul, Nat.zero_add] at hy
    exact ⟨y, by rw [List.getElem?_take_of_lt hj]; exact hy, hr⟩
  · obtain ⟨y, hy, hr⟩ := h.2 (i + 1) c' (by simpa using hc) j hj
    refine ⟨y, ?_, hr⟩
    rw [List.getElem?_drop, show tys.length + (i * tys.length + j) = (i + 1) * tys.length + j by rw [Nat.add_mul, Nat.one_mul]; omega]
    exact hy
theorem OutK.cellOf {tys : List Ty} {w0 : World} {C : List Value} {c : Nd} (h : OutK tys w0 C [c]) (j : Nat) (hj : j < tys.length) : ∃ y, C[j]? = some y ∧ Rd w0 0 y (c j) ∧ Fits (c j) tys[j] := by
  obtain ⟨y, hy, hr⟩ := h.2 0 c rfl j hj
  exact ⟨y, by rw [Nat.zero_mul, Nat.zero_add] at hy; exact hy, hr⟩
theorem OutK.ones {tys : List Ty} {w0 : World} {C : List Value} {L : List Nd} (h : OutK tys w0 C L) : ∀ u ∈ C, u.oneCell' = true := fun u hu => by
  obtain ⟨x, hx⟩ := List.getElem?_of_mem hu
  have hlt : x < C.length := (List.getElem?_eq_some_iff.1 hx).1
  have hl := h.1
  by_cases h0 : tys.length = 0
  · rw [h0, Nat.mul_zero] at hl; omega
  · have hi : x / tys.length < L.length := by rw [Nat.div_lt_iff_lt_mul (by omega)]; omega
    obtain ⟨y, hy, hr, hf⟩ := h.2 (x / tys.length) L[x / tys.length] (List.getElem?_eq_getElem hi) (x % tys.length) (Nat.mod_lt _ (by omega))
    rw [show x / tys.length * tys.length + x % tys.length = x from by rw [Nat.mul_comm]; exact Nat.div_add_mod _ _, hx] at hy
    obtain rfl : u = y := by simpa using hy
    exact hr.oneCell hf

/-- v is the list L in w, through a block that G lets in -/
def LK (tys : List Ty) (w0 w : World) (G : Nat → Prop) (v : Value) (L : List Nd) : Prop :=
  ∃ a cap C, v = .slice a L.length cap ∧ OutK tys w0 C L ∧ (L = [] ∨ ∃ g o, a = some ⟨g, o, none⟩ ∧ L.length ≤ cap ∧ G g ∧ g < w.heap.size ∧ ∀ j u, C[j]? = some u → w.cell? ⟨g, o + j, none⟩ = some u)
theorem LK.slice {tys : List Ty} {w0 w : World} {G : Nat → Prop} {v : Value} {L : List Nd} (h : LK tys w0 w G v L) : ∃ a cap, v = .slice a L.length cap := by
  obtain ⟨a, cap, _, e, _⟩ := h
  exact ⟨a, cap, e⟩
theorem LK.keep {tys : List Ty} {w0 w w' : World} {G G' : Nat → Prop} {v : Value} {L : List Nd} (h : LK tys w0 w G v L) (hs : w.heap.size ≤ w'.heap.size) (hk : ∀ g, G g → g < w.heap.size → w'.heap[g]? = w.heap[g]?)
    (hG : ∀ g, G g → g < w.heap.size → G' g) : LK tys w0 w' G' v L := by
  obtain ⟨a, cap, C, e, hC, h⟩ := h
  refine ⟨a, cap, C, e, hC, h.imp id ?_⟩
  rintro ⟨g, o, ea, hle, hg, hlt, hc⟩
  exact ⟨g, o, ea, hle, hG g hg hlt, Nat.lt_of_lt_of_le hlt hs, fun j u hj => (World.cell?_of_block (w := w) (a := ⟨g, o + j, none⟩) (hk g hg hlt)).trans (hc j u hj)⟩
theorem LK.later {tys : List Ty} {w0 w w' : World} {G : Nat → Prop} {v : Value} {L : List Nd} (h : LK tys w0 w G v L) (hb : Below w.heap.size w w') : LK tys w0 w' G v L :=
  h.keep hb.size (fun g _ hlt => hb.block g hlt) fun _ h _ => h
/-- the first element, and the rest -/
theorem LK.head {tys : List Ty} {w0 w : World} {G : Nat → Prop} {v : Value} {c : Nd} {L : List Nd} (h : LK tys w0 w G v (c :: L)) :
    ∃ g o cap ys, v = .slice (some ⟨g, o, none⟩) (L.length + 1) cap ∧ L.length + 1 ≤ cap ∧ OutK tys w0 ys [c] ∧ G g ∧ g < w.heap.size ∧ (∀ j u, ys[j]? = some u → w.cell? ⟨g, o + j, none⟩ = some u) ∧
      ∀ a cap', (L = [] ∨ a = some ⟨g, o + tys.length, none⟩ ∧ L.length ≤ cap') → LK tys w0 w G (.slice a L.length cap') L := by
  obtain ⟨a, cap, C, e, hC, h⟩ := h
  rcases h with h | ⟨g, o, rfl, hle, hg, hlt, hc⟩
  · cases h
  obtain ⟨h1, h2⟩ := hC.cons
  refine ⟨g, o, cap, _, e, hle, h1, hg, hlt, fun j u hj => ?_, fun a cap' ha => ⟨a, cap', _, rfl, h2, ?_⟩⟩
  · have hjl : j < tys.length := by
      have := (List.getElem?_eq_some_iff.1 hj).1
      rw [List.length_take] at this; omega
    rw [List.getElem?_take_of_lt hjl] at hj
    exact hc j u hj
  · refine ha.imp id ?_
    rintro ⟨rfl, hle'⟩
    refine ⟨g, _, rfl, hle', hg, hlt, fun j u hj => ?_⟩
    rw [List.getElem?_drop] at hj
    rw [Nat.add_assoc]
    exact hc _ u hj
/-- an argument's list -/
theorem Rd.lk {w : World} {n k : Nat} {f : Nat → Nat → Dat} {a : Option Addr} {m cap : Nat} {G : Nat → Prop} (h : Rd w 0 (.slice a m cap) (.sl n k f)) (hf : Fits (.sl n k f) .exprs) (hG : ∀ g, g < w.heap.size → G g) :
    LK exprTy w w G (.slice a m cap) (Dat.sl n k f).els := by
  obtain ⟨rfl, _, C, hC, hcell, hnone⟩ := h.outP hf
  have hlen : (Dat.sl m k f).els.length = m := by simp [Dat.els, Dat.len]
  obtain ⟨a', cap', e, hc, hz, h⟩ := h
  injection e with e1 e2 e3
  subst e1; subst e3
  refine ⟨a, cap, C, by rw [hlen], hC, ?_⟩
  rcases h with rfl | ⟨g, o, rfl, _, hg, _⟩
  · exact .inl rfl
  · refine .inr ⟨g, o, rfl, by rw [hlen]; exact hc, hG g hg, hg, fun j u hj => ?_⟩
    have := hcell _ rfl j u hj
    have hadd : (⟨g, o, none⟩ : Addr).add j = ⟨g, o + j, none⟩ := by unfold Addr.add; split <;> simp_all
    rw [hadd] at this
    exact this
/-- a list of the call's own -/
theorem OutE.lk {w0 wr : World} {B : Nat} {v : Value} {L : List Nd} {G : Nat → Prop} (h : OutE w0 wr B v L) (hG : ∀ g, B ≤ g → g < wr.heap.size → G g) : LK exprTy w0 wr G v L := by
  obtain ⟨C, hC, hP⟩ := h
  rcases hC.2 with ⟨e, h0⟩ | ⟨g, cap, cur, e, hg, hrow, hnc, hcm, hsz, hcur⟩
  · exact ⟨none, 0, C, by rw [e, h0], hP, .inl (List.eq_nil_of_length_eq_zero h0)⟩
  · refine ⟨_, cap, C, e, hP, .inr ⟨g, 0, rfl, hnc, hG g hg (Array.getElem?_eq_some_iff.1 hrow).1, (Array.getElem?_eq_some_iff.1 hrow).1, fun j u hj => ?_⟩⟩
    subst e
    have hj' : j < L.length * 10 := by have := (List.getElem?_eq_some_iff.1 hj).1; rw [hP.1] at this; exact this
    have := World.ownsRow.cellAt (w := wr) (base := B) (e := 29) (size := 10) (g := g) (n := L.length) (cap := cap) (xs := C) hC j hj'
    rw [Nat.zero_add, this]; exact hj

/-- an entry of the stack -/
structure Ent where
  d : Nat
  v : Value
  L : List Nd
def entCells : List Ent → List Value
  | [] => []
  | e :: r => entCells r ++ [.int .i64 (e.d : Int), e.v]
theorem entCells_len : ∀ S : List Ent, (entCells S).length = S.length * 2
  | [] => rfl
  | e :: r => by unfold entCells; rw [List.length_append, entCells_len r, List.length_cons]; simp; omega
/-- what a stack has still to come -/
def left (pre : Nat → Nd → List (Nat × Nd)) (S : List Ent) : List (Nat × Nd) := S.flatMap fun e => e.L.flatMap (pre e.d)
/-- the last entry, its two cells -/
theorem ent_cells {w : World} {B T g cap : Nat} {e : Ent} {r : List Ent} (h : w.ownsRow B T 2 (.slice (some ⟨g, 0, none⟩) (r.length + 1) cap) (r.length + 1) (entCells (e :: r))) :
    w.cell? ⟨g, r.length * 2, none⟩ = some (.int .i64 (e.d : Int)) ∧ w.cell? ⟨g, r.length * 2 + 1, none⟩ = some e.v ∧ w.frozen? ⟨g, r.length * 2 + 1, none⟩ = false := by
  have hl := entCells_len r
  refine ⟨?_, ?_, h.frozenAt _⟩
  · rw [h.cellAt _ (by omega)]
    show (entCells r ++ _)[r.length * 2]? = _
    rw [List.getElem?_append_right (by omega), hl, Nat.sub_self]; rfl
  · rw [h.cellAt _ (by omega)]
    show (entCells r ++ _)[r.length * 2 + 1]? = _
    rw [List.getElem?_append_right (by omega), hl, show r.length * 2 + 1 - r.length * 2 = 1 by omega]; rfl
theorem ent_pop {w : World} {B T g cap : Nat} {e : Ent} {r : List Ent} (h : w.ownsRow B T 2 (.slice (some ⟨g, 0, none⟩) (r.length + 1) cap) (r.length + 1) (entCells (e :: r))) :
    w.ownsRow B T 2 (.slice (some ⟨g, 0, none⟩) r.length cap) r.length (entCells r) := ownsRow_pop (entCells_len r) h
theorem ent_set {w : World} {B T g cap : Nat} {e : Ent} {r : List Ent} (h : w.ownsRow B T 2 (.slice (some ⟨g, 0, none⟩) (r.length + 1) cap) (r.length + 1) (entCells (e :: r))) (v' : Value) (L' : List Nd) :
    (w.setCell ⟨g, r.length * 2 + 1, none⟩ v').ownsRow B T 2 (.slice (some ⟨g, 0, none⟩) (r.length + 1) cap) (r.length + 1) (entCells (⟨e.d, v', L'⟩ :: r)) := by
  have h1 := (h.stored (r.length * 2 + 1) v').1
  have hl := entCells_len r
  have e1 : (entCells (e :: r)).set (r.length * 2 + 1) v' = entCells (⟨e.d, v', L'⟩ :: r) := by
    show (entCells r ++ [_, _]).set _ _ = entCells r ++ _
    rw [List.set_append_right _ _ (by omega), hl, show r.length * 2 + 1 - r.length * 2 = 1 by omega]; rfl
  rw [e1] at h1
  exact h1
theorem ownsRow_facts {w : World} {B T sz g n cap : Nat} {xs : List Value} (h : w.ownsRow B T sz (.slice (some ⟨g, 0, none⟩) n cap) n xs) : n ≤ cap ∧ B ≤ g ∧ g < w.heap.size := by
  rcases h.2 with ⟨e, _⟩ | ⟨g', cap', cur, e, hg, hrow, hnc, _⟩
  · cases e
  · cases e
    exact ⟨hnc, hg, (Array.getElem?_eq_some_iff.1 hrow).1⟩
theorem ownsRow_same {w w' : World} {B T sz g n cap : Nat} {xs : List Value} (h : w.ownsRow B T sz (.slice (some ⟨g, 0, none⟩) n cap) n xs) (hs : w'.heap[g]? = w.heap[g]?) : w'.ownsRow B T sz (.slice (some ⟨g, 0, none⟩) n cap) n xs := by
  refine ⟨h.1, h.2.imp id ?_⟩
  rintro ⟨g', cap', cur, e, hg, hrow, hr⟩
  cases e
  exact ⟨g, cap, cur, rfl, hg, hs.trans hrow, hr⟩
theorem wpListIn_append_own_at {F : Fence} {n : Nat} {P : Program} (w : World) {ops : Array Oper} {rest : List Oper} {o : Oper} {a : Act} {Q : Exit → Act → World → Prop}
    (hg : o.guard = none) (s x : Operand) (t : TypeId) (hop : o.op = Op.call { callee := Callee.builtin Builtin.append, args := #[s, x], argTypes := #[t, t] })
    (base : Nat) (e : TypeId) (i : TypeInfo) (z : Value) (size bytes : Nat) (h1 : P.underlying t = some (.slice e)) (h2 : P.info? e = some i) (h3 : i.zero = some z) (h4 : i.size = size) (h5 : i.bytes = bytes) (h6 : z.cells.size = size) (h7 : 0 < size)
    (v : Value) (k : Nat) (xs : List Value) (hs : a.eval s = v) (hown : w.ownsRow base e size v k xs) (ad : Addr) (m c : Nat) (news : List Value) (hx : a.eval x = .slice (some ad) m c) (hn : news.length = m * size)
    (hc : ∀ j u, news[j]? = some u → w.cell? (ad.add j) = some u) (h1c : ∀ u ∈ news, u.oneCell' = true) (b1 : k + m ≤ maxLen) (b2 : (k + m) * bytes ≤ 140737488355328) (b3 : base ≤ w.heap.size)
    (hK : ∀ v' w', w'.ownsRow base e size v' (k + m) (xs ++ news) → w.grownBy w' v.ownBlock → (v'.ownBlock = v.ownBlock ∨ v'.ownBlock = some w.heap.size) → wpListIn F n P ops Q rest (a.put o.dst v') w') :
    wpListIn F n P ops Q (o :: rest) a w := by
  refine wpListIn_plain hg fun K hK' => ?_
  obtain ⟨v', w', hrun, r1, r2, _, r3⟩ := run_append_own_at (P := P) w base t o.type e i z size bytes h1 h2 h3 h4 h5 h6 h7 v k xs hown ad m c news hn hc h1c b1 b2 b3
  unfold Oper.wpIn
  refine ⟨?_, ?_⟩
  · simp [Oper.about, hop, resolve, Target.leads, Sem.run_pure]
  · rw [Oper.semAt_plain F _ _ (by rw [hop]; intro c hc'; cases hc')]
    simp [execOp, hop, resolve, invoke, builtin, hs, hx, hrun, Result.andThen]
    exact hK' _ _ (hK v' w' r1 r2 r3)
theorem has_least {R : Nat → Prop} : ∀ {n : Nat}, R n → ∃ m, R m ∧ ∀ k, R k → m ≤ k := fun {n} => by
  induction n using Nat.strongRecOn with
  | _ n ih =>
    intro h
    by_cases e : ∃ k, k < n ∧ R k
    · obtain ⟨k, hk, hr⟩ := e
      exact ih k hk hr
    · exact ⟨n, h, fun k hk => Nat.le_of_not_lt fun hlt => e ⟨k, hlt, hk⟩⟩
open Classical in
/-- the least number of which R tells -/
noncomputable def least (R : Nat → Prop) : Nat := if h : ∃ m, R m ∧ ∀ k, R k → m ≤ k then Classical.choose h else 0
theorem least_le {R : Nat → Prop} {n : Nat} (h : R n) : least R ≤ n := by
  unfold least
  rw [dif_pos (has_least h)]
  exact (Classical.choose_spec (has_least h)).2 n h
theorem least_is {R : Nat → Prop} {n : Nat} (h : R n) : R (least R) := by
  unfold least
  rw [dif_pos (has_least h)]
  exact (Classical.choose_spec (has_least h)).1
end Go.Proofs.Ytkacelpndeoogaa

/- Blocks of a call's own that hold rows of trees: each block has a type and a weight for each row; what is read through them is a tree of bounded size. No program. -/
namespace Go.Proofs.Ytkacelpndeoogaa
open Go.RowKit

/-- a block: the type of its slices, how many rows there is room for, the weights of its rows -/
abbrev Blk := Ty × Nat × List Nat
abbrev Tau := Nat → Option Blk
/-- a value's weight -/
def slw (τ : Tau) : Value → Nat
  | .slice (some a) _ _ => match τ a.block with
    | some b => b.2.2.sum
    | none => 0
  | _ => 0
def GoodV (τ : Tau) (S : Nat) (ty : Ty) (v : Value) : Prop :=
  match ty with
  | .int => ∃ n : Int, v = .int .i64 n ∧ -9223372036854775808 ≤ n ∧ n ≤ 9223372036854775807
  | .bool => ∃ b, v = .bool b
  | .str => ∃ s : ByteArray, v = .string s ∧ s.size ≤ S
  | ty => v = .slice none 0 0 ∨ ∃ (g n cap : Nat) (l : List Nat), v = .slice (some ⟨g, 0, none⟩) n cap ∧ τ g = some (ty, cap, l) ∧ n ≤ l.length ∧ l.length ≤ cap
/-- a row of a type, of weight at most N -/
structure GoodRow (τ : Tau) (S : Nat) (ty : Ty) (ys : List Value) (N : Nat) : Prop where
  len : ys.length = (rowTy ty).length
  cell : ∀ j (hj : j < (rowTy ty).length), ∃ v, ys[j]? = some v ∧ GoodV τ S ((rowTy ty)[j]) v
  sum : 1 + (ys.map (slw τ)).sum ≤ N
def elemT : Ty → TypeId
  | .exprs => 29
  | .items => 126
  | .sources => 93
  | .keys => 198
  | .queries => 38
  | _ => 0
/-- row i of some cells -/
def rowAt (k : Nat) (cs : List Value) (i : Nat) : List Value := (cs.drop (i * k)).take k
theorem rowAt_get {k i j : Nat} {cs : List Value} (hj : j < k) : (rowAt k cs i)[j]? = cs[i * k + j]? := by
  unfold rowAt
  rw [List.getElem?_take, if_pos hj, List.getElem?_drop]
structure Inv (L : Nat) (τ : Tau) (S : Nat) (w : World) : Prop where
  blk : ∀ g ty cap l, τ g = some (ty, cap, l) → L ≤ g ∧ tree ty = true ∧ l.length ≤ cap ∧ cap ≤ maxLen ∧ ∃ cs : List Value, w.heap[g]? = some (.cells cs.toArray (elemT ty) (0, 0)) ∧ cs.length = cap * (rowTy ty).length ∧
    ∀ i (hi : i < l.length), GoodRow τ S ty (rowAt (rowTy ty).length cs i) l[i]
theorem slw_block {τ : Tau} {g n cap : Nat} {b : Blk} (h : τ g = some b) : slw τ (.slice (some ⟨g, 0, none⟩) n cap) = b.2.2.sum := by
  unfold slw; simp only [h]
theorem sum_get_le {l : List Nat} {i : Nat} (hi : i < l.length) : l[i] ≤ l.sum := by
  induction l generalizing i with
  | nil => simp at hi
  | cons a l ih =>
    cases i with
    | zero => simp
    | succ i => simp; have := ih (i := i) (by simpa using hi); omega
/-- the bytes that a cell adds -/
def strB (S : Nat) : Ty → Nat
  | .str => S
  | _ => 0
theorem strB_row (S : Nat) (ty : Ty) : ((rowTy ty).map (strB S)).sum ≤ 5 * S := by
  cases ty <;> simp [rowTy, exprTy, strB] <;> omega
theorem sum_zip (C S : Nat) (τ : Tau) : ∀ (tys : List Ty) (ys : List Value) (f : Nat → Nat), ys.length = tys.length → (∀ j (hj : j < tys.length), f j ≤ C * slw τ (ys.getD j undef) + strB S tys[j]) →
    ((List.range tys.length).map f).sum ≤ C * (ys.map (slw τ)).sum + (tys.map (strB S)).sum
  | [], ys, f, _, _ => Nat.zero_le _
  | ty :: tys, [], f, h, _ => by simp at h
  | ty :: tys, y :: ys, f, h, H => by
    have h0 := H 0 (by simp)
    have ih := sum_zip C S τ tys ys (fun j => f (j + 1)) (by simpa using h) fun j hj => by
      have := H (j + 1) (by simpa using hj)
      simpa using this
    rw [List.length_cons, List.range_succ_eq_map, List.map_cons, List.sum_cons, List.map_map, List.map_cons, List.map_cons, List.sum_cons, List.sum_cons]
    simp at h0
    have e : ((List.range tys.length).map (f ∘ Nat.succ)).sum = ((List.range tys.length).map fun j => f (j + 1)).sum := rfl
    rw [e, Nat.mul_add]
    omega
theorem sum_rows (C : Nat) : ∀ (l : List Nat) (n : Nat) (f : Nat → Nat), n ≤ l.length → (∀ i (hi : i < l.length), i < n → 1 + f i ≤ C * l[i]) → n + ((List.range n).map f).sum ≤ C * l.sum
  | [], n, f, h, _ => by
    have : n = 0 := by simpa using h
    subst this; simp
  | a :: l, 0, f, _, _ => by simp
  | a :: l, n + 1, f, h, H => by
    have h0 := H 0 (by simp) (by omega)
    have ih := sum_rows C l n (fun i => f (i + 1)) (by simpa using h) fun i hi hin => by
      have := H (i + 1) (by simpa using hi) (by omega)
      simpa using this
    rw [List.range_succ_eq_map, List.map_cons, List.sum_cons, List.map_map, List.sum_cons, Nat.mul_add]
    have e : ((List.range n).map (f ∘ Nat.succ)).sum = ((List.range n).map fun i => f (i + 1)).sum := rfl
    rw [e]
    simp at h0
    omega
theorem GoodRow.cellW {τ : Tau} {S : Nat} {ty : Ty} {ys : List Value} {N : Nat} (h : GoodRow τ S ty ys N) {j : Nat} {v : Value} (hv : ys[j]? = some v) : slw τ v + 1 ≤ N := by
  have hm : v ∈ ys := List.mem_of_getElem? hv
  have h1 : slw τ v ≤ (ys.map (slw τ)).sum := by
    obtain ⟨i, hi, e⟩ := List.getElem_of_mem (List.mem_map_of_mem (f := slw τ) hm)
    rw [← e]; exact sum_get_le hi
  have := h.sum
  omega
theorem tree_deep {ty : Ty} (h : tree ty = true) : deep ty = true := by cases ty <;> first | rfl | cases h
/-- what a good value reads as -/
theorem good_reads {L : Nat} {τ : Tau} {S : Nat} {w : World} (H : Inv L τ S w) (hS : S ≤ 9223372036854775807) : ∀ (N : Nat) (ty : Ty) (v : Value), GoodV τ S ty v → slw τ v ≤ N →
    ∃ d, Rd w 0 v d ∧ Fits d ty ∧ msr d ≤ (1 + 5 * S) * slw τ v + strB S ty := by
  intro N
  induction N using Nat.strongRecOn with
  | _ N IH =>
    intro ty v hv hN
    have nilC : deep ty = true → v = .slice none 0 0 → ∃ d, Rd w 0 v d ∧ Fits d ty ∧ msr d ≤ (1 + 5 * S) * slw τ v + strB S ty := fun hd e => by
      subst e
      refine ⟨.sl 0 (rowTy ty).length fun _ _ => .v undef, ⟨none, 0, rfl, Nat.le_refl _, fun _ => rfl, .inl rfl⟩, ⟨hd, by omega, rfl, fun i hi => absurd hi (by omega)⟩, ?_⟩
      unfold msr; simp
    have slC : deep ty = true → (∃ (g n cap : Nat) (l : List Nat), v = .slice (some ⟨g, 0, none⟩) n cap ∧ τ g = some (ty, cap, l) ∧ n ≤ l.length ∧ l.length ≤ cap) → ∃ d, Rd w 0 v d ∧ Fits d ty ∧ msr d ≤ (1 + 5 * S) * slw τ v + strB S ty := fun hd e => by
      obtain ⟨g, n, cap, l, rfl, hg, hn, hc⟩ := e
      obtain ⟨hL, ht, hlc, hcm, cs, hcs, hlen, hrow⟩ := H.blk g ty cap l hg
      rw [slw_block hg] at hN ⊢
      replace hN : l.sum ≤ N := hN
      have key : ∀ i j, ∃ d, i < n → ∀ hj : j < (rowTy ty).length, ∃ y, w.cell? ⟨g, 0 + i * (rowTy ty).length + j, none⟩ = some y ∧ (rowAt (rowTy ty).length cs i)[j]? = some y ∧ Rd w 0 y d ∧ Fits d ((rowTy ty)[j]) ∧ msr d ≤ (1 + 5 * S) * slw τ y + strB S ((rowTy ty)[j]) := fun i j => by
        by_cases hi : i < n
        · by_cases hj : j < (rowTy ty).length
          · have hil : i < l.length := by omega
            have hr := hrow i hil
            obtain ⟨y, hy, hgy⟩ := hr.cell j hj
            have hw := hr.cellW hy
            have hle := sum_get_le hil
            obtain ⟨d, h1, h2, h3⟩ := IH (slw τ y) (by omega) _ y hgy (Nat.le_refl _)
            refine ⟨d, fun _ _ => ⟨y, ?_, hy, h1, h2, h3⟩⟩
            rw [rowAt_get hj] at hy
            rw [cell_of_row w g _ _ _ (0, 0) hcs, Nat.zero_add]
            simpa using hy
          · exact ⟨.v undef, fun _ h => absurd h hj⟩
        · exact ⟨.v undef, fun h => absurd h hi⟩
      let f : Nat → Nat → Dat := fun i j => Classical.choose (key i j)
      have hf : ∀ i, i < n → ∀ j (hj : j < (rowTy ty).length), ∃ y, w.cell? ⟨g, 0 + i * (rowTy ty).length + j, none⟩ = some y ∧ (rowAt (rowTy ty).length cs i)[j]? = some y ∧ Rd w 0 y (f i j) ∧ Fits (f i j) ((rowTy ty)[j]) ∧ msr (f i j) ≤ (1 + 5 * S) * slw τ y + strB S ((rowTy ty)[j]) := fun i hi j hj => Classical.choose_spec (key i j) hi hj
      have hlt : g < w.heap.size := (Array.getElem?_eq_some_iff.1 hcs).1
      unfold maxLen at hcm
      refine ⟨.sl n (rowTy ty).length f, ⟨_, cap, rfl, by omega, (fun h => by cases h), .inr ⟨g, 0, rfl, Nat.zero_le _, hlt, fun i hi j hj => ?_⟩⟩, ⟨hd, by omega, rfl, fun i hi j hj => ?_⟩, ?_⟩
      · obtain ⟨y, h1, -, h3, -⟩ := hf i hi j hj
        exact ⟨y, h1, h3⟩
      · obtain ⟨y, -, -, -, h4, -⟩ := hf i hi j hj
        exact h4
      · unfold msr
        refine Nat.le_trans (sum_rows (1 + 5 * S) l n (fun i => ((List.range (rowTy ty).length).map fun j => msr (f i j)).sum) hn fun i hil hin => ?_) (Nat.le_add_right _ _)
        have hr := hrow i hil
        have h1 := sum_zip (1 + 5 * S) S τ (rowTy ty) (rowAt (rowTy ty).length cs i) (fun j => msr (f i j)) hr.len fun j hj => by
          obtain ⟨y, -, h2, -, -, h5⟩ := hf i hin j hj
          rw [List.getD_eq_getElem?_getD, h2]
          exact h5
        have h2 := strB_row S ty
        have h3 := hr.sum
        have h4 : (1 + 5 * S) * (1 + ((rowAt (rowTy ty).length cs i).map (slw τ)).sum) ≤ (1 + 5 * S) * l[i] := Nat.mul_le_mul_left _ h3
        rw [Nat.mul_add] at h4
        show 1 + ((List.range (rowTy ty).length).map fun j => msr (f i j)).sum ≤ _
        omega
    cases ty
    case int =>
      obtain ⟨n, rfl, h1, h2⟩ := hv
      exact ⟨.v (.int .i64 n), rfl, ⟨n, rfl, h1, h2⟩, Nat.zero_le _⟩
    case bool =>
      obtain ⟨b, rfl⟩ := hv
      exact ⟨.v (.bool b), rfl, ⟨b, rfl⟩, Nat.zero_le _⟩
    case str =>
      obtain ⟨s, rfl, h⟩ := hv
      refine ⟨.v (.string s), rfl, ⟨s, rfl, by omega⟩, ?_⟩
      unfold msr strB; simp only; omega
    all_goals exact hv.elim (nilC rfl) (slC rfl)
end Go.Proofs.Ytkacelpndeoogaa

/- Typed blocks as the world goes on. No program. -/
namespace Go.Proofs.Ytkacelpndeoogaa
open Go.RowKit

def TLe (τ τ' : Tau) : Prop := ∀ g b, τ g = some b → τ' g = some b
theorem TLe.refl (τ : Tau) : TLe τ τ := fun _ _ h => h
theorem TLe.trans {a b c : Tau} (h : TLe a b) (k : TLe b c) : TLe a c := fun g x hx => k g x (h g x hx)
theorem GoodV.le {τ τ' : Tau} {S : Nat} {ty : Ty} {v : Value} (h : GoodV τ S ty v) (hl : TLe τ τ') : GoodV τ' S ty v ∧ slw τ' v = slw τ v := by
  have sl : (v = .slice none 0 0 ∨ ∃ (g n cap : Nat) (l : List Nat), v = .slice (some ⟨g, 0, none⟩) n cap ∧ τ g = some (ty, cap, l) ∧ n ≤ l.length ∧ l.length ≤ cap) →
      (v = .slice none 0 0 ∨ ∃ (g n cap : Nat) (l : List Nat), v = .slice (some ⟨g, 0, none⟩) n cap ∧ τ' g = some (ty, cap, l) ∧ n ≤ l.length ∧ l.length ≤ cap) ∧ slw τ' v = slw τ v := fun h => by
    rcases h with rfl | ⟨g, n, cap, l, rfl, hg, hn, hc⟩
    · exact ⟨.inl rfl, rfl⟩
    · exact ⟨.inr ⟨g, n, cap, l, rfl, hl _ _ hg, hn, hc⟩, by rw [slw_block hg, slw_block (hl _ _ hg)]⟩
  cases ty
  case int => obtain ⟨n, rfl, h⟩ := h; exact ⟨⟨n, rfl, h⟩, rfl⟩
  case bool => obtain ⟨n, rfl⟩ := h; exact ⟨⟨n, rfl⟩, rfl⟩
  case str => obtain ⟨n, rfl, h⟩ := h; exact ⟨⟨n, rfl, h⟩, rfl⟩
  all_goals exact sl h
theorem GoodRow.all {τ : Tau} {S : Nat} {ty : Ty} {ys : List Value} {N : Nat} (h : GoodRow τ S ty ys N) : ∀ v ∈ ys, ∃ t, GoodV τ S t v := fun v hv => by
  obtain ⟨j, hj, e⟩ := List.getElem_of_mem hv
  have hj2 : j < (rowTy ty).length := by rw [← h.len]; exact hj
  obtain ⟨v', hv', hg⟩ := h.cell j hj2
  rw [List.getElem?_eq_getElem hj] at hv'
  injection hv' with hv'
  rw [← e, hv']
  exact ⟨_, hg⟩
theorem GoodRow.le {τ τ' : Tau} {S : Nat} {ty : Ty} {ys : List Value} {N N' : Nat} (h : GoodRow τ S ty ys N) (hl : TLe τ τ') (hN : N ≤ N') : GoodRow τ' S ty ys N' := by
  refine ⟨h.len, fun j hj => ?_, ?_⟩
  · obtain ⟨v, hv, hg⟩ := h.cell j hj
    exact ⟨v, hv, (hg.le hl).1⟩
  · have e : ys.map (slw τ') = ys.map (slw τ) := List.map_congr_left fun v hv => by
      obtain ⟨t, ht⟩ := h.all v hv
      exact (ht.le hl).2
    rw [e]
    exact Nat.le_trans h.sum hN
theorem Inv.lt {L : Nat} {τ : Tau} {S : Nat} {w : World} (H : Inv L τ S w) {g : Nat} {b : Blk} (h : τ g = some b) : g < w.heap.size := by
  obtain ⟨ty, cap, l⟩ := b
  obtain ⟨_, _, _, _, cs, hcs, _⟩ := H.blk g ty cap l h
  exact (Array.getElem?_eq_some_iff.1 hcs).1
theorem Inv.low {L : Nat} {τ : Tau} {S : Nat} {w : World} (H : Inv L τ S w) {g : Nat} {b : Blk} (h : τ g = some b) : L ≤ g := by
  obtain ⟨ty, cap, l⟩ := b
  exact (H.blk g ty cap l h).1
theorem Inv.fresh {L : Nat} {τ : Tau} {S : Nat} {w : World} (H : Inv L τ S w) {g : Nat} (h : w.heap.size ≤ g) : τ g = none := by
  cases e : τ g with
  | none => rfl
  | some b => have := H.lt e; omega
theorem Inv.keep {L : Nat} {τ : Tau} {S : Nat} {w w' : World} (H : Inv L τ S w) (h : ∀ g b, τ g = some b → w'.heap[g]? = w.heap[g]?) : Inv L τ S w' := ⟨fun g ty cap l hg => by
  obtain ⟨a, b, c, d, cs, hcs, e⟩ := H.blk g ty cap l hg
  exact ⟨a, b, c, d, cs, (h g _ hg).trans hcs, e⟩⟩
theorem Inv.turn {L C : Nat} {τ : Tau} {S : Nat} {w w' : World} (H : Inv L τ S w) (g : w.grownBy w' (some C)) (hC : C < L) : Inv L τ S w' :=
  H.keep fun k b hk => g.block k (H.lt hk) (fun e => by have := H.low hk; injection e; omega)
theorem Inv.later {L : Nat} {τ : Tau} {S : Nat} {w w' : World} (H : Inv L τ S w) (g : Below w.heap.size w w') : Inv L τ S w' := H.keep fun k b hk => g.block k (H.lt hk)
def tupd (τ : Tau) (g : Nat) (b : Blk) : Tau := fun k => if k = g then some b else τ k
theorem tupd_same (τ : Tau) (g : Nat) (b : Blk) : tupd τ g b g = some b := by unfold tupd; rw [if_pos rfl]
theorem tupd_other {τ : Tau} {g k : Nat} {b : Blk} (h : k ≠ g) : tupd τ g b k = τ k := by unfold tupd; rw [if_neg h]
theorem TLe.tupd {τ : Tau} {g : Nat} {b : Blk} (h : τ g = none) : TLe τ (tupd τ g b) := fun k x hk => by
  by_cases e : k = g
  · subst e; rw [h] at hk; cases hk
  · rw [tupd_other e]; exact hk
theorem Inv.adopt {L : Nat} {τ : Tau} {S : Nat} {w : World} (H : Inv L τ S w) {g : Nat} {ty : Ty} {cap : Nat} {l : List Nat} (hn : τ g = none) (hL : L ≤ g) (ht : tree ty = true) (hlc : l.length ≤ cap) (hcm : cap ≤ maxLen)
    (cs : List Value) (hcs : w.heap[g]? = some (.cells cs.toArray (elemT ty) (0, 0))) (hlen : cs.length = cap * (rowTy ty).length) (hrow : ∀ i (hi : i < l.length), GoodRow τ S ty (rowAt (rowTy ty).length cs i) l[i]) :
    Inv L (Go.Proofs.Ytkacelpndeoogaa.tupd τ g (ty, cap, l)) S w := ⟨fun k ty' cap' l' hk => by
  by_cases e : k = g
  · subst e
    rw [tupd_same] at hk
    injection hk with hk
    injection hk with h1 h2
    injection h2 with h2 h3
    subst h1; subst h2; subst h3
    exact ⟨hL, ht, hlc, hcm, cs, hcs, hlen, fun i hi => (hrow i hi).le (TLe.tupd hn) (Nat.le_refl _)⟩
  · rw [tupd_other e] at hk
    obtain ⟨a, b, c, d, cs', h1, h2, h3⟩ := H.blk k ty' cap' l' hk
    exact ⟨a, b, c, d, cs', h1, h2, fun i hi => (h3 i hi).le (TLe.tupd hn) (Nat.le_refl _)⟩⟩
/-- some rows, one behind the other -/
structure RowsOk (τ : Tau) (S : Nat) (ty : Ty) (xs : List Value) (l : List Nat) : Prop where
  len : xs.length = l.length * (rowTy ty).length
  row : ∀ i (hi : i < l.length), GoodRow τ S ty (rowAt (rowTy ty).length xs i) l[i]
theorem RowsOk.nil (τ : Tau) (S : Nat) (ty : Ty) : RowsOk τ S ty [] [] := ⟨by simp, fun i hi => absurd hi (by simp)⟩
theorem RowsOk.le {τ τ' : Tau} {S : Nat} {ty : Ty} {xs : List Value} {l : List Nat} (h : RowsOk τ S ty xs l) (hl : TLe τ τ') : RowsOk τ' S ty xs l := ⟨h.len, fun i hi => (h.row i hi).le hl (Nat.le_refl _)⟩
theorem rowAt_left {k i : Nat} {xs ys : List Value} (h : (i + 1) * k ≤ xs.length) : rowAt k (xs ++ ys) i = rowAt k xs i := by
  have h2 : i * k + k ≤ xs.length := by rw [Nat.add_mul, Nat.one_mul] at h; exact h
  unfold rowAt
  rw [List.drop_append_of_le_length (by omega), List.take_append_of_le_length (by rw [List.length_drop]; omega)]
theorem rowAt_last {k i : Nat} {xs ys : List Value} (h : xs.length = i * k) (hy : ys.length = k) : rowAt k (xs ++ ys) i = ys := by
  unfold rowAt
  rw [← h, List.drop_left, ← hy, List.take_length]
theorem RowsOk.snoc {τ : Tau} {S : Nat} {ty : Ty} {xs : List Value} {l : List Nat} {ys : List Value} {N : Nat} (h : RowsOk τ S ty xs l) (hy : GoodRow τ S ty ys N) : RowsOk τ S ty (xs ++ ys) (l ++ [N]) := by
  refine ⟨by rw [List.length_append, h.len, hy.len, List.length_append, List.length_singleton, Nat.add_mul, Nat.one_mul], fun i hi => ?_⟩
  rw [List.length_append, List.length_singleton] at hi
  by_cases e : i < l.length
  · rw [rowAt_left (by rw [h.len]; exact Nat.mul_le_mul_right _ e), List.getElem_append_left e]
    exact h.row i e
  · obtain rfl : i = l.length := by omega
    rw [rowAt_last h.len hy.len, List.getElem_append_right (Nat.le_refl _)]
    simpa using hy
/-- a row of one's own, told from now on -/
theorem Inv.adoptOwn {L : Nat} {τ : Tau} {S : Nat} {w : World} (H : Inv L τ S w) {ty : Ty} {base : Nat} {v : Value} {n : Nat} {xs : List Value} {l : List Nat} (ht : tree ty = true) (hbase : L ≤ base)
    (hown : w.ownsRow base (elemT ty) (rowTy ty).length v n xs) (hn : n = l.length) (hrows : RowsOk τ S ty xs l) (hfree : ∀ g, base ≤ g → g < w.heap.size → v.ownBlock = some g → τ g = none) :
    ∃ τ', Inv L τ' S w ∧ TLe τ τ' ∧ (∀ g, g < base → τ' g = τ g) ∧ (∀ g, v.ownBlock ≠ some g → τ' g = τ g) ∧ GoodV τ' S ty v ∧ slw τ' v ≤ l.sum := by
  obtain ⟨hxl, hnil | ⟨g, cap, cur, rfl, hbg, hcell, hnc, hcm, hcs, htake⟩⟩ := hown
  · obtain ⟨rfl, _⟩ := hnil
    refine ⟨τ, H, TLe.refl _, fun _ _ => rfl, fun _ _ => rfl, ?_, Nat.zero_le _⟩
    cases ty <;> first | exact .inl rfl | cases ht
  · have hlt := (Array.getElem?_eq_some_iff.1 hcell).1
    have hnone := hfree g hbg hlt rfl
    have hA := H.adopt (cap := cap) (l := l) hnone (Nat.le_trans hbase hbg) ht (by omega) hcm cur.toList (by simpa using hcell) (by simpa using hcs) (fun i hi => by
      have h1 : rowAt (rowTy ty).length cur.toList i = rowAt (rowTy ty).length xs i := by
        have hle : (i + 1) * (rowTy ty).length ≤ xs.length := by rw [hrows.len]; exact Nat.mul_le_mul_right _ hi
        have e : cur.toList = xs ++ cur.toList.drop (n * (rowTy ty).length) := by rw [← htake, List.take_append_drop]
        rw [e, rowAt_left hle]
      rw [h1]
      exact hrows.row i hi)
    refine ⟨_, hA, TLe.tupd hnone, fun k hk => tupd_other (by omega), fun k hk => tupd_other (fun e => hk (by rw [e]; rfl)), ?_, ?_⟩
    · cases ty <;> first | exact .inr ⟨g, n, cap, l, rfl, tupd_same _ _ _, by omega, by omega⟩ | cases ht
    · rw [slw_block (tupd_same _ _ _)]
      exact Nat.le_refl _
end Go.Proofs.Ytkacelpndeoogaa

/- A region that draws its order: its first n operations are quiet (calls that make memory among them), the rest is a chain behind them: one walk. -/
namespace Go.Proofs.Ytkacelpndeoogaa
open Go.RowKit

section
variable {P : Program} {md : Region.Mode} {l : List Oper} {n : Nat}

/-- an operation that hangs on earlier ones alone -/
def backB (md : Region.Mode) (l : List Oper) (n i : Nat) : Bool :=
  match l[i]? with
  | none => false
  | some o => (o.after.all fun e => !Region.binds md e || decide (e.on < i)) && (match o.guard with
    | none => true
    | some g => decide (g.1 < n))
/-- where the region may be cut -/
def cutB (md : Region.Mode) (l : List Oper) (n : Nat) : Bool :=
  (decide (n < l.length) && ((List.range n).all fun i => backB md l n i)) &&
  ((Region.noSelect (l.take n).toArray && Region.lexFrom md (l.take n).toArray n 0 (Array.replicate l.length false)) &&
  ((Region.sinkB md l.toArray n && Region.chainB md l.toArray n) && Region.seqB md l.toArray (l.length - n) n (Array.replicate n true ++ Array.replicate (l.length - n) false)))

theorem head_get {i : Nat} (hi : i < n) : (l.take n).toArray[i]? = l.toArray[i]? := by
  simp [List.getElem?_take, hi]
theorem head_of {i : Nat} {o : Oper} (h : (l.take n).toArray[i]? = some o) : i < n := by
  have h2 := (Array.getElem?_eq_some_iff.1 h).1
  simp at h2
  omega
theorem ready_up {i : Nat} {listed : Array Bool} (h : i ∈ Region.ready md (l.take n).toArray listed) : i < n ∧ i ∈ Region.ready md l.toArray listed := by
  obtain ⟨h1, o, ho, ha⟩ := mem_ready.1 h
  have hi := head_of ho
  exact ⟨hi, mem_ready.2 ⟨h1, o, (head_get hi).symm.trans ho, ha⟩⟩
theorem ready_down {i : Nat} {listed : Array Bool} (hi : i < n) (h : i ∈ Region.ready md l.toArray listed) : i ∈ Region.ready md (l.take n).toArray listed := by
  obtain ⟨h1, o, ho, ha⟩ := mem_ready.1 h
  exact mem_ready.2 ⟨h1, o, (head_get hi).trans ho, ha⟩
theorem yielded_head {i : Nat} (hi : i < n) (ts : Array Value) : yielded (l.take n).toArray ts i = yielded l.toArray ts i := by
  unfold yielded
  rw [head_get hi]
/-- if no operation of the head may come up, all have -/
theorem all_listed {listed : Array Bool} (hs : listed.size = l.length) (hn : n < l.length) (hb : ∀ i, i < n → backB md l n i = true) (h : Region.ready md (l.take n).toArray listed = []) :
    ∀ i, i < n → listed.getD i true = true := by
  intro i
  induction i using Nat.strongRecOn with
  | _ i ih =>
    intro hi
    cases hl : listed.getD i true
    · exfalso
      have h1 := hb i hi
      unfold backB at h1
      have hil : i < l.length := by omega
      rw [List.getElem?_eq_getElem hil] at h1
      rw [Bool.and_eq_true] at h1
      have hm : i ∈ Region.ready md (l.take n).toArray listed := by
        refine mem_ready.2 ⟨hl, l[i], ?_, fun e he hbd => ?_⟩
        · rw [head_get hi]; simp [hil]
        · have h2 := Array.all_eq_true_iff_forall_mem.1 h1.1 e he
          rw [hbd] at h2
          have h3 : e.on < i := by simpa using h2
          have h4 := ih e.on h3 (by omega)
          have h5 : e.on < listed.size := by rw [hs]; omega
          simpa [h5] using h4
      rw [h] at hm
      cases hm
    · rfl

theorem any_seq {Q' : Exit → Act → World → Prop} (x : Nat) : ∀ (t : List Oper) (k : Nat) (listed : Array Bool) (a : Act) (w : World), (∀ j, t[j]? = l.toArray[k + j]?) →
    Region.seqB md l.toArray t.length k listed = true → wpList P l.toArray Q' t a w → wpAny P md l.toArray Q' (t.length + x) listed a w
  | [], k, listed, a, w, _, hB, h => by
    have hr : Region.ready md l.toArray listed = [] := by simpa [Region.seqB] using hB
    cases x with
    | zero => exact ⟨hr, h⟩
    | succ x => exact ⟨fun _ => h, fun i hi => by rw [hr] at hi; cases hi⟩
  | o :: t, k, listed, a, w, hl, hB, h => by
    have h0 : l.toArray[k]? = some o := by simpa using (hl 0).symm
    simp only [List.length_cons, Region.seqB, Bool.and_eq_true, decide_eq_true_eq] at hB
    rw [show (o :: t).length + x = (t.length + x) + 1 by simp only [List.length_cons]; omega]
    refine ⟨fun h1 => (by rw [hB.1] at h1; cases h1), fun i hi => ?_⟩
    rw [hB.1] at hi
    obtain rfl : i = k := by simpa using hi
    have hw : wpOp P l.toArray Q' i (wpList P l.toArray Q' t) a w := by unfold wpOp; simp only [h0]; exact h
    exact wpOp_mono (fun a' w' h' => any_seq x t (i + 1) _ a' w' (fun j => by have := hl (j + 1); simpa [Nat.add_assoc, Nat.add_comm 1 j] using this) hB.2 h') hw

theorem cut_any {C : World → Prop} {Q' : Exit → Act → World → Prop} (hn : n < l.length) (hb : ∀ i, i < n → backB md l n i = true) (hs : Region.sinkB md l.toArray n = true) (hc : Region.chainB md l.toArray n = true)
    (hq : Region.seqB md l.toArray (l.length - n) n (Array.replicate n true ++ Array.replicate (l.length - n) false) = true) :
    ∀ (f : Nat) (listed : Array Bool) (a : Act) (w : World), HeadInv md l.toArray n listed → C w →
      wpAnyQ P md (l.take n).toArray C (fun a' => ∀ w', C w' → wpList P l.toArray Q' (l.drop n) a' w') f listed a → wpAny P md l.toArray Q' (f + (l.length - n)) listed a w := by
  have fin : ∀ (x : Nat) (listed : Array Bool) (a : Act) (w : World), HeadInv md l.toArray n listed → Region.ready md (l.take n).toArray listed = [] → wpList P l.toArray Q' (l.drop n) a w →
      wpAny P md l.toArray Q' (x + (l.length - n)) listed a w := by
    intro x listed a w inv hr h
    have hsz : listed.size = l.length := by rw [inv.size]; simp
    have hall := all_listed hsz hn hb hr
    have e : listed = Array.replicate n true ++ Array.replicate (l.length - n) false := by
      apply Array.ext
      · simp; omega
      · intro i h1 h2
        by_cases hi : i < n
        · have := hall i hi
          simp [h1] at this
          simp [Array.getElem_append, hi, this]
        · have := inv.tail i (by omega) (by simpa using (by omega : i < l.length))
          simp [h1] at this
          simp [Array.getElem_append, hi, this]
    have hd : (l.drop n).length = l.length - n := by simp
    have := any_seq (P := P) (md := md) (Q' := Q') x (l.drop n) n listed a w (fun j => by simp [List.getElem?_drop]) (by rw [hd, e]; exact hq) h
    rw [hd] at this
    rw [Nat.add_comm]
    exact this
  intro f
  induction f with
  | zero => intro listed a w inv hw h; exact fin 0 listed a w inv h.1 (h.2 w hw)
  | succ f ih =>
    intro listed a w inv hw h
    by_cases hr : Region.ready md (l.take n).toArray listed = []
    · exact fin (f + 1) listed a w inv hr (h.1 hr w hw)
    · obtain ⟨i, hi⟩ := List.exists_mem_of_ne_nil _ hr
      obtain ⟨hin, hi2⟩ := ready_up hi
      rw [show f + 1 + (l.length - n) = (f + (l.length - n)) + 1 by omega]
      refine ⟨fun h0 => (by rw [h0] at hi2; cases hi2), fun j hj => ?_⟩
      have hjn : j < n := by
        rcases Nat.lt_or_ge j n with h1 | h1
        · exact h1
        · exact absurd hj (tail_waits hs hc (by simpa using hn) inv _ i rfl hin (mem_ready.1 hi2).1 j h1)
      have hq2 := h.2 j (ready_down hjn hj)
      obtain ⟨_, o, ho, _⟩ := mem_ready.1 hj
      have hwt : Region.wanted o (yielded (l.take n).toArray a.tmps) = Region.wanted o (yielded l.toArray a.tmps) := by
        have h1 := hb j hjn
        have ho' : l[j]? = some o := by simpa using ho
        unfold backB at h1
        rw [ho', Bool.and_eq_true] at h1
        unfold Region.wanted
        cases hg : o.guard with
        | none => rfl
        | some g =>
          have h2 := h1.2
          rw [hg] at h2
          have h3 : g.1 < n := by simpa using h2
          simp only [yielded_head h3]
      unfold qOp at hq2
      rw [head_get hjn, ho] at hq2
      simp only [hwt] at hq2
      unfold wpOp
      rw [ho]
      simp only []
      split
      · rename_i hwd
        rw [if_pos hwd] at hq2
        exact .inl (Oper.wp_of_quiet hw (fun a' w' hw' hK => ih _ a' w' (inv.set hj hjn) hw' hK) hq2)
      · rename_i hwd
        rw [if_neg hwd] at hq2
        exact ih _ _ w (inv.set hj hjn) hw hq2

theorem region_lat_tail {id : Nat} {Q : Exit → Act → World → Prop} {a : Act} {w : World} (n : Nat) (hm : P.follows .mixedOrders = true) (hB : cutB .any l n = true)
    (h : wpQuiet P (l.take n).toArray (fun w' => ∃ m, w' = lat w m) (fun a' => ∀ w', (∃ m, w' = lat w m) → wpList P l.toArray Q (l.drop n) a' w') (l.take n) a) : (Code.region id l.toArray true).wp P Q a w := by
  simp only [cutB, Bool.and_eq_true, decide_eq_true_eq] at hB
  obtain ⟨⟨hn, hb⟩, ⟨hsel, hlex⟩, ⟨hs, hc⟩, hq⟩ := hB
  have hb' : ∀ i, i < n → backB .any l n i = true := fun i hi => List.all_eq_true.1 hb i (List.mem_range.2 hi)
  have htl : (l.take n).length = n := by simp; omega
  have inv0 : HeadInv .any l.toArray n (Array.replicate l.toArray.size false) :=
    ⟨by simp, fun j oj _ hl => (by rw [getD_replicate_false] at hl; cases hl), fun t _ ht => getD_in (by simpa using ht) (getD_replicate_false _ _)⟩
  have hw0 : ∃ m, ({ w with drawn := w.drawn + 1 } : World) = lat w m :=
    ⟨{ w with drawn := w.drawn + 1 }, (lat_of (wr := w) (w := { w with drawn := w.drawn + 1 }) ⟨rfl, rfl, rfl, Nat.le_refl _, fun _ _ => rfl⟩).symm⟩
  have H := wpAnyQ_lex (C := fun w' => ∃ m, w' = lat w m) (md := .any) (ops := (l.take n).toArray) hsel (l.take n) 0 (Array.replicate l.length false) a (by simp) (by rw [htl]; exact hlex) h
  rw [htl] at H
  refine wp_region_any hm ?_
  have := cut_any (P := P) (md := .any) (C := fun w' => ∃ m, w' = lat w m) (Q' := Q) hn hb' hs hc hq n (Array.replicate l.length false) a _ (by simpa using inv0) hw0 H
  rw [show n + (l.length - n) = l.toArray.size by simp; omega] at this
  simpa using this
end
end Go.Proofs.Ytkacelpndeoogaa

/- A call that returns returns one value: two contracts at one world agree on it. -/
namespace Go.Proofs.Ytkacelpndeoogaa
open Go.RowKit

/-- a frame at which every run ends at once -/
def wall : Frame := { Frame.enter default 0 #[] .normal with todo := [.code (.refuse default)], mode := .run }
theorem wall_ends (P : Program) (v : Value) (w : World) : ∃ o, step P (lone (wall.finish v) [] w) = .ended o w :=
  ⟨_, step_lone_ended (by simp [wall, Frame.finish, stepG, stepG.exec]; rfl)⟩
theorem runN_ended {P : Program} {o : Outcome} {m : Machine} {w : World} (h : step P m = .ended o w) : ∀ n, runN P (n + 1) m = .ended o w
  | n => by simp [runN, h]
theorem Calls.one_value {P : Program} {f : FuncId} {args : Array Value} {w : World} {v v' : Value} {A B : World → Prop}
    (h : Calls P f args w fun e w' => e = .returned v ∧ A w') (h' : Calls P f args w fun e w' => e = .returned v' ∧ B w') : v = v' := by
  obtain ⟨e, w1, fr, ⟨rfl, _⟩, ⟨n, hn⟩, _, hl⟩ := h [wall]
  obtain ⟨e, w2, fr', ⟨rfl, _⟩, ⟨n', hn'⟩, _, hl'⟩ := h' [wall]
  have s1 := step_leave_returned (c := wall) (cs := []) hl
  have s2 := step_leave_returned (c := wall) (cs := []) hl'
  obtain ⟨o, ho⟩ := wall_ends P v w1
  obtain ⟨o', ho'⟩ := wall_ends P v' w2
  have key : ∀ (n n' : Nat) (fr fr' : Frame) (w1 w2 : World) (v : Value) (o : Outcome) (m : Machine), runN P n m = .next (lone fr [wall] w1) → runN P n' m = .next (lone fr' [wall] w2) →
      step P (lone fr [wall] w1) = .next (lone (wall.finish v) [] w1) → step P (lone (wall.finish v) [] w1) = .ended o w1 → ¬ n < n' := by
    intro n n' fr fr' w1 w2 v o m hn hn' s1 ho hlt
    obtain ⟨d, rfl⟩ : ∃ d, n' = n + (d + 1) := ⟨n' - n - 1, by omega⟩
    rw [runN_add, hn] at hn'
    cases d with
    | zero =>
      have h3 : Stepped.next (lone (wall.finish v) [] w1) = .next (lone fr' [wall] w2) := by rw [← hn']; simp [runN, s1]
      injection h3 with e1
      have := congrArg (fun g : Machine => (g.gs.map fun x => x.callers)) e1
      simp [lone] at this
    | succ d =>
      simp [runN, s1, ho] at hn'
  have e : n = n' := by
    rcases Nat.lt_trichotomy n n' with h | h | h
    · exact absurd h (key n n' fr fr' w1 w2 v o _ hn hn' s1 ho)
    · exact h
    · exact absurd h (key n' n fr' fr w2 w1 v' o' _ hn' hn s2 ho')
  subst e
  rw [hn] at hn'
  injection hn' with e1
  have hw : w1 = w2 := congrArg (fun m : Machine => m.world) e1
  have hf : fr = fr' := by
    have := congrArg (fun g : Machine => (g.gs.map fun x => x.frame)) e1
    simpa [lone] using this
  subst hw
  subst hf
  obtain ⟨_, _, _, fn, hfn, hr⟩ := hl
  obtain ⟨_, _, _, fn', hfn', hr'⟩ := hl'
  rw [hfn] at hfn'
  injection hfn' with e2
  subst e2
  rw [hr] at hr'
  injection hr'
theorem quiet_one {P : Program} {o : Oper} {a : Act} {C D : World → Prop} {w : World} {v v' : Value} (h : o.quietAt P a C w v) (h' : o.quietAt P a D w v') : v = v' := by
  unfold Oper.quietAt at h h'
  generalize (execOp a.eval o).run P w = r at h h'
  cases r with
  | ok n w' =>
    cases n <;> simp only [Oper.quietUpon] at h h'
    case value u => exact h.2.symm.trans h'.2
    case skip => exact h.2.trans h'.2.symm
    case enter f args => exact Calls.one_value h.2 h'.2
  | halt x w' => simp only [Oper.quietUpon] at h
end Go.Proofs.Ytkacelpndeoogaa
