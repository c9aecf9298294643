
/- A range over a function whose rounds come one by one off a list that is known: the iterator may write blocks of its own; the body may write the blocks of E. -/
import Derived.RangeFuncIn
import Derived.RangeFuncRecord
import Derived.RangeFuncSeq
import Derived.RangeFuncCalls
import Derived.RangeFuncLeaves
import Derived.RangeFuncKeeps
import Derived.Below
namespace Go.Proofs.Ytgihklohhjhjbaa
open Go.RowKit

/-- whatever lies outside E lies as it lay -/
structure But (E : Nat → Prop) (W W' : World) : Prop where
  os : W'.os = W.os
  tape : W'.tape = W.tape
  output : W'.output = W.output
  size : W.heap.size ≤ W'.heap.size
  block : ∀ k, k < W.heap.size → ¬ E k → W'.heap[k]? = W.heap[k]?
theorem But.refl (E : Nat → Prop) (W : World) : But E W W := ⟨rfl, rfl, rfl, Nat.le_refl _, fun _ _ _ => rfl⟩
theorem But.trans {E : Nat → Prop} {a b c : World} (h : But E a b) (k : But E b c) : But E a c :=
  ⟨k.os.trans h.os, k.tape.trans h.tape, k.output.trans h.output, Nat.le_trans h.size k.size, fun i hi hn => (k.block i (Nat.lt_of_lt_of_le hi h.size) hn).trans (h.block i hi hn)⟩
theorem But.wide {E E' : Nat → Prop} {a b : World} (h : But E a b) (hE : ∀ k, E k → E' k) : But E' a b := ⟨h.os, h.tape, h.output, h.size, fun k hk hn => h.block k hk fun he => hn (hE k he)⟩
theorem But.below {E : Nat → Prop} {a b : World} (h : Below a.heap.size a b) : But E a b := ⟨h.os, h.tape, h.output, h.size, fun k hk _ => h.block k hk⟩
theorem But.of_below {E : Nat → Prop} {B : Nat} {a b : World} (h : Below B a b) (hE : ∀ k, B ≤ k → k < a.heap.size → E k) : But E a b :=
  ⟨h.os, h.tape, h.output, h.size, fun k hk hn => h.block k (Nat.lt_of_not_le fun hle => hn (hE k hle hk))⟩
theorem But.setCell {E : Nat → Prop} (W : World) (p : Addr) (u : Value) (hE : E p.block) : But E W (W.setCell p u) :=
  ⟨rfl, rfl, rfl, by simp [World.setCell], fun k _ hn => Below.heap_setCell _ _ _ _ (fun e => hn (e ▸ hE))⟩
theorem But.alloc {E : Nat → Prop} (W : World) (o : Obj) : But E W (W.alloc o) := .below ((Below.refl _ W).alloc (Nat.le_refl _) o)
theorem But.drew {E : Nat → Prop} (W : World) : But E W W.drew := ⟨rfl, rfl, rfl, Nat.le_refl _, fun _ _ _ => rfl⟩
theorem But.put {E : Nat → Prop} (W : World) (l : Nat) (o : Obj) (hE : E l) : But E W (W.putObj l o) :=
  ⟨rfl, rfl, rfl, by simp [World.putObj], fun k _ hn => World.putObj_heap_other (fun e => hn (e ▸ hE))⟩
theorem But.low {E : Nat → Prop} {a b : World} (h : But E a b) {B : Nat} (hB : B ≤ a.heap.size) (hE : ∀ k, k < B → ¬ E k) : Below B a b :=
  ⟨h.os, h.tape, h.output, h.size, fun k hk => h.block k (Nat.lt_of_lt_of_le hk hB) (hE k hk)⟩
theorem below_put {B : Nat} (W : World) (l : Nat) (o : Obj) (hB : B ≤ l) : Below B W (W.putObj l o) :=
  ⟨rfl, rfl, rfl, by simp [World.putObj], fun k hk => World.putObj_heap_other (by omega)⟩

/-- THE ITERATOR's CONTRACT: its rounds are those of xs, in order, each as a value that ok takes; a round keeps all but E and what lay between w and the call. -/
def SeqV {α : Type} (F : Fence) (n : Nat) (P : Program) (g : Nat) (lb : Array Value) (xs : List α) (ok : α → Array Value → Prop) (go : α → Prop) (E : Nat → Prop) (w : World) : Prop :=
  ∀ (l : Nat) (J Jx : Nat → World → Prop) (Ew : Nat → Prop) (W : World), Below w.heap.size w W → (∀ k, Ew k → E k ∨ (w.heap.size ≤ k ∧ k < W.heap.size)) →
    (∀ i A B, J i A → Below W.heap.size A B → J i B) → (∀ i A B, Jx i A → Below W.heap.size A B → Jx i B) →
    (∀ i x v W1, xs[i]? = some x → ok x v → J i W1 → YieldAt F (n - 1) P l v W1 fun e W' =>
      (e = .returned (.bool true) ∧ go x ∧ J (i + 1) W' ∧ But Ew W1 W') ∨ (e = .returned (.bool false) ∧ Jx (i + 1) W')) →
    J 0 W →
    CallsIn F n P g (#[.func (.yield l) #[] #[]] ++ lb) W fun e W' => (∃ v, e = .returned v) ∧ (J xs.length W' ∨ ∃ i, i ≤ xs.length ∧ Jx i W')

/-- how the body of a round may be left -/
def postV (E : Nat → Prop) (gx : Prop) (I : Nat → World → Prop) (Ix : Code → Nat → World → Prop) (i : Nat) (W : World) : Exit → Act → World → Prop
  | .normal, _, W' => But E W W' ∧ gx ∧ I i W'
  | .ret, _, W' => But E W W' ∧ Ix .ret i W'
  | .exit id, _, W' => But E W W' ∧ Ix (.exit id) i W'
  | .goto t, _, W' => But E W W' ∧ Ix (.goto t) i W'
  | .panic _, _, _ => False
  | .outgrown, _, _ => False

theorem wpIn_rangeV {F : Fence} {n : Nat} {P : Program} {α : Type} {g : Operand} {ps : Array Tmp} {assign body : Code} {Q : Exit → Act → World → Prop} {a : Act} {w : World}
    (hro : F.round = none) (h1 : 1 ≤ n) {gf : Nat} {lb : Array Value} (hg : a.eval g = .func (.func gf) #[] lb) (hFg : F.fn gf) (eg : ∀ args w, (callFunc gf args).run P w = .ok (.enter gf args) w)
    {xs : List α} {ok : α → Array Value → Prop} {go : α → Prop} {E : Nat → Prop} (hseq : SeqV F (n - 1) P gf lb xs ok go E w) (hE : ∀ k, E k → k < w.heap.size) (hps : ∀ x v, ok x v → v.size = ps.size)
    (I : Nat → World → Prop) (Ix : Code → Nat → World → Prop) (hI : ∀ i A B, I i A → Below w.heap.size A B → I i B) (hIx : ∀ c i A B, Ix c i A → Below w.heap.size A B → Ix c i B) (h0 : I 0 w)
    (Ax : α → Act → World → Prop) (hAx : ∀ x a₁ (A B : World), Ax x a₁ A → (∀ k, w.heap.size + 1 < k → B.heap[k]? = A.heap[k]?) → Ax x a₁ B)
    (hassign : ∀ (l : Nat) (x : α) (v : Array Value) (W : World) (K : Act → World → Prop), ok x v → w.heap.size + 1 < W.heap.size → (∀ a₁ W', Ax x a₁ W' → Below W.heap.size W W' → K a₁ W') →
      assign.wpIn (F.inRound l) (n - 1 - 1) P (Exit.then K (fun _ _ _ => False)) { tmps := (ps.zip v).foldl (fun t (p, v) => t.setIfInBounds p v) a.tmps, defers := [] } W)
    (hbody : ∀ (l : Nat) (i : Nat) (x : α) (a₁ : Act) (W : World), xs[i]? = some x → I i W → w.heap.size < W.heap.size → Ax x a₁ W → body.wpIn (F.inRound l) (n - 1 - 1) P (postV E (go x) I Ix (i + 1) W) a₁ W)
    (hdone : ∀ (D : Nat) (W : World), w.heap.size ≤ D → I xs.length W → W.heap[D]? = some (.deferred (some [])) → Q .normal { a with defers := { target := .collected D, args := #[] } :: a.defers } W)
    (hstop : ∀ (D : Nat) (c : Code) (i : Nat) (W : World), w.heap.size ≤ D → i ≤ xs.length → Ix c i W → W.heap[D]? = some (.deferred (some [])) → c.wpIn F n P Q { a with defers := { target := .collected D, args := #[] } :: a.defers } W) :
    (Code.rangeFunc g ps assign body).wpIn F n P Q a w := by
  refine wpIn_rangeFunc ?_
  intro fn hfn
  rw [hro]
  obtain ⟨rec, hrec⟩ : ∃ rec : LoopState → Option Code → Loop, rec = fun st pe => { state := st, pending := pe, fn, tmps := a.tmps, params := ps, assign, body, defers := w.heap.size } := ⟨_, rfl⟩
  obtain ⟨W1, hW1⟩ : ∃ W1, (w.alloc (.deferred (some []))).alloc (.loop (rec .ready none)) = W1 := ⟨_, rfl⟩
  have hL1 : W1.heap[w.heap.size + 1]? = some (.loop (rec .ready none)) := by
    rw [← hW1]; have := World.alloc_heap_new (w.alloc (.deferred (some []))) (.loop (rec .ready none)); rwa [World.size_alloc] at this
  have hK1 : W1.heap[w.heap.size]? = some (.deferred (some [])) := by
    rw [← hW1]; exact (Below.heap_alloc _ _ _ (by simp)).trans (World.alloc_heap_new w _)
  have hb1 : Below w.heap.size w W1 := by
    rw [← hW1]; exact ((Below.refl _ w).alloc (Nat.le_refl _) _).alloc (by simp) _
  have hI1 : I 0 W1 := hI _ _ _ h0 hb1
  have hs1 : W1.heap.size = w.heap.size + 2 := by rw [← hW1]; simp
  refine ⟨w.heap.size + 1, [{ target := .collected w.heap.size, args := #[] }], W1, { target := .fn (.func gf) lb, args := #[.func (.yield (w.heap.size + 1)) #[] #[]] }, W1, gf,
    #[.func (.yield (w.heap.size + 1)) #[] #[]] ++ lb, W1, ?_, ?_, ?_, ?_, fun _ => h1, ?_⟩
  · rw [← hW1, hrec]; exact run_enterLoop_outer _ _ _ _ _
  · simp only [resolve, hg]
    simp [go_sem]
  · intro f' hf'; simp [Target.leads] at hf'; subst hf'; exact hFg
  · simp [invoke, go_sem, eg]
  · refine (hseq (w.heap.size + 1)
      (fun i W => I i W ∧ W.heap[w.heap.size + 1]? = some (.loop (rec .ready none)) ∧ W.heap[w.heap.size]? = some (.deferred (some [])))
      (fun i W => ∃ c, i ≤ xs.length ∧ Ix c i W ∧ W.heap[w.heap.size + 1]? = some (.loop (rec .done (some c))) ∧ W.heap[w.heap.size]? = some (.deferred (some [])))
      (fun k => E k ∨ k = w.heap.size + 1) W1 hb1 (fun k hk => hk.imp id fun e => ⟨by omega, by omega⟩)
      (fun i A B hs hg' => ⟨hI i A B hs.1 (hg'.mono (by omega)), (hg'.block _ (by omega)).trans hs.2.1, (hg'.block _ (by omega)).trans hs.2.2⟩)
      (fun i A B hs hg' => by
        obtain ⟨c, hle, hc, hl, hk⟩ := hs
        exact ⟨c, hle, hIx c i A B hc (hg'.mono (by omega)), (hg'.block _ (by omega)).trans hl, (hg'.block _ (by omega)).trans hk⟩)
      ?_ ⟨hI1, hL1, hK1⟩).mono ?_
    · -- one round
      rintro i x v W hx hok ⟨hi, hl, hk⟩
      have hlt : w.heap.size + 1 < W.heap.size := (Array.getElem?_eq_some_iff.1 hl).1
      have hy := run_yield (P := P) (args := v) hl (by rw [hrec]; exact hps x v hok)
      rw [hrec] at hy
      have hilen : i + 1 ≤ xs.length := (List.getElem?_eq_some_iff.1 hx).1
      refine ⟨fn, _, assign, body, hy, roundIn_of_wpIn hfn (hassign _ x v W _ hok hlt fun a₁ W' ha₁ hbW => ⟨_, run_beginRound ((hbW.block _ hlt).trans hl) (by rw [hrec]), ?_⟩)⟩
      have hl' := (hbW.block _ hlt).trans hl
      have hk' := (hbW.block w.heap.size (by omega)).trans hk
      have hlt' : w.heap.size + 1 < W'.heap.size := Nat.lt_of_lt_of_le hlt hbW.size
      have bW : But (fun k => E k ∨ k = w.heap.size + 1) W W' := But.below hbW
      replace hi : I i W' := hI i _ _ hi (hbW.mono (by omega))
      have hl2 : (W'.putObj (w.heap.size + 1) (.loop { rec .ready none with state := .busy })).heap[w.heap.size + 1]? = some (.loop { rec .ready none with state := .busy }) := World.putObj_heap_same hlt'
      have hk2 : (W'.putObj (w.heap.size + 1) (.loop { rec .ready none with state := .busy })).heap[w.heap.size]? = some (.deferred (some [])) := (World.putObj_heap_other (by omega)).trans hk'
      refine wpIn_mono (hbody _ i x a₁ _ hx (hI i _ _ hi (below_put W' _ _ (by omega))) (by simp [World.putObj]; omega) (hAx _ _ _ _ ha₁ fun k hk => World.putObj_heap_other (by omega))) ?_
      have fin : ∀ (jump : Option Code) (W3 : World), But E (W'.putObj (w.heap.size + 1) (.loop { rec .ready none with state := .busy })) W3 →
          (Instr.endRound (w.heap.size + 1) jump).run P W3 = .ok (.bool jump.isNone) (W3.putObj (w.heap.size + 1) (.loop (rec (if jump.isNone then .ready else .done) jump))) ∧
          (W3.putObj (w.heap.size + 1) (.loop (rec (if jump.isNone then .ready else .done) jump))).heap[w.heap.size + 1]? = some (.loop (rec (if jump.isNone then .ready else .done) jump)) ∧
          (W3.putObj (w.heap.size + 1) (.loop (rec (if jump.isNone then .ready else .done) jump))).heap[w.heap.size]? = some (.deferred (some [])) := fun jump W3 hk3 => by
        have hl3 := (hk3.block (w.heap.size + 1) (by simpa [World.putObj] using hlt') (fun he => by have := hE _ he; omega)).trans hl2
        have hd3 := (hk3.block w.heap.size (by simp [World.putObj]; omega) (fun he => by have := hE _ he; omega)).trans hk2
        have := run_endRound (P := P) jump hl3
        rw [hrec] at this ⊢
        exact ⟨this, World.putObj_heap_same (Array.getElem?_eq_some_iff.1 hl3).1, (World.putObj_heap_other (by omega)).trans hd3⟩
      have bw : But (fun k => E k ∨ k = w.heap.size + 1) W (W'.putObj (w.heap.size + 1) (.loop { rec .ready none with state := .busy })) := bW.trans (But.put _ _ _ (.inr rfl))
      rintro e a3 W3 hp
      cases e with
      | normal =>
        obtain ⟨hk3, hgx, hi3⟩ := hp
        obtain ⟨hr, hl4, hk4⟩ := fin none W3 hk3
        exact ⟨_, _, hr, .inl ⟨rfl, hgx, ⟨hI _ _ _ hi3 (below_put W3 _ _ (by omega)), hl4, hk4⟩, (bw.trans (hk3.wide fun k hk => .inl hk)).trans (But.put _ _ _ (.inr rfl))⟩⟩
      | ret =>
        obtain ⟨hk3, hi3⟩ := hp
        obtain ⟨hr, hl4, hk4⟩ := fin (some .ret) W3 hk3
        exact ⟨_, _, hr, .inr ⟨rfl, .ret, hilen, hIx _ _ _ _ hi3 (below_put W3 _ _ (by omega)), hl4, hk4⟩⟩
      | exit id =>
        obtain ⟨hk3, hi3⟩ := hp
        obtain ⟨hr, hl4, hk4⟩ := fin (some (.exit id)) W3 hk3
        exact ⟨_, _, hr, .inr ⟨rfl, .exit id, hilen, hIx _ _ _ _ hi3 (below_put W3 _ _ (by omega)), hl4, hk4⟩⟩
      | goto t =>
        obtain ⟨hk3, hi3⟩ := hp
        obtain ⟨hr, hl4, hk4⟩ := fin (some (.goto t)) W3 hk3
        exact ⟨_, _, hr, .inr ⟨rfl, .goto t, hilen, hIx _ _ _ _ hi3 (below_put W3 _ _ (by omega)), hl4, hk4⟩⟩
      | panic ch => exact hp.elim
      | outgrown => exact hp.elim
    · -- behind the iterator
      rintro e W2 ⟨⟨v, rfl⟩, (⟨hi, hl, hk⟩ | ⟨i, hile, c, hile', hi, hl, hk⟩)⟩
      · exact ⟨none, _, by have := run_endLoop (P := P) hl (by rw [hrec]; simp); rw [hrec] at this; exact this, hdone _ _ (Nat.le_refl _) (hI _ _ _ hi (below_put W2 _ _ (by omega))) ((World.putObj_heap_other (by omega)).trans hk)⟩
      · exact ⟨some c, _, by have := run_endLoop (P := P) hl (by rw [hrec]; simp); rw [hrec] at this; exact this, hstop _ c i _ (Nat.le_refl _) hile (hIx _ _ _ _ hi (below_put W2 _ _ (by omega))) ((World.putObj_heap_other (by omega)).trans hk)⟩
end Go.Proofs.Ytgihklohhjhjbaa
