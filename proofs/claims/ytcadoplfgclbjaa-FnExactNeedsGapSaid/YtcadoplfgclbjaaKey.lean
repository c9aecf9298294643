
/- Contracts of the map of keywords and of Fold, program and model. -/
import Derived.Test.YtcadoplfgclbjaaBase
import Derived.Test.YtcadoplfgclbjaaOwn
import Derived.Test.YtcadoplfgclbjaaKeyMath
namespace Go.Proofs.Ytcadoplfgclbjaa
open Go.RowKit Go.Maps

/-- a store of the map's making, which cannot fail -/
theorem wpList_insert_own {H : Type} {P : Program} (w : World) {ops : Array Oper} {rest : List Oper} {o : Oper} {a : Act} {Q : Exit → Act → World → Prop}
    (hg : o.guard = none) (m x v : Operand) (t : TypeId) (hop : o.op = Op.insert t m x v)
    (k e : TypeId) (K : Keyed P k) (ht : P.underlying t = some (.map k e)) (R : Value → Option (DataW H × List MemPlace)) (b n : Nat) (D : DataW H)
    (hm : a.eval m = .map (some b)) (hown : w.ownsMap P k R b n D) (hn : n < maxLen) (key val : Value) (kl : Lit) (hx : a.eval x = key) (hv : a.eval v = val) (hkey : keyOf P k key = some kl)
    (d : DataW H) (ps : List MemPlace) (hval : R val = some (d, ps))
    (hK : ∀ w', w'.ownsMap P k R b (n + 1) (D.put kl d) → w.grownBy w' (some b) → wpList P ops Q rest (a.put o.dst undef) w') :
    wpList P ops Q (o :: rest) a w := by
  refine wpList_plain hg fun K' hK' => ?_
  obtain ⟨w', hrun, r1, r2⟩ := hown.update K ht hn hkey hval
  unfold Oper.wp
  simp [execOp, hop, hm, hx, hv, hrun, Result.andThen]
  exact hK' _ _ (hK w' r1 r2)

theorem lawS : Keyed Try.prog 9 := string_keyed Try.underlying9
theorem zeroI (w : World) : (zeroValue 3).run Try.prog w = .ok (.int .i64 0) w := by kernel_rfl

/-- block b is the map of the first k keywords -/
def KwAt (w0 : World) (b k : Nat) (w : World) : Prop := w.ownsMap Try.prog 9 (plainElem Try.prog 3) b k (kwD k) ∧ w0.grownBy w (some b)
theorem wpList_kw {w0 w : World} {ops : Array Oper} {rest : List Oper} {o : Oper} {a : Act} {Q : Exit → Act → World → Prop} (k b : Nat) (hk : k < 28) (m : Operand)
    (hg : o.guard = none) (hop : o.op = Op.insert 44 m (.const (.string (wordB (k + 1)))) (.const (.int .i64 ((k + 1 : Nat) : Int)))) (hm : a.eval m = .map (some b)) (h : KwAt w0 b k w)
    (hK : ∀ w', KwAt w0 b (k + 1) w' → wpList Try.prog ops Q rest (a.put o.dst undef) w') : wpList Try.prog ops Q (o :: rest) a w := by
  have hl : (wordB (k + 1)).size ≤ maxLen := by
    have := word_len (k := k + 1) (by omega)
    show (word (k + 1)).length ≤ maxLen
    unfold maxLen; omega
  refine wpList_insert_own w hg m _ _ 44 hop 9 3 lawS Try.underlying44 _ b k (kwD k) hm h.1 (by unfold maxLen; omega) _ _ (.string (word (k + 1))) rfl rfl (Go.WideMaps.keyOf_string_mk Try.underlying9 hl) (.lit (.int .i64 ((k + 1 : Nat) : Int))) [] (plainElem_int Try.underlying3 (WalkArith.wf_i64 (by omega))) ?_
  intro w' h1 h2
  exact hK w' ⟨h1, h.2.trans h2⟩

set_option maxRecDepth 100000 in
set_option maxHeartbeats 1200000 in
theorem keywords_impl (w : World) :
    Calls Try.prog 33 #[] w fun e w' => e = .returned (.map (some w.heap.size)) ∧ w'.ownsMap Try.prog 9 (plainElem Try.prog 3) w.heap.size 28 (kwD 28) ∧ Below w.heap.size w w' := by
  have hmm := @run_makeMap Try.prog
  have h0 : KwAt (w.alloc (.map #[] 0)) w.heap.size 0 (w.alloc (.map #[] 0)) := ⟨World.ownsMap_made _ _ _ _, ⟨rfl, rfl, rfl, Nat.le_refl _, fun _ _ _ => rfl⟩⟩
  go_enter Try.func33, Try.ntmps33
  go_wp2_with (refine wpList_kw 0 w.heap.size (by omega) (.tmp 1) rfl rfl rfl h0 ?_; intro w1 h1; refine wpList_kw 1 w.heap.size (by omega) (.tmp 1) rfl rfl rfl h1 ?_; intro w2 h2; refine wpList_kw 2 w.heap.size (by omega) (.tmp 1) rfl rfl rfl h2 ?_; intro w3 h3; refine wpList_kw 3 w.heap.size (by omega) (.tmp 1) rfl rfl rfl h3 ?_; intro w4 h4; refine wpList_kw 4 w.heap.size (by omega) (.tmp 1) rfl rfl rfl h4 ?_; intro w5 h5; refine wpList_kw 5 w.heap.size (by omega) (.tmp 1) rfl rfl rfl h5 ?_; intro w6 h6; refine wpList_kw 6 w.heap.size (by omega) (.tmp 1) rfl rfl rfl h6 ?_; intro w7 h7; refine wpList_kw 7 w.heap.size (by omega) (.tmp 1) rfl rfl rfl h7 ?_; intro w8 h8; refine wpList_kw 8 w.heap.size (by omega) (.tmp 1) rfl rfl rfl h8 ?_; intro w9 h9; refine wpList_kw 9 w.heap.size (by omega) (.tmp 1) rfl rfl rfl h9 ?_; intro w10 h10; refine wpList_kw 10 w.heap.size (by omega) (.tmp 1) rfl rfl rfl h10 ?_; intro w11 h11; refine wpList_kw 11 w.heap.size (by omega) (.tmp 1) rfl rfl rfl h11 ?_; intro w12 h12; refine wpList_kw 12 w.heap.size (by omega) (.tmp 1) rfl rfl rfl h12 ?_; intro w13 h13; refine wpList_kw 13 w.heap.size (by omega) (.tmp 1) rfl rfl rfl h13 ?_; intro w14 h14; refine wpList_kw 14 w.heap.size (by omega) (.tmp 1) rfl rfl rfl h14 ?_; intro w15 h15; refine wpList_kw 15 w.heap.size (by omega) (.tmp 1) rfl rfl rfl h15 ?_; intro w16 h16; refine wpList_kw 16 w.heap.size (by omega) (.tmp 1) rfl rfl rfl h16 ?_; intro w17 h17; refine wpList_kw 17 w.heap.size (by omega) (.tmp 1) rfl rfl rfl h17 ?_; intro w18 h18; refine wpList_kw 18 w.heap.size (by omega) (.tmp 1) rfl rfl rfl h18 ?_; intro w19 h19; refine wpList_kw 19 w.heap.size (by omega) (.tmp 1) rfl rfl rfl h19 ?_; intro w20 h20; refine wpList_kw 20 w.heap.size (by omega) (.tmp 1) rfl rfl rfl h20 ?_; intro w21 h21; refine wpList_kw 21 w.heap.size (by omega) (.tmp 1) rfl rfl rfl h21 ?_; intro w22 h22; refine wpList_kw 22 w.heap.size (by omega) (.tmp 1) rfl rfl rfl h22 ?_; intro w23 h23; refine wpList_kw 23 w.heap.size (by omega) (.tmp 1) rfl rfl rfl h23 ?_; intro w24 h24; refine wpList_kw 24 w.heap.size (by omega) (.tmp 1) rfl rfl rfl h24 ?_; intro w25 h25; refine wpList_kw 25 w.heap.size (by omega) (.tmp 1) rfl rfl rfl h25 ?_; intro w26 h26; refine wpList_kw 26 w.heap.size (by omega) (.tmp 1) rfl rfl rfl h26 ?_; intro w27 h27; refine wpList_kw 27 w.heap.size (by omega) (.tmp 1) rfl rfl rfl h27 ?_; intro w28 h28)
  go_ret
  exact ⟨rfl, h28.1, ((Below.refl _ _).alloc (Nat.le_refl _) _).grown h28.2 (by simp) (fun j hj => by cases hj; exact Nat.le_refl _)⟩
end Go.Proofs.Ytcadoplfgclbjaa
