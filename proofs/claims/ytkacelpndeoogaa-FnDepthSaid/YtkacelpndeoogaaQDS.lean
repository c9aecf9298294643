/- Joined texts: DrawKids. -/
import Derived.Test.YtkacelpndeoogaaQDR
/- Drawing the Kids of an expression. -/
namespace Go.Proofs.Ytkacelpndeoogaa
open Go.RowKit

/- one element more in a row of the own of the draw -/
set_option maxRecDepth 100000 in
theorem appT {ops : Array Oper} {rest : List Oper} {o : Oper} {a : Act} {Q : Exit → Act → World → Prop}
    (hgd : o.guard = none) (s x : Operand) (ho : o.op = .call { callee := .builtin .append, args := #[s, x], argTypes := #[26, 26] })
    (L : Nat) (c : Cu) (τ0 τ : Tau) (W0 W : World) (v : Value) (n : Nat) (xs ys : List Value) (l : List Nat) (N nb : Nat) (hnb : W.heap.size = nb) (hs : a.eval s = v) (hx : a.eval x = .slice (some ⟨nb, 0, none⟩) 1 1)
    (H : DS L c τ0 τ W0 W) (hown : W.ownsRow W0.heap.size 29 10 v n xs) (hrows : RowsOk τ 1000 .exprs xs l) (hfree : ∀ g, v.ownBlock = some g → τ g = none) (hy : GoodRow τ 1000 .exprs ys N) (hone : ∀ u ∈ ys, u.oneCell' = true) (hn : n ≤ 1000)
    (h : ∀ (v' : Value) (w' : World), w'.ownsRow W0.heap.size 29 10 v' (n + 1) (xs ++ ys) → RowsOk τ 1000 .exprs (xs ++ ys) (l ++ [N]) → (∀ g, v'.ownBlock = some g → τ g = none) → DS L c τ0 τ W0 w' → (∀ k, k < W.heap.size → v.ownBlock ≠ some k → w'.heap[k]? = W.heap[k]?) → wpList Try.prog ops Q rest (a.put o.dst v') w') :
    wpList Try.prog ops Q (o :: rest) a (W.alloc (.cells ys.toArray 29)) := by
  subst hnb
  obtain ⟨i, hi, hz, hsize, hby⟩ := info_parts Try.infoEx
  have hrow := heap_alloc_new W (.cells ys.toArray 29)
  have hl : ys.length = 10 := hy.len
  refine wpList_append_own_at _ hgd s x 26 ho W0.heap.size 29 i _ 10 136 Try.underlying26 hi hz hsize hby rfl (by decide) v n xs hs (World.ownsRow.alloc hown _) ⟨W.heap.size, 0, none⟩ 1 1 ys hx (by rw [hl]) (fun j u hj => ?_) hone (by unfold maxLen; omega) (by omega) (by have := H.size; simp; omega) ?_
  · have hp : (⟨W.heap.size, 0, none⟩ : Addr).add j = ⟨W.heap.size, j, none⟩ := by unfold Addr.add; split <;> simp_all
    rw [hp, cell_of_row _ W.heap.size j _ 29 (0, 0) hrow]
    simpa using hj
  · intro v' w' hown' hgr hnil hat
    have H1 := H.alloc (.cells ys.toArray 29)
    have hlow : ∀ b, v.ownBlock = some b → W0.heap.size ≤ b := fun b hb => (World.ownsRow.lt hown b hb).1
    refine h v' w' hown' (hrows.snoc hy) (fun g hg => ?_) (H1.own hgr fun b hb => ⟨hlow b hb, hfree b hb⟩) (fun k hk hne => (hgr.block k (by simp; omega) (fun e => hne e.symm)).trans (Below.heap_alloc _ _ _ hk))
    rcases hat with e | e
    · exact hfree g (e.symm.trans hg)
    · rw [e] at hg
      injection hg with hg
      exact H1.inv.fresh (by omega)
def ExprD (d : Nat) : Prop := ∀ (L : Nat) (c : Cu) (τ : Tau) (W : World), DS L c τ τ W W → Calls Try.prog 85 #[.pointer (some ⟨c.C, 0, none⟩), .int .i64 (d : Int)] W (RowD .exprs (We d) L c τ W)
def KidsD (d n : Nat) : Prop := ∀ (L : Nat) (c : Cu) (τ : Tau) (W : World), DS L c τ τ W W → Calls Try.prog 151 #[.pointer (some ⟨c.C, 0, none⟩), .int .i64 ((d : Int) + 1), .int .i64 (n : Int)] W (SlD .exprs n (n * We d) L c τ W)
theorem GoodRow.tenS {τ : Tau} {S : Nat} {ys : List Value} {N : Nat} (h : GoodRow τ S .exprs ys N) : ∃ (c0 c1 : Int) (c2 : Bool) (c3 c4 : Int) (c5 c6 c7 : ByteArray) (a8 : Option Addr) (n8 p8 : Nat) (a9 : Option Addr) (n9 p9 : Nat), ys = [.int .i64 c0, .int .i64 c1, .bool c2, .int .i64 c3, .int .i64 c4, .string c5, .string c6, .string c7, .slice a8 n8 p8, .slice a9 n9 p9] := by
  obtain ⟨c0, c1, c2, c3, c4, c5, c6, c7, x8, x9, rfl, -, -, -, -, -, -, -, g8, g9, -⟩ := h.ten
  obtain ⟨a8, n8, p8, rfl⟩ := g8.slice rfl
  obtain ⟨a9, n9, p9, rfl⟩ := g9.slice rfl
  exact ⟨c0, c1, c2, c3, c4, c5, c6, c7, a8, n8, p8, a9, n9, p9, rfl⟩
theorem GoodRow.ones {τ : Tau} {S : Nat} {ys : List Value} {N : Nat} (h : GoodRow τ S .exprs ys N) : ∀ u ∈ ys, u.oneCell' = true := by
  obtain ⟨c0, c1, c2, c3, c4, c5, c6, c7, x8, x9, rfl, -, -, -, -, -, -, -, g8, g9, -⟩ := h.ten
  obtain ⟨a8, n8, p8, rfl⟩ := g8.slice rfl
  obtain ⟨a9, n9, p9, rfl⟩ := g9.slice rfl
  intro u hu
  simp only [List.mem_cons, List.not_mem_nil, or_false] at hu
  rcases hu with rfl | rfl | rfl | rfl | rfl | rfl | rfl | rfl | rfl | rfl <;> rfl
set_option maxRecDepth 100000 in
set_option maxHeartbeats 8000000 in
theorem kids_step (d n : Nat) (hd : d ≤ 100) (hn : 1 ≤ n) (hn3 : n ≤ 4) (IH : ExprD d) : KidsD d n := by
  intro L c τ W H
  have hrow0 := heap_alloc_new W (.cells #[] 29)
  have H0 := H.alloc (.cells #[] 29)
  have hf0 : τ W.heap.size = none := H.inv.fresh (Nat.le_refl _)
  go_enter Try.func151, Try.ntmps151
  go_wp2_with fail
  generalize W.alloc (.cells #[] 29) = W1 at hrow0 H0 ⊢
  go_loopw [7, 8] (fun v i wr => ∃ (j : Nat) (τj : Tau) (xs : List Value) (l : List Nat), j ≤ n ∧ i = .int .i64 (j : Int) ∧ wr.ownsRow W.heap.size 29 10 v j xs ∧ RowsOk τj 1000 .exprs xs l ∧ l.length = j ∧ l.sum ≤ j * We d ∧ DS L c τ τj W wr ∧ (∀ g, v.ownBlock = some g → τj g = none)) (fun _ i _ => n - (intOf i).toNat)
  case atStart =>
    exact ⟨0, τ, [], [], Nat.zero_le _, rfl, ⟨rfl, .inr ⟨W.heap.size, 0, #[], rfl, Nat.le_refl _, hrow0, Nat.le_refl _, by unfold maxLen; omega, rfl, rfl⟩⟩, RowsOk.nil _ _ _, rfl, Nat.zero_le _, H0, fun g hg => by injection hg with hg; rw [← hg]; exact hf0⟩
  case round =>
    obtain ⟨j, τj, xs, l, hj, rfl, hown, hrows, hll, hls, HS, hfree⟩ := hrel
    by_cases hlt : j < n
    · have hlt2 : (j : Int) < (n : Int) := by omega
      have hE := IH L c τj wr HS.here
      clear H0 hrow0 hf0
      go_wp2_with fail
      refine hE.mono ?_
      rintro e W2 ⟨τ', ys, rfl, hy, K⟩
      have H2 := HS.call K
      have hown2 : W2.ownsRow W.heap.size 29 10 u7 j xs := World.ownsRow.kept hown K.grown (by
        rcases h : u7.ownBlock with _ | k
        · exact .inl rfl
        · refine .inr fun e => ?_
          have h1 := (World.ownsRow.lt hown k h).1
          have h2 := H.ltC
          injection e with e
          omega)
      have hfree2 : ∀ g, u7.ownBlock = some g → τ' g = none := fun g hg => (K.same g (World.ownsRow.lt hown g hg).2).trans (hfree g hg)
      have hrows2 := hrows.le K.le
      have hone := hy.ones
      clear hown hfree hrows K HS hE
      obtain ⟨c0, c1, c2, c3, c4, c5, c6, c7, a8, n8, p8, a9, n9, p9, rfl⟩ := hy.tenS
      have hs2 : (l ++ [We d]).sum ≤ (j + 1) * We d := by rw [List.sum_append, Nat.add_mul, Nat.one_mul]; simp; omega
      go_wp2_with (at_builtin; refine appT rfl (.tmp 15) (.tmp 20) rfl L c τ τ' W W2 u7 j xs [.int .i64 c0, .int .i64 c1, .bool c2, .int .i64 c3, .int .i64 c4, .string c5, .string c6, .string c7, .slice a8 n8 p8, .slice a9 n9 p9] l (We d) W2.heap.size rfl rfl rfl H2 hown2 hrows2 hfree2 hy hone (by omega) ?_; intro v' w' hown3 hrows3 hfree3 H3 _)
      go_roundw
      case rel => exact ⟨j + 1, τ', _, _, by omega, by go_num, hown3, hrows3, by simp [hll], hs2, H3, hfree3⟩
      case measure => simp [intOf]; omega
    · obtain rfl : n = j := by omega
      obtain ⟨τ', hinv, hle, hsame, hoth, hgood, hw⟩ := HS.inv.adoptOwn (ty := .exprs) rfl H.hi hown hll.symm hrows (fun g _ _ hg => hfree g hg)
      obtain ⟨g, cp, rfl⟩ : ∃ g cp, u7 = .slice (some ⟨g, 0, none⟩) n cp := by
        rcases hown.2 with ⟨_, h0⟩ | ⟨g, cp, _, e, _⟩
        · omega
        · exact ⟨g, cp, e⟩
      clear H0 hrow0 hf0
      go_wp2_with fail
      go_ret
      exact ⟨τ', g, cp, rfl, hgood, Nat.le_trans hw hls, ⟨HS.cur, hinv, HS.grown, HS.le.trans hle, fun k hk => (hsame k hk).trans (HS.same k hk), HS.lo, HS.hi⟩⟩
end Go.Proofs.Ytkacelpndeoogaa
