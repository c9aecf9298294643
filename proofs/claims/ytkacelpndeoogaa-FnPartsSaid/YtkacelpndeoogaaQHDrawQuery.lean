/- Joined texts: DrawQuery. -/
import Derived.Test.YtkacelpndeoogaaQPN
import Derived.Deep.RegionLaw
import Derived.Lib.AppendZeros
/- Drawing queries. -/
namespace Go.Proofs.Ytkacelpndeoogaa
open Go.RowKit
attribute [local go_sem ↓] execOp_ldE execOp_stE execOp_ldQ execOp_stQ execOp_ldI execOp_stI execOp_ldS execOp_stS

theorem DS.setOwn {L : Nat} {c : Cu} {τ0 τ : Tau} {W0 W : World} {b : Nat} {T : TypeId} {arr : Array Value} (H : DS L c τ0 τ W0 W) (R : Bx τ W0 W b T arr) (i : Nat) (v : Value) : DS L c τ0 τ W0 (W.setCell ⟨b, i, none⟩ v) :=
  H.own (grown_set W b i v) fun k e => by injection e with e; subst e; exact ⟨R.hi, R.free⟩
theorem Bx.set {τ : Tau} {W0 W : World} {b : Nat} {T : TypeId} {arr : Array Value} (R : Bx τ W0 W b T arr) (i : Nat) (v : Value) : Bx τ W0 (W.setCell ⟨b, i, none⟩ v) b T (arr.setIfInBounds i v) := ⟨R.row.set i v, R.free, R.hi⟩
theorem Bx.other {τ : Tau} {W0 W : World} {b b' : Nat} {T : TypeId} {arr : Array Value} (R : Bx τ W0 W b T arr) (i : Nat) (v : Value) (h : b ≠ b') : Bx τ W0 (W.setCell ⟨b', i, none⟩ v) b T arr := ⟨R.row.other h, R.free, R.hi⟩
theorem Bx.at' {τ : Tau} {W0 W W' : World} {b : Nat} {T : TypeId} {arr : Array Value} (R : Bx τ W0 W b T arr) (h : W'.heap[b]? = W.heap[b]?) : Bx τ W0 W' b T arr := ⟨h.trans R.row, R.free, R.hi⟩
theorem Bx.tau {τ τ' : Tau} {W0 W : World} {b : Nat} {T : TypeId} {arr : Array Value} (R : Bx τ W0 W b T arr) (h : τ' b = τ b) : Bx τ' W0 W b T arr := ⟨R.row, h.trans R.free, R.hi⟩
theorem own_turn {W W' : World} {Bq : Nat} {T : TypeId} {k n : Nat} {v : Value} {xs : List Value} {r : Option Nat} (h : W.ownsRow Bq T k v n xs) (g : W.grownBy W' r) (hr : ∀ b, r = some b → b < Bq) : W'.ownsRow Bq T k v n xs :=
  World.ownsRow.kept h g (by
    rcases e : v.ownBlock with _ | b
    · exact .inl rfl
    · refine .inr fun e' => ?_
      have h1 := (World.ownsRow.lt h b e).1
      have h2 := hr b e'.symm
      omega)
theorem own_not {W : World} {Bq b : Nat} {T : TypeId} {k n : Nat} {v : Value} {xs : List Value} (h : W.ownsRow Bq T k v n xs) (hb : b < Bq) : v.ownBlock ≠ some b := fun e => by
  have := (World.ownsRow.lt h b e).1
  omega
theorem own_slice {w : World} {B T sz k : Nat} {v : Value} {xs : List Value} (h : w.ownsRow B T sz v (k + 1) xs) : ∃ a cap, v = .slice a (k + 1) cap := by
  obtain ⟨g, cap, rfl⟩ := slice_of_owns h
  exact ⟨_, _, rfl⟩
set_option maxRecDepth 100000 in
theorem runTI (tr : TypeId) (L : Nat) (c : Cu) (τ0 τ : Tau) (W0 W : World) (Bq : Nat) (hB0 : W0.heap.size ≤ Bq) (hB1 : Bq ≤ W.heap.size) (v : Value) (n : Nat) (xs ys : List Value) (l : List Nat) (N : Nat)
    (H : DS L c τ0 τ W0 W) (hown : W.ownsRow Bq 126 13 v n xs) (hrows : RowsOk τ 1000 .items xs l) (hfree : ∀ g, v.ownBlock = some g → τ g = none) (hy : GoodRow τ 1000 .items ys N) (hone : ∀ u ∈ ys, u.oneCell' = true) (hn : n ≤ 1000) :
    ∃ (g cp : Nat) (w' : World), (Builtin.append_ #[34, 34] tr #[v, .slice (some ⟨W.heap.size, 0, none⟩) 1 1]).run Try.prog (W.alloc (.cells ys.toArray 126)) = .ok (.slice (some ⟨g, 0, none⟩) (n + 1) cp) w' ∧ w'.ownsRow Bq 126 13 (.slice (some ⟨g, 0, none⟩) (n + 1) cp) (n + 1) (xs ++ ys) ∧ RowsOk τ 1000 .items (xs ++ ys) (l ++ [N]) ∧ τ g = none ∧ DS L c τ0 τ W0 w' ∧ (∀ k, k < W.heap.size → v.ownBlock ≠ some k → w'.heap[k]? = W.heap[k]?) := by
  obtain ⟨i, hi, hz, hsize, hby⟩ := info_parts Try.infoTI
  have hrow := heap_alloc_new W (.cells ys.toArray 126)
  have hl : ys.length = 13 := hy.len
  obtain ⟨v', w', hr, hown', hgr, hnil, hat⟩ := run_append_own_at (P := Try.prog) (W.alloc (.cells ys.toArray 126)) Bq 34 tr 126 i _ 13 176 Try.underlying34 hi hz hsize hby rfl (by decide) v n xs (World.ownsRow.alloc hown _) ⟨W.heap.size, 0, none⟩ 1 1 ys (by rw [hl]) (fun j u hj => by
    have hp : (⟨W.heap.size, 0, none⟩ : Addr).add j = ⟨W.heap.size, j, none⟩ := by unfold Addr.add; split <;> simp_all
    rw [hp, cell_of_row _ W.heap.size j _ 126 (0, 0) hrow]
    simpa using hj) hone (by unfold maxLen; omega) (by omega) (by simp; omega)
  obtain ⟨g, cp, rfl⟩ := slice_of_owns hown'
  have H1 := H.alloc (.cells ys.toArray 126)
  have hlow : ∀ b, v.ownBlock = some b → W0.heap.size ≤ b := fun b hb => Nat.le_trans hB0 (World.ownsRow.lt hown b hb).1
  refine ⟨g, cp, w', hr, hown', hrows.snoc hy, ?_, H1.own hgr (fun b hb => ⟨hlow b hb, hfree b hb⟩), fun k hk hne => (hgr.block k (by simp; omega) (fun e => hne e.symm)).trans (Below.heap_alloc _ _ _ hk)⟩
  rcases hat with e | e
  · exact hfree g (e.symm.trans rfl)
  · have e2 : g = (W.alloc (.cells ys.toArray 126)).heap.size := by simpa [Value.ownBlock] using e
    exact H1.inv.fresh (Nat.le_of_eq e2.symm)
set_option maxRecDepth 100000 in
theorem runTK (tr : TypeId) (L : Nat) (c : Cu) (τ0 τ : Tau) (W0 W : World) (Bq : Nat) (hB0 : W0.heap.size ≤ Bq) (hB1 : Bq ≤ W.heap.size) (v : Value) (n : Nat) (xs ys : List Value) (l : List Nat) (N : Nat)
    (H : DS L c τ0 τ W0 W) (hown : W.ownsRow Bq 198 11 v n xs) (hrows : RowsOk τ 1000 .keys xs l) (hfree : ∀ g, v.ownBlock = some g → τ g = none) (hy : GoodRow τ 1000 .keys ys N) (hone : ∀ u ∈ ys, u.oneCell' = true) (hn : n ≤ 1000) :
    ∃ (g cp : Nat) (w' : World), (Builtin.append_ #[36, 36] tr #[v, .slice (some ⟨W.heap.size, 0, none⟩) 1 1]).run Try.prog (W.alloc (.cells ys.toArray 198)) = .ok (.slice (some ⟨g, 0, none⟩) (n + 1) cp) w' ∧ w'.ownsRow Bq 198 11 (.slice (some ⟨g, 0, none⟩) (n + 1) cp) (n + 1) (xs ++ ys) ∧ RowsOk τ 1000 .keys (xs ++ ys) (l ++ [N]) ∧ τ g = none ∧ DS L c τ0 τ W0 w' ∧ (∀ k, k < W.heap.size → v.ownBlock ≠ some k → w'.heap[k]? = W.heap[k]?) := by
  obtain ⟨i, hi, hz, hsize, hby⟩ := info_parts Try.infoTK
  have hrow := heap_alloc_new W (.cells ys.toArray 198)
  have hl : ys.length = 11 := hy.len
  obtain ⟨v', w', hr, hown', hgr, hnil, hat⟩ := run_append_own_at (P := Try.prog) (W.alloc (.cells ys.toArray 198)) Bq 36 tr 198 i _ 11 144 Try.underlying36 hi hz hsize hby rfl (by decide) v n xs (World.ownsRow.alloc hown _) ⟨W.heap.size, 0, none⟩ 1 1 ys (by rw [hl]) (fun j u hj => by
    have hp : (⟨W.heap.size, 0, none⟩ : Addr).add j = ⟨W.heap.size, j, none⟩ := by unfold Addr.add; split <;> simp_all
    rw [hp, cell_of_row _ W.heap.size j _ 198 (0, 0) hrow]
    simpa using hj) hone (by unfold maxLen; omega) (by omega) (by simp; omega)
  obtain ⟨g, cp, rfl⟩ := slice_of_owns hown'
  have H1 := H.alloc (.cells ys.toArray 198)
  have hlow : ∀ b, v.ownBlock = some b → W0.heap.size ≤ b := fun b hb => Nat.le_trans hB0 (World.ownsRow.lt hown b hb).1
  refine ⟨g, cp, w', hr, hown', hrows.snoc hy, ?_, H1.own hgr (fun b hb => ⟨hlow b hb, hfree b hb⟩), fun k hk hne => (hgr.block k (by simp; omega) (fun e => hne e.symm)).trans (Below.heap_alloc _ _ _ hk)⟩
  rcases hat with e | e
  · exact hfree g (e.symm.trans rfl)
  · have e2 : g = (W.alloc (.cells ys.toArray 198)).heap.size := by simpa [Value.ownBlock] using e
    exact H1.inv.fresh (Nat.le_of_eq e2.symm)
theorem step_append_q {P : Program} {w : World} {ops : Array Oper} {o : Oper} {a : Act} {K : Act → World → Prop} {Q : Exit → Act → World → Prop} {E : Prop} (hgd : o.guard = none) (s x : Operand) (t tn : TypeId)
    (ho : o.op = .call { callee := .builtin .append, args := #[s, x], argTypes := #[t, tn] }) (vs vx : Value) (hs : a.eval s = vs) (hx : a.eval x = vx)
    (v' : Value) (w' : World) (hr : (Builtin.append_ #[t, tn] o.type #[vs, vx]).run P w = .ok v' w') (h : K (a.put o.dst v') w') :
    if Region.wanted o (yielded ops a.tmps) = true then Oper.wp P o a w K Q else E := by
  have hw : Region.wanted o (yielded ops a.tmps) = true := by simp [Region.wanted, hgd]
  rw [if_pos hw]
  exact Lib.wp_append_run w s x t tn ho vs vx hs hx v' w' hr h
set_option maxRecDepth 100000 in
set_option maxHeartbeats 16000000 in
theorem query_step (d : Nat) (hd : d ≤ 90) (IH : ExprD d) : QueryD d := by
  intro L c τ W H
  have hWC := H.ltC
  have hWe := We_pos d
  have R0 := Bx.new H 38 #[.bool false, .slice none 0 0, .slice none 0 0, .slice none 0 0, .slice none 0 0, .int .i64 0]
  replace H := H.alloc (.cells #[.bool false, .slice none 0 0, .slice none 0 0, .slice none 0 0, .slice none 0 0, .int .i64 0] 38)
  go_enter Try.func152, Try.ntmps152
  go_wp2_with fail
  generalize W.alloc (.cells #[.bool false, .slice none 0 0, .slice none 0 0, .slice none 0 0, .slice none 0 0, .int .i64 0] 38) = W1 at R0 H ⊢
  refine (once_any 4 c.B c.C c.a c.len c.cap _ H.cur (by omega) (by omega)).mono ?_
  rintro e W2 ⟨qb, rfl, hc, hg⟩
  replace R0 := R0.drawC H hg
  replace H := H.draw hc hg
  clear hc hg
  have hb01 := R0.row.lt
  have st1 := stQ_new (W := W2) (ys := [.bool qb, .slice none 0 0, .slice none 0 0, .slice none 0 0, .slice none 0 0, .int .i64 (-1)]) rfl rfl
  have R1 := Bx.new H 38 #[.bool qb, .slice none 0 0, .slice none 0 0, .slice none 0 0, .slice none 0 0, .int .i64 (-1)]
  replace R0 := R0.alloc (.cells #[.bool qb, .slice none 0 0, .slice none 0 0, .slice none 0 0, .slice none 0 0, .int .i64 (-1)] 38)
  replace H := H.alloc (.cells #[.bool qb, .slice none 0 0, .slice none 0 0, .slice none 0 0, .slice none 0 0, .int .i64 (-1)] 38)
  go_wp2_with fail
  clear st1
  generalize W2.alloc (.cells #[.bool qb, .slice none 0 0, .slice none 0 0, .slice none 0 0, .slice none 0 0, .int .i64 (-1)] 38) = W3 at R0 R1 H ⊢
  generalize W2.heap.size = b1 at R1 hb01 ⊢
  refine (below_any 2 c.B c.C c.a c.len c.cap _ H.cur (by omega) (by omega)).mono ?_
  rintro e W4 ⟨m, hm0, hm1, rfl, hc, hg⟩
  replace R0 := R0.drawC H hg
  replace R1 := R1.drawC H hg
  replace H := H.draw hc hg
  clear hc hg
  obtain ⟨k, rfl⟩ : ∃ k : Nat, m = (k : Int) := Int.eq_ofNat_of_zero_le hm0
  have hk1 : k ≤ 1 := by omega
  obtain ⟨Bq, hBq⟩ : ∃ Bq, Bq = W4.heap.size := ⟨_, rfl⟩
  have hB0 : W.heap.size ≤ Bq := by rw [hBq]; exact H.size
  have hb0q : W.heap.size < Bq := by rw [hBq]; exact R0.row.lt
  have hb1q : b1 < Bq := by rw [hBq]; exact R1.row.lt
  go_wp2_with fail
  go_loopw [7] (fun i wr => ∃ (j : Nat) (τj : Tau) (va : Option Addr) (vc : Nat) (xs : List Value) (l : List Nat), j ≤ k + 1 ∧ i = .int .i64 (j : Int) ∧ wr.ownsRow Bq 126 13 (.slice va j vc) j xs ∧ RowsOk τj 1000 .items xs l ∧ l.length = j ∧ l.sum ≤ j * We d ∧ DS L c τ τj W wr ∧ (∀ g, Value.ownBlock (.slice va j vc) = some g → τj g = none) ∧ Bq ≤ wr.heap.size ∧ Bx τj W wr W.heap.size 38 #[.bool false, .slice none 0 0, .slice none 0 0, .slice none 0 0, .slice none 0 0, .int .i64 0] ∧ Bx τj W wr b1 38 #[.bool qb, .slice va j vc, .slice none 0 0, .slice none 0 0, .slice none 0 0, .int .i64 (-1)]) (fun i _ => k + 1 - (intOf i).toNat)
  case atStart => exact ⟨0, τ, none, 0, [], [], Nat.zero_le _, rfl, ⟨rfl, .inl ⟨rfl, rfl⟩⟩, RowsOk.nil _ _ _, rfl, Nat.zero_le _, H, (fun g hg => by cases hg), by omega, R0, R1⟩
  case round =>
    obtain ⟨j, τj, va, vc, xs, l, hj, rfl, hown, hrows, hll, hls, H, hfree, hsz, R0, R1⟩ := hrel
    clear hBq
    by_cases hlt : j < k + 1
    · have hlt2 : (j : Int) < 1 + (k : Int) := by omega
      go_wp2_with fail
      refine (below_any 5 c.B c.C c.a c.len c.cap _ H.cur (by omega) (by omega)).mono ?_
      rintro e W5 ⟨x, hx0, hx1, rfl, hc, hg⟩
      replace R0 := R0.drawC H hg
      replace R1 := R1.drawC H hg
      replace hown := own_turn hown hg (by intro b e; injection e; omega)
      replace hsz := Nat.le_trans hsz hg.size
      replace H := H.draw hc hg
      clear hc hg
      by_cases h0 : x = 0
      · subst h0
        have x1 := R1.row.cell (i := 1) (v := .slice va j vc) rfl
        go_wp2_with (at_builtin; refine appTI rfl (.tmp 42) (.tmp 44) rfl L c τ _ W W5 Bq hB0 hsz (.slice va j vc) j xs [.bool true, .string ⟨#[]⟩, .int .i64 0, .int .i64 0, .bool false, .int .i64 0, .int .i64 0, .string ⟨#[]⟩, .string ⟨#[]⟩, .string ⟨#[]⟩, .slice none 0 0, .slice none 0 0, .string ⟨#[]⟩] l 1 W5.heap.size rfl rfl rfl H hown hrows hfree (GoodRow.item (GoodRow.zero10 _ _) true (Nat.zero_le _) (Nat.zero_le _)) (by intro u hu; simp only [List.mem_cons, List.not_mem_nil, or_false] at hu; rcases hu with rfl | rfl | rfl | rfl | rfl | rfl | rfl | rfl | rfl | rfl | rfl | rfl | rfl <;> rfl) (by omega) ?_; intro v' w' hown3 hrows3 hfree3 H3 hk3; obtain ⟨g3, vc', rfl⟩ := slice_of_owns hown3; have R0n := R0.at' (hk3 _ R0.row.lt (own_not hown hb0q)); have R1n := R1.at' (hk3 _ R1.row.lt (own_not hown hb1q)); have y1 := R1n.row.cell (i := 1) (v := .slice va j vc) rfl; have y2 := R1n.row.soft 1)
        have H4 := H3.setOwn R1n 1 (.slice (some ⟨g3, 0, none⟩) (j + 1) vc')
        have R14 := R1n.set 1 (.slice (some ⟨g3, 0, none⟩) (j + 1) vc')
        have R04 := R0n.other 1 (.slice (some ⟨g3, 0, none⟩) (j + 1) vc') (b' := b1) (by omega)
        have hown4 := own_turn hown3 (grown_set w' b1 1 (.slice (some ⟨g3, 0, none⟩) (j + 1) vc')) (by intro b e; injection e; omega)
        have hsz4 : Bq ≤ (w'.setCell ⟨b1, 1, none⟩ (.slice (some ⟨g3, 0, none⟩) (j + 1) vc')).heap.size := by have h1 := (grown_set w' b1 1 (.slice (some ⟨g3, 0, none⟩) (j + 1) vc')).size; have h3 := World.ownsRow.lt hown3 g3 rfl; omega
        go_roundw
        case rel => exact ⟨j + 1, _, some ⟨g3, 0, none⟩, vc', _, _, by omega, by go_num, hown4, hrows3, by simp [hll], by rw [List.sum_append, Nat.add_mul, Nat.one_mul]; simp; omega, H4, hfree3, hsz4, R04, R14⟩
        case measure => simp [intOf]; omega
      have q0 : (x == 0) = false := by simpa using h0
      by_cases h1 : x = 1
      · subst h1
        have x1 := R1.row.cell (i := 1) (v := .slice va j vc) rfl
        have hb15 : b1 < W5.heap.size := R1.row.lt
        have hstr : ∀ i, i < 2 → ∃ S : ByteArray, S.size ≤ 24 ∧ (W5.drew.alloc (.cells #[.string ⟨#[116]⟩, .string ⟨#[117]⟩] 9)).cell? ⟨W5.heap.size, i, none⟩ = some (.string S) := by
          intro i hi
          have hrow := RowAt.new W5.drew 9 #[.string ⟨#[116]⟩, .string ⟨#[117]⟩]
          rcases (show i = 0 ∨ i = 1 by omega) with rfl | rfl <;> exact ⟨_, by decide, hrow.cell rfl⟩
        go_wp2_with fail
        go_region_law (first
          | (refine step_append_q rfl (.tmp 50) (.tmp 55) _ _ rfl _ _ rfl rfl _ w9 HRUN.out ?_)
          | (go_simp; go_at_call 176; refine (pick_any 24 W5.heap.size 2 c.B c.C c.a c.len c.cap _ (Cur.alloc (W := W5.drew) H.cur _) (by omega) (by omega) (by simp) (by have := H.ltC; have := H.size; omega) hstr).mono ?_; rintro e W6 ⟨s1, hs1, rfl, hc, hg⟩; have hg' : W5.grownBy W6 (some c.C) := grown_tr (grown_tr (⟨rfl, rfl, rfl, Nat.le_refl _, fun _ _ _ => rfl⟩ : W5.grownBy W5.drew (some c.C)) (grown_alloc W5.drew _ _)) hg; have R06 := R0.drawC H hg'; have R16 := R1.drawC H hg'; have hown6 := own_turn hown hg' (by intro b e; injection e; omega); have hsz6 := Nat.le_trans hsz hg'.size; have H6 := H.draw hc hg'; obtain ⟨g3, vc', w9, hrun, hown3, hrows3, hfree3, H3, hk3⟩ := runTI 34 L c τ _ W W6 Bq hB0 hsz6 (.slice va j vc) j xs [.bool true, .string s1, .int .i64 0, .int .i64 0, .bool false, .int .i64 0, .int .i64 0, .string ⟨#[]⟩, .string ⟨#[]⟩, .string ⟨#[]⟩, .slice none 0 0, .slice none 0 0, .string ⟨#[]⟩] l 1 H6 hown6 hrows hfree (GoodRow.item (GoodRow.zero10 _ _) true (by omega) (Nat.zero_le _)) (by intro u hu; simp only [List.mem_cons, List.not_mem_nil, or_false] at hu; rcases hu with rfl | rfl | rfl | rfl | rfl | rfl | rfl | rfl | rfl | rfl | rfl | rfl | rfl <;> rfl) (by omega); have HRUN := Lib.hid hrun; clear hrun; have R0n := R06.at' (hk3 _ R06.row.lt (own_not hown6 hb0q)); have R1n := R16.at' (hk3 _ R16.row.lt (own_not hown6 hb1q)); have hb16 : b1 < W6.heap.size := R16.row.lt; have x16 := R16.row.cell (i := 1) (v := .slice va j vc) rfl; have y1 := R1n.row.cell (i := 1) (v := .slice va j vc) rfl; have y2 := R1n.row.soft 1; clear hc hg hg'; go_simp))
        all_goals
          have H4 := H3.setOwn R1n 1 (.slice (some ⟨g3, 0, none⟩) (j + 1) vc')
          have R14 := R1n.set 1 (.slice (some ⟨g3, 0, none⟩) (j + 1) vc')
          have R04 := R0n.other 1 (.slice (some ⟨g3, 0, none⟩) (j + 1) vc') (b' := b1) (by omega)
          have hown4 := own_turn hown3 (grown_set w9 b1 1 (.slice (some ⟨g3, 0, none⟩) (j + 1) vc')) (by intro b e; injection e; omega)
          have hsz4 : Bq ≤ (w9.setCell ⟨b1, 1, none⟩ (.slice (some ⟨g3, 0, none⟩) (j + 1) vc')).heap.size := by have h1 := (grown_set w9 b1 1 (.slice (some ⟨g3, 0, none⟩) (j + 1) vc')).size; have h3 := World.ownsRow.lt hown3 g3 rfl; omega
          go_wp2_with fail
          go_roundw
          case rel => exact ⟨j + 1, _, some ⟨g3, 0, none⟩, vc', _, _, by omega, by go_num, hown4, hrows3, by simp [hll], by rw [List.sum_append, Nat.add_mul, Nat.one_mul]; simp; omega, H4, (fun g hg => by injection hg with hg; rw [← hg]; exact hfree3), hsz4, R04, R14⟩
          case measure => simp [intOf]; omega
      have q1 : (x == 1) = false := by simpa using h1
      go_wp2_with fail
      refine (IH L c _ _ H.here).mono ?_
      rintro e W6 ⟨τW6, es, rfl, he, K⟩
      replace R0 := R0.call H K
      replace R1 := R1.call H K
      replace hfree : ∀ g, Value.ownBlock (.slice va j vc) = some g → τW6 g = none := fun g hg => (K.same g (World.ownsRow.lt hown g hg).2).trans (hfree g hg)
      replace hown := own_turn hown K.grown (by intro b e; injection e; omega)
      replace hrows := hrows.le K.le
      replace hsz := Nat.le_trans hsz K.grown.size
      replace H := H.call K
      clear K
      obtain ⟨c0, c1, c2, c3, c4, c5, c6, c7, a8, n8, p8, a9, n9, p9, rfl⟩ := he.tenS
      have hb2 : b1 < W6.heap.size := R1.row.lt
      have hbx : ∀ b, Value.ownBlock (.slice va j vc) = some b → b ≠ W6.heap.size := fun b hb => by have := (World.ownsRow.lt hown b hb).2; omega
      have st2 := stI_new (W := W6) (ys := [.bool false, .string ⟨#[]⟩, .int .i64 c0, .int .i64 c1, .bool c2, .int .i64 c3, .int .i64 c4, .string c5, .string c6, .string c7, .slice a8 n8 p8, .slice a9 n9 p9, .string ⟨#[]⟩]) rfl rfl
      have R2 := Bx.new H 126 #[.bool false, .string ⟨#[]⟩, .int .i64 c0, .int .i64 c1, .bool c2, .int .i64 c3, .int .i64 c4, .string c5, .string c6, .string c7, .slice a8 n8 p8, .slice a9 n9 p9, .string ⟨#[]⟩]
      replace R0 := R0.alloc (.cells #[.bool false, .string ⟨#[]⟩, .int .i64 c0, .int .i64 c1, .bool c2, .int .i64 c3, .int .i64 c4, .string c5, .string c6, .string c7, .slice a8 n8 p8, .slice a9 n9 p9, .string ⟨#[]⟩] 126)
      replace R1 := R1.alloc (.cells #[.bool false, .string ⟨#[]⟩, .int .i64 c0, .int .i64 c1, .bool c2, .int .i64 c3, .int .i64 c4, .string c5, .string c6, .string c7, .slice a8 n8 p8, .slice a9 n9 p9, .string ⟨#[]⟩] 126)
      replace hown := World.ownsRow.alloc hown (.cells #[.bool false, .string ⟨#[]⟩, .int .i64 c0, .int .i64 c1, .bool c2, .int .i64 c3, .int .i64 c4, .string c5, .string c6, .string c7, .slice a8 n8 p8, .slice a9 n9 p9, .string ⟨#[]⟩] 126)
      replace hsz : Bq ≤ (W6.alloc (.cells #[.bool false, .string ⟨#[]⟩, .int .i64 c0, .int .i64 c1, .bool c2, .int .i64 c3, .int .i64 c4, .string c5, .string c6, .string c7, .slice a8 n8 p8, .slice a9 n9 p9, .string ⟨#[]⟩] 126)).heap.size := by simp; omega
      replace H := H.alloc (.cells #[.bool false, .string ⟨#[]⟩, .int .i64 c0, .int .i64 c1, .bool c2, .int .i64 c3, .int .i64 c4, .string c5, .string c6, .string c7, .slice a8 n8 p8, .slice a9 n9 p9, .string ⟨#[]⟩] 126)
      go_wp2_with fail
      clear st2
      generalize W6.alloc (.cells #[.bool false, .string ⟨#[]⟩, .int .i64 c0, .int .i64 c1, .bool c2, .int .i64 c3, .int .i64 c4, .string c5, .string c6, .string c7, .slice a8 n8 p8, .slice a9 n9 p9, .string ⟨#[]⟩] 126) = W7 at R0 R1 R2 H hown hsz ⊢
      generalize W6.heap.size = b2 at R2 hb2 hbx ⊢
      go_wp2_with fail
      refine (once_any 2 c.B c.C c.a c.len c.cap _ H.cur (by omega) (by omega)).mono ?_
      rintro e W8 ⟨nm, rfl, hc, hg⟩
      replace R0 := R0.drawC H hg
      replace R1 := R1.drawC H hg
      replace R2 := R2.drawC H hg
      replace hown := own_turn hown hg (by intro b e; injection e; omega)
      replace hsz := Nat.le_trans hsz hg.size
      replace H := H.draw hc hg
      clear hc hg
      cases nm
      · have x1 := R1.row.cell (i := 1) (v := .slice va j vc) rfl
        have ld2 := ldI_row (ys := [.bool false, .string ⟨#[]⟩, .int .i64 c0, .int .i64 c1, .bool c2, .int .i64 c3, .int .i64 c4, .string c5, .string c6, .string c7, .slice a8 n8 p8, .slice a9 n9 p9, .string ⟨#[]⟩]) R2.row rfl
        go_wp2_with (at_builtin; refine appTI rfl (.tmp 34) (.tmp 36) rfl L c τ _ W W8 Bq hB0 hsz (.slice va j vc) j xs [.bool false, .string ⟨#[]⟩, .int .i64 c0, .int .i64 c1, .bool c2, .int .i64 c3, .int .i64 c4, .string c5, .string c6, .string c7, .slice a8 n8 p8, .slice a9 n9 p9, .string ⟨#[]⟩] l (We d) W8.heap.size rfl rfl rfl H hown hrows hfree (GoodRow.item he false (Nat.zero_le _) (Nat.zero_le _)) (by intro u hu; simp only [List.mem_cons, List.not_mem_nil, or_false] at hu; rcases hu with rfl | rfl | rfl | rfl | rfl | rfl | rfl | rfl | rfl | rfl | rfl | rfl | rfl <;> rfl) (by omega) ?_; intro v' w' hown3 hrows3 hfree3 H3 hk3; obtain ⟨g3, vc', rfl⟩ := slice_of_owns hown3; have R0n := R0.at' (hk3 _ R0.row.lt (own_not hown hb0q)); have R1n := R1.at' (hk3 _ R1.row.lt (own_not hown hb1q)); have y1 := R1n.row.cell (i := 1) (v := .slice va j vc) rfl; have y2 := R1n.row.soft 1)
        clear ld2
        have H4 := H3.setOwn R1n 1 (.slice (some ⟨g3, 0, none⟩) (j + 1) vc')
        have R14 := R1n.set 1 (.slice (some ⟨g3, 0, none⟩) (j + 1) vc')
        have R04 := R0n.other 1 (.slice (some ⟨g3, 0, none⟩) (j + 1) vc') (b' := b1) (by omega)
        have hown4 := own_turn hown3 (grown_set w' b1 1 (.slice (some ⟨g3, 0, none⟩) (j + 1) vc')) (by intro b e; injection e; omega)
        have hsz4 : Bq ≤ (w'.setCell ⟨b1, 1, none⟩ (.slice (some ⟨g3, 0, none⟩) (j + 1) vc')).heap.size := by have h1 := (grown_set w' b1 1 (.slice (some ⟨g3, 0, none⟩) (j + 1) vc')).size; have h3 := World.ownsRow.lt hown3 g3 rfl; omega
        go_roundw
        case rel => exact ⟨j + 1, _, some ⟨g3, 0, none⟩, vc', _, _, by omega, by go_num, hown4, hrows3, by simp [hll], by rw [List.sum_append, Nat.add_mul, Nat.one_mul]; simp; omega, H4, hfree3, hsz4, R04, R14⟩
        case measure => simp [intOf]; omega
      · go_wp2_with fail
        refine (name_any c.B c.C c.a c.len c.cap _ H.cur).mono ?_
        rintro e W9 ⟨s3, hs3, rfl, hc, hg⟩
        replace R0 := R0.drawC H hg
        replace R1 := R1.drawC H hg
        replace R2 := R2.drawC H hg
        replace hown := own_turn hown hg (by intro b e; injection e; omega)
        replace hsz := Nat.le_trans hsz hg.size
        replace H := H.draw hc hg
        clear hc hg
        have x3 := R2.row.cell (i := 12) (v := .string ⟨#[]⟩) rfl
        have z3 := R2.row.soft 12
        replace H := H.setOwn R2 12 (.string s3)
        replace R0 := R0.other 12 (.string s3) (b' := b2) (by have := R0.hi; omega)
        replace R1 := R1.other 12 (.string s3) (b' := b2) (by omega)
        replace hown : (W9.setCell ⟨b2, 12, none⟩ (.string s3)).ownsRow Bq 126 13 (.slice va j vc) j xs := World.ownsRow.kept hown (grown_set W9 b2 12 (.string s3)) (by
          rcases e : Value.ownBlock (.slice va j vc) with _ | b
          · exact .inl rfl
          · refine .inr fun e2 => ?_
            injection e2 with e2
            exact hbx b e e2)
        replace hsz : Bq ≤ (W9.setCell ⟨b2, 12, none⟩ (.string s3)).heap.size := Nat.le_trans hsz (grown_set W9 b2 12 (.string s3)).size
        replace R2 : Bx _ W (W9.setCell ⟨b2, 12, none⟩ (.string s3)) b2 126 #[.bool false, .string ⟨#[]⟩, .int .i64 c0, .int .i64 c1, .bool c2, .int .i64 c3, .int .i64 c4, .string c5, .string c6, .string c7, .slice a8 n8 p8, .slice a9 n9 p9, .string s3] := R2.set 12 (.string s3)
        have x1 := R1.row.cell (i := 1) (v := .slice va j vc) rfl
        have ld2 := ldI_row (ys := [.bool false, .string ⟨#[]⟩, .int .i64 c0, .int .i64 c1, .bool c2, .int .i64 c3, .int .i64 c4, .string c5, .string c6, .string c7, .slice a8 n8 p8, .slice a9 n9 p9, .string s3]) R2.row rfl
        go_wp2_with (at_builtin; refine appTI rfl (.tmp 34) (.tmp 36) rfl L c τ _ W (W9.setCell ⟨b2, 12, none⟩ (.string s3)) Bq hB0 hsz (.slice va j vc) j xs [.bool false, .string ⟨#[]⟩, .int .i64 c0, .int .i64 c1, .bool c2, .int .i64 c3, .int .i64 c4, .string c5, .string c6, .string c7, .slice a8 n8 p8, .slice a9 n9 p9, .string s3] l (We d) W9.heap.size (by simp) rfl rfl H hown hrows hfree (GoodRow.item he false (Nat.zero_le _) (by omega)) (by intro u hu; simp only [List.mem_cons, List.not_mem_nil, or_false] at hu; rcases hu with rfl | rfl | rfl | rfl | rfl | rfl | rfl | rfl | rfl | rfl | rfl | rfl | rfl <;> rfl) (by omega) ?_; intro v' w' hown3 hrows3 hfree3 H3 hk3; obtain ⟨g3, vc', rfl⟩ := slice_of_owns hown3; have R0n := R0.at' (hk3 _ R0.row.lt (own_not hown hb0q)); have R1n := R1.at' (hk3 _ R1.row.lt (own_not hown hb1q)); have y1 := R1n.row.cell (i := 1) (v := .slice va j vc) rfl; have y2 := R1n.row.soft 1)
        clear ld2
        have H4 := H3.setOwn R1n 1 (.slice (some ⟨g3, 0, none⟩) (j + 1) vc')
        have R14 := R1n.set 1 (.slice (some ⟨g3, 0, none⟩) (j + 1) vc')
        have R04 := R0n.other 1 (.slice (some ⟨g3, 0, none⟩) (j + 1) vc') (b' := b1) (by omega)
        have hown4 := own_turn hown3 (grown_set w' b1 1 (.slice (some ⟨g3, 0, none⟩) (j + 1) vc')) (by intro b e; injection e; omega)
        have hsz4 : Bq ≤ (w'.setCell ⟨b1, 1, none⟩ (.slice (some ⟨g3, 0, none⟩) (j + 1) vc')).heap.size := by have h1 := (grown_set w' b1 1 (.slice (some ⟨g3, 0, none⟩) (j + 1) vc')).size; have h3 := World.ownsRow.lt hown3 g3 rfl; omega
        go_roundw
        case rel => exact ⟨j + 1, _, some ⟨g3, 0, none⟩, vc', _, _, by omega, by go_num, hown4, hrows3, by simp [hll], by rw [List.sum_append, Nat.add_mul, Nat.one_mul]; simp; omega, H4, hfree3, hsz4, R04, R14⟩
        case measure => simp [intOf]; omega
    · have ej : j = k + 1 := by omega
      have hge : ¬ ((j : Int) < 1 + (k : Int)) := by omega
      obtain ⟨τ1, hinv, hle, hsame, hoth, gg, ww⟩ := H.inv.adoptOwn (ty := .items) rfl (Nat.le_trans H.hi hB0) hown hll.symm hrows (fun g _ _ hg => hfree g hg)
      replace R0 := R0.tau (hsame _ hb0q)
      replace R1 := R1.tau (hsame _ hb1q)
      have H' : DS L c τ τ1 W wr := ⟨H.cur, hinv, H.grown, H.le.trans hle, fun g hg => (hsame g (by omega)).trans (H.same g hg), H.lo, H.hi⟩
      replace ww : slw τ1 (.slice va j vc) ≤ 2 * We d := Nat.le_trans ww (Nat.le_trans hls (Nat.mul_le_mul_right _ (by omega)))
      clear H hinv hle hsame hoth hown hrows hls hfree hll hj hlt hsz hB0 hb0q hb1q ej
      have H := H'
      clear H'
      obtain ⟨va1, n1, vc1, hv⟩ : ∃ a n cc, Value.slice va j vc = .slice a n cc := ⟨_, _, _, rfl⟩
      rw [hv] at R1 gg ww
      clear hv
      have g1 := gg
      have w1 := ww
      clear gg ww
      go_wp2_with fail
      refine (below_any 2 c.B c.C c.a c.len c.cap _ H.cur (by omega) (by omega)).mono ?_
      rintro e V1 ⟨m, hm0, hm1, rfl, hc, hg⟩
      replace R0 := R0.drawC H hg
      replace R1 := R1.drawC H hg
      replace H := H.draw hc hg
      clear hc hg
      obtain ⟨k2, rfl⟩ : ∃ k2 : Nat, m = (k2 : Int) := Int.eq_ofNat_of_zero_le hm0
      have hk2 : k2 ≤ 1 := by omega
      obtain ⟨Bq, hBq⟩ : ∃ Bq, Bq = V1.heap.size := ⟨_, rfl⟩
      have hB0 : W.heap.size ≤ Bq := by rw [hBq]; exact H.size
      have hb0q : W.heap.size < Bq := by rw [hBq]; exact R0.row.lt
      have hb1q : b1 < Bq := by rw [hBq]; exact R1.row.lt
      go_wp2_with fail
      go_loopw [9] (fun i wr => ∃ (j : Nat) (τj : Tau) (va : Option Addr) (vc : Nat) (xs : List Value) (l : List Nat), j ≤ k2 + 1 ∧ i = .int .i64 (j : Int) ∧ wr.ownsRow Bq 93 3 (.slice va j vc) j xs ∧ RowsOk τj 1000 .sources xs l ∧ l.length = j ∧ l.sum ≤ j * (1 + We d) ∧ DS L c τ τj W wr ∧ (∀ g, Value.ownBlock (.slice va j vc) = some g → τj g = none) ∧ Bq ≤ wr.heap.size ∧ Bx τj W wr W.heap.size 38 #[.bool false, .slice none 0 0, .slice none 0 0, .slice none 0 0, .slice none 0 0, .int .i64 0] ∧ Bx τj W wr b1 38 #[.bool qb, .slice va1 n1 vc1, .slice va j vc, .slice none 0 0, .slice none 0 0, .int .i64 (-1)] ∧ GoodV τj 1000 .items (.slice va1 n1 vc1) ∧ slw τj (.slice va1 n1 vc1) ≤ 2 * We d) (fun i _ => k2 + 1 - (intOf i).toNat)
      case atStart => exact ⟨0, τ1, none, 0, [], [], Nat.zero_le _, rfl, ⟨rfl, .inl ⟨rfl, rfl⟩⟩, RowsOk.nil _ _ _, rfl, Nat.zero_le _, H, (fun g hg => by cases hg), by omega, R0, R1, g1, w1⟩
      case round =>
        obtain ⟨j, τj, va, vc, xs, l, hj, rfl, hown, hrows, hll, hls, H, hfree, hsz, R0, R1, g1, w1⟩ := hrel
        clear hBq
        by_cases hlt : j < k2 + 1
        · have hlt2 : (j : Int) < 1 + (k2 : Int) := by omega
          go_wp2_with fail
          refine (pick_any 24 wr.heap.size 3 c.B c.C c.a c.len c.cap _ (Cur.alloc H.cur _) (by omega) (by omega) (by simp) (by have := H.ltC; have := H.size; omega) ?_).mono ?_
          · intro i hi
            have hrow := RowAt.new wr 9 #[.string ⟨#[116]⟩, .string ⟨#[117]⟩, .string ⟨#[118]⟩]
            rcases (show i = 0 ∨ i = 1 ∨ i = 2 by omega) with rfl | rfl | rfl <;> exact ⟨_, by decide, hrow.cell rfl⟩
          rintro e V2 ⟨s1, hs1, rfl, hc, hg⟩
          replace hg := grown_tr (grown_alloc wr _ (some c.C)) hg
          replace R0 := R0.drawC H hg
          replace R1 := R1.drawC H hg
          replace hown := own_turn hown hg (by intro b e; injection e; omega)
          replace hsz := Nat.le_trans hsz hg.size
          replace H := H.draw hc hg
          clear hc hg
          have hb2 : b1 < V2.heap.size := R1.row.lt
          have hbx : ∀ b, Value.ownBlock (.slice va j vc) = some b → b ≠ V2.heap.size := fun b hb => by have := (World.ownsRow.lt hown b hb).2; omega
          have st2 := stS_new (W := V2) (ys := [.string s1, .string ⟨#[]⟩, .slice none 0 0]) rfl rfl
          have R2 := Bx.new H 93 #[.string s1, .string ⟨#[]⟩, .slice none 0 0]
          replace R0 := R0.alloc (.cells #[.string s1, .string ⟨#[]⟩, .slice none 0 0] 93)
          replace R1 := R1.alloc (.cells #[.string s1, .string ⟨#[]⟩, .slice none 0 0] 93)
          replace hown := World.ownsRow.alloc hown (.cells #[.string s1, .string ⟨#[]⟩, .slice none 0 0] 93)
          replace hsz : Bq ≤ (V2.alloc (.cells #[.string s1, .string ⟨#[]⟩, .slice none 0 0] 93)).heap.size := by simp; omega
          replace H := H.alloc (.cells #[.string s1, .string ⟨#[]⟩, .slice none 0 0] 93)
          go_wp2_with fail
          clear st2
          generalize V2.alloc (.cells #[.string s1, .string ⟨#[]⟩, .slice none 0 0] 93) = V3 at R0 R1 R2 H hown hsz ⊢
          generalize V2.heap.size = b2 at R2 hb2 hbx ⊢
          go_wp2_with fail
          refine (once_any 3 c.B c.C c.a c.len c.cap _ H.cur (by omega) (by omega)).mono ?_
          rintro e V4 ⟨nm, rfl, hc, hg⟩
          replace R0 := R0.drawC H hg
          replace R1 := R1.drawC H hg
          replace R2 := R2.drawC H hg
          replace hown := own_turn hown hg (by intro b e; injection e; omega)
          replace hsz := Nat.le_trans hsz hg.size
          replace H := H.draw hc hg
          clear hc hg
          cases nm
          · by_cases hj0 : j = 0
            · have hgt : decide ((0 : Int) < (j : Int)) = false := decide_eq_false (by omega)
              have hgn : decide (0 < j) = false := decide_eq_false (by omega)
              clear hj0
              have x1 := R1.row.cell (i := 2) (v := .slice va j vc) rfl
              have ld2 := ldS_row (ys := [.string s1, .string ⟨#[]⟩, .slice none 0 0]) R2.row rfl
              go_wp2_with (at_builtin; refine appTS rfl (.tmp 87) (.tmp 89) rfl L c τ _ W V4 Bq hB0 hsz (.slice va j vc) j xs [.string s1, .string ⟨#[]⟩, .slice none 0 0] l (1 + We d) V4.heap.size rfl rfl rfl H hown hrows hfree (GoodRow.source (by omega) (Nat.zero_le _) (GoodV.nil _ _ rfl) (by show 1 + 0 ≤ _; omega)) (by intro u hu; simp only [List.mem_cons, List.not_mem_nil, or_false] at hu; rcases hu with rfl | rfl | rfl <;> rfl) (by omega) ?_; intro v' w' hown3 hrows3 hfree3 H3 hk3; obtain ⟨g3, vc', rfl⟩ := slice_of_owns hown3; have R0n := R0.at' (hk3 _ R0.row.lt (own_not hown hb0q)); have R1n := R1.at' (hk3 _ R1.row.lt (own_not hown hb1q)); have y1 := R1n.row.cell (i := 2) (v := .slice va j vc) rfl; have y2 := R1n.row.soft 2)
              clear ld2
              have H4 := H3.setOwn R1n 2 (.slice (some ⟨g3, 0, none⟩) (j + 1) vc')
              have R14 := R1n.set 2 (.slice (some ⟨g3, 0, none⟩) (j + 1) vc')
              have R04 := R0n.other 2 (.slice (some ⟨g3, 0, none⟩) (j + 1) vc') (b' := b1) (by omega)
              have hown4 := own_turn hown3 (grown_set w' b1 2 (.slice (some ⟨g3, 0, none⟩) (j + 1) vc')) (by intro b e; injection e; omega)
              have hsz4 : Bq ≤ (w'.setCell ⟨b1, 2, none⟩ (.slice (some ⟨g3, 0, none⟩) (j + 1) vc')).heap.size := by have h1 := (grown_set w' b1 2 (.slice (some ⟨g3, 0, none⟩) (j + 1) vc')).size; have h3 := World.ownsRow.lt hown3 g3 rfl; omega
              go_roundw
              case rel => exact ⟨j + 1, _, some ⟨g3, 0, none⟩, vc', _, _, by omega, by go_num, hown4, hrows3, by simp [hll], by rw [List.sum_append, Nat.add_mul, Nat.one_mul]; simp; omega, H4, hfree3, hsz4, R04, R14, g1, w1⟩
              case measure => simp [intOf]; omega
            · have hgt : decide ((0 : Int) < (j : Int)) = true := decide_eq_true (by omega)
              have hgn : decide (0 < j) = true := decide_eq_true (by omega)
              clear hj0
              go_wp2_with fail
              refine (once_any 2 c.B c.C c.a c.len c.cap _ H.cur (by omega) (by omega)).mono ?_
              rintro e VA ⟨on, rfl, hc, hg⟩
              replace R0 := R0.drawC H hg
              replace R1 := R1.drawC H hg
              replace R2 := R2.drawC H hg
              replace hown := own_turn hown hg (by intro b e; injection e; omega)
              replace hsz := Nat.le_trans hsz hg.size
              replace H := H.draw hc hg
              clear hc hg
              cases on
              · have x1 := R1.row.cell (i := 2) (v := .slice va j vc) rfl
                have ld2 := ldS_row (ys := [.string s1, .string ⟨#[]⟩, .slice none 0 0]) R2.row rfl
                go_wp2_with (at_builtin; refine appTS rfl (.tmp 87) (.tmp 89) rfl L c τ _ W VA Bq hB0 hsz (.slice va j vc) j xs [.string s1, .string ⟨#[]⟩, .slice none 0 0] l (1 + We d) VA.heap.size rfl rfl rfl H hown hrows hfree (GoodRow.source (by omega) (Nat.zero_le _) (GoodV.nil _ _ rfl) (by show 1 + 0 ≤ _; omega)) (by intro u hu; simp only [List.mem_cons, List.not_mem_nil, or_false] at hu; rcases hu with rfl | rfl | rfl <;> rfl) (by omega) ?_; intro v' w' hown3 hrows3 hfree3 H3 hk3; obtain ⟨g3, vc', rfl⟩ := slice_of_owns hown3; have R0n := R0.at' (hk3 _ R0.row.lt (own_not hown hb0q)); have R1n := R1.at' (hk3 _ R1.row.lt (own_not hown hb1q)); have y1 := R1n.row.cell (i := 2) (v := .slice va j vc) rfl; have y2 := R1n.row.soft 2)
                clear ld2
                have H4 := H3.setOwn R1n 2 (.slice (some ⟨g3, 0, none⟩) (j + 1) vc')
                have R14 := R1n.set 2 (.slice (some ⟨g3, 0, none⟩) (j + 1) vc')
                have R04 := R0n.other 2 (.slice (some ⟨g3, 0, none⟩) (j + 1) vc') (b' := b1) (by omega)
                have hown4 := own_turn hown3 (grown_set w' b1 2 (.slice (some ⟨g3, 0, none⟩) (j + 1) vc')) (by intro b e; injection e; omega)
                have hsz4 : Bq ≤ (w'.setCell ⟨b1, 2, none⟩ (.slice (some ⟨g3, 0, none⟩) (j + 1) vc')).heap.size := by have h1 := (grown_set w' b1 2 (.slice (some ⟨g3, 0, none⟩) (j + 1) vc')).size; have h3 := World.ownsRow.lt hown3 g3 rfl; omega
                go_roundw
                case rel => exact ⟨j + 1, _, some ⟨g3, 0, none⟩, vc', _, _, by omega, by go_num, hown4, hrows3, by simp [hll], by rw [List.sum_append, Nat.add_mul, Nat.one_mul]; simp; omega, H4, hfree3, hsz4, R04, R14, g1, w1⟩
                case measure => simp [intOf]; omega
              · go_wp2_with fail
                refine (IH L c _ _ H.here).mono ?_
                rintro e VB ⟨τVB, es, rfl, he, K⟩
                replace R0 := R0.call H K
                replace R1 := R1.call H K
                replace R2 := R2.call H K
                replace hfree : ∀ g, Value.ownBlock (.slice va j vc) = some g → τVB g = none := fun g hg => (K.same g (World.ownsRow.lt hown g hg).2).trans (hfree g hg)
                replace hown := own_turn hown K.grown (by intro b e; injection e; omega)
                replace hrows := hrows.le K.le
                replace hsz := Nat.le_trans hsz K.grown.size
                replace w1 := (by rw [(g1.le K.le).2]; exact w1 : slw τVB (.slice va1 n1 vc1) ≤ _)
                replace g1 := (g1.le K.le).1
                replace H := H.call K
                clear K
                obtain ⟨c0, c1, c2, c3, c4, c5, c6, c7, a8, n8, p8, a9, n9, p9, rfl⟩ := he.tenS
                have hvb : b2 < VB.heap.size := R2.row.lt
                obtain ⟨H', g9, w9, le9⟩ := H.adopt1 rfl he
                replace hfree : ∀ g, Value.ownBlock (.slice va j vc) = some g → tupd τVB VB.heap.size (.exprs, 1, [We d]) g = none := fun g hg => (tupd_other (by have := (World.ownsRow.lt hown g hg).2; omega)).trans (hfree g hg)
                replace hown := World.ownsRow.alloc hown (.cells #[.int .i64 c0, .int .i64 c1, .bool c2, .int .i64 c3, .int .i64 c4, .string c5, .string c6, .string c7, .slice a8 n8 p8, .slice a9 n9 p9] 29)
                replace hrows := hrows.le le9
                replace w1 := (by rw [(g1.le le9).2]; exact w1 : slw (tupd τVB VB.heap.size (.exprs, 1, [We d])) (.slice va1 n1 vc1) ≤ _)
                replace g1 := (g1.le le9).1
                replace R0 : Bx _ W (VB.alloc (.cells #[.int .i64 c0, .int .i64 c1, .bool c2, .int .i64 c3, .int .i64 c4, .string c5, .string c6, .string c7, .slice a8 n8 p8, .slice a9 n9 p9] 29)) W.heap.size 38 #[.bool false, .slice none 0 0, .slice none 0 0, .slice none 0 0, .slice none 0 0, .int .i64 0] := R0.adopt (.exprs, 1, [We d]) _
                replace R1 : Bx _ W (VB.alloc (.cells #[.int .i64 c0, .int .i64 c1, .bool c2, .int .i64 c3, .int .i64 c4, .string c5, .string c6, .string c7, .slice a8 n8 p8, .slice a9 n9 p9] 29)) b1 38 #[.bool qb, .slice va1 n1 vc1, .slice va j vc, .slice none 0 0, .slice none 0 0, .int .i64 (-1)] := R1.adopt (.exprs, 1, [We d]) _
                replace R2 : Bx _ W (VB.alloc (.cells #[.int .i64 c0, .int .i64 c1, .bool c2, .int .i64 c3, .int .i64 c4, .string c5, .string c6, .string c7, .slice a8 n8 p8, .slice a9 n9 p9] 29)) b2 93 #[.string s1, .string ⟨#[]⟩, .slice none 0 0] := R2.adopt (.exprs, 1, [We d]) _
                clear H
                have H : DS L c τ _ W (VB.alloc (.cells #[.int .i64 c0, .int .i64 c1, .bool c2, .int .i64 c3, .int .i64 c4, .string c5, .string c6, .string c7, .slice a8 n8 p8, .slice a9 n9 p9] 29)) := H'
                clear H'
                replace hsz : Bq ≤ (VB.alloc (.cells #[.int .i64 c0, .int .i64 c1, .bool c2, .int .i64 c3, .int .i64 c4, .string c5, .string c6, .string c7, .slice a8 n8 p8, .slice a9 n9 p9] 29)).heap.size := by simp; omega
                have x3 := R2.row.cell (i := 2) (v := .slice none 0 0) rfl
                have z3 := R2.row.soft 2
                replace H := H.setOwn R2 2 (.slice (some ⟨VB.heap.size, 0, none⟩) 1 1)
                replace R0 := R0.other 2 (.slice (some ⟨VB.heap.size, 0, none⟩) 1 1) (b' := b2) (by have := R0.hi; omega)
                replace R1 := R1.other 2 (.slice (some ⟨VB.heap.size, 0, none⟩) 1 1) (b' := b2) (by omega)
                replace hown : ((VB.alloc (.cells #[.int .i64 c0, .int .i64 c1, .bool c2, .int .i64 c3, .int .i64 c4, .string c5, .string c6, .string c7, .slice a8 n8 p8, .slice a9 n9 p9] 29)).setCell ⟨b2, 2, none⟩ (.slice (some ⟨VB.heap.size, 0, none⟩) 1 1)).ownsRow Bq 93 3 (.slice va j vc) j xs := World.ownsRow.kept hown (grown_set _ b2 2 _) (by
                  rcases e : Value.ownBlock (.slice va j vc) with _ | b
                  · exact .inl rfl
                  · refine .inr fun e2 => ?_
                    injection e2 with e2
                    exact hbx b e e2)
                replace hsz : Bq ≤ ((VB.alloc (.cells #[.int .i64 c0, .int .i64 c1, .bool c2, .int .i64 c3, .int .i64 c4, .string c5, .string c6, .string c7, .slice a8 n8 p8, .slice a9 n9 p9] 29)).setCell ⟨b2, 2, none⟩ (.slice (some ⟨VB.heap.size, 0, none⟩) 1 1)).heap.size := Nat.le_trans hsz (grown_set _ b2 2 _).size
                replace R2 : Bx _ W ((VB.alloc (.cells #[.int .i64 c0, .int .i64 c1, .bool c2, .int .i64 c3, .int .i64 c4, .string c5, .string c6, .string c7, .slice a8 n8 p8, .slice a9 n9 p9] 29)).setCell ⟨b2, 2, none⟩ (.slice (some ⟨VB.heap.size, 0, none⟩) 1 1)) b2 93 #[.string s1, .string ⟨#[]⟩, .slice (some ⟨VB.heap.size, 0, none⟩) 1 1] := R2.set 2 _
                have hcm := World.setCell_alloc_past (w := VB) (.cells #[.int .i64 c0, .int .i64 c1, .bool c2, .int .i64 c3, .int .i64 c4, .string c5, .string c6, .string c7, .slice a8 n8 p8, .slice a9 n9 p9] 29) b2 2 (.slice (some ⟨VB.heap.size, 0, none⟩) 1 1) hvb
                rw [hcm] at H R0 R1 R2 hown hsz
                clear hcm
                have x1 := R1.row.cell (i := 2) (v := .slice va j vc) rfl
                have ld2 := ldS_row (ys := [.string s1, .string ⟨#[]⟩, .slice (some ⟨VB.heap.size, 0, none⟩) 1 1]) R2.row rfl
                go_wp2_with (at_builtin; refine appTS rfl (.tmp 87) (.tmp 89) rfl L c τ _ W ((VB.setCell ⟨b2, 2, none⟩ (.slice (some ⟨VB.heap.size, 0, none⟩) 1 1)).alloc (.cells #[.int .i64 c0, .int .i64 c1, .bool c2, .int .i64 c3, .int .i64 c4, .string c5, .string c6, .string c7, .slice a8 n8 p8, .slice a9 n9 p9] 29)) Bq hB0 hsz (.slice va j vc) j xs [.string s1, .string ⟨#[]⟩, .slice (some ⟨VB.heap.size, 0, none⟩) 1 1] l (1 + We d) (VB.heap.size + 1) (by simp) rfl rfl H hown hrows hfree (GoodRow.source (by omega) (Nat.zero_le _) g9 (by rw [w9]; omega)) (by intro u hu; simp only [List.mem_cons, List.not_mem_nil, or_false] at hu; rcases hu with rfl | rfl | rfl <;> rfl) (by omega) ?_; intro v' w' hown3 hrows3 hfree3 H3 hk3; obtain ⟨g3, vc', rfl⟩ := slice_of_owns hown3; have R0n := R0.at' (hk3 _ R0.row.lt (own_not hown hb0q)); have R1n := R1.at' (hk3 _ R1.row.lt (own_not hown hb1q)); have y1 := R1n.row.cell (i := 2) (v := .slice va j vc) rfl; have y2 := R1n.row.soft 2)
                clear ld2
                have H4 := H3.setOwn R1n 2 (.slice (some ⟨g3, 0, none⟩) (j + 1) vc')
                have R14 := R1n.set 2 (.slice (some ⟨g3, 0, none⟩) (j + 1) vc')
                have R04 := R0n.other 2 (.slice (some ⟨g3, 0, none⟩) (j + 1) vc') (b' := b1) (by omega)
                have hown4 := own_turn hown3 (grown_set w' b1 2 (.slice (some ⟨g3, 0, none⟩) (j + 1) vc')) (by intro b e; injection e; omega)
                have hsz4 : Bq ≤ (w'.setCell ⟨b1, 2, none⟩ (.slice (some ⟨g3, 0, none⟩) (j + 1) vc')).heap.size := by have h1 := (grown_set w' b1 2 (.slice (some ⟨g3, 0, none⟩) (j + 1) vc')).size; have h3 := World.ownsRow.lt hown3 g3 rfl; omega
                go_roundw
                case rel => exact ⟨j + 1, _, some ⟨g3, 0, none⟩, vc', _, _, by omega, by go_num, hown4, hrows3, by simp [hll], by rw [List.sum_append, Nat.add_mul, Nat.one_mul]; simp; omega, H4, hfree3, hsz4, R04, R14, g1, w1⟩
                case measure => simp [intOf]; omega
          · go_wp2_with fail
            refine (name_any c.B c.C c.a c.len c.cap _ H.cur).mono ?_
            rintro e V5 ⟨s4, hs4, rfl, hc, hg⟩
            replace R0 := R0.drawC H hg
            replace R1 := R1.drawC H hg
            replace R2 := R2.drawC H hg
            replace hown := own_turn hown hg (by intro b e; injection e; omega)
            replace hsz := Nat.le_trans hsz hg.size
            replace H := H.draw hc hg
            clear hc hg
            have x3 := R2.row.cell (i := 1) (v := .string ⟨#[]⟩) rfl
            have z3 := R2.row.soft 1
            replace H := H.setOwn R2 1 (.string s4)
            replace R0 := R0.other 1 (.string s4) (b' := b2) (by have := R0.hi; omega)
            replace R1 := R1.other 1 (.string s4) (b' := b2) (by omega)
            replace hown : (V5.setCell ⟨b2, 1, none⟩ (.string s4)).ownsRow Bq 93 3 (.slice va j vc) j xs := World.ownsRow.kept hown (grown_set V5 b2 1 (.string s4)) (by
              rcases e : Value.ownBlock (.slice va j vc) with _ | b
              · exact .inl rfl
              · refine .inr fun e2 => ?_
                injection e2 with e2
                exact hbx b e e2)
            replace hbx : ∀ b, Value.ownBlock (.slice va j vc) = some b → b ≠ b2 := hbx
            replace hsz : Bq ≤ (V5.setCell ⟨b2, 1, none⟩ (.string s4)).heap.size := Nat.le_trans hsz (grown_set V5 b2 1 (.string s4)).size
            replace R2 : Bx _ W (V5.setCell ⟨b2, 1, none⟩ (.string s4)) b2 93 #[.string s1, .string s4, .slice none 0 0] := R2.set 1 (.string s4)
            by_cases hj0 : j = 0
            · have hgt : decide ((0 : Int) < (j : Int)) = false := decide_eq_false (by omega)
              have hgn : decide (0 < j) = false := decide_eq_false (by omega)
              clear hj0
              have x1 := R1.row.cell (i := 2) (v := .slice va j vc) rfl
              have ld2 := ldS_row (ys := [.string s1, .string s4, .slice none 0 0]) R2.row rfl
              go_wp2_with (at_builtin; refine appTS rfl (.tmp 87) (.tmp 89) rfl L c τ _ W (V5.setCell ⟨b2, 1, none⟩ (.string s4)) Bq hB0 hsz (.slice va j vc) j xs [.string s1, .string s4, .slice none 0 0] l (1 + We d) V5.heap.size (by simp) rfl rfl H hown hrows hfree (GoodRow.source (by omega) (by omega) (GoodV.nil _ _ rfl) (by show 1 + 0 ≤ _; omega)) (by intro u hu; simp only [List.mem_cons, List.not_mem_nil, or_false] at hu; rcases hu with rfl | rfl | rfl <;> rfl) (by omega) ?_; intro v' w' hown3 hrows3 hfree3 H3 hk3; obtain ⟨g3, vc', rfl⟩ := slice_of_owns hown3; have R0n := R0.at' (hk3 _ R0.row.lt (own_not hown hb0q)); have R1n := R1.at' (hk3 _ R1.row.lt (own_not hown hb1q)); have y1 := R1n.row.cell (i := 2) (v := .slice va j vc) rfl; have y2 := R1n.row.soft 2)
              clear ld2
              have H4 := H3.setOwn R1n 2 (.slice (some ⟨g3, 0, none⟩) (j + 1) vc')
              have R14 := R1n.set 2 (.slice (some ⟨g3, 0, none⟩) (j + 1) vc')
              have R04 := R0n.other 2 (.slice (some ⟨g3, 0, none⟩) (j + 1) vc') (b' := b1) (by omega)
              have hown4 := own_turn hown3 (grown_set w' b1 2 (.slice (some ⟨g3, 0, none⟩) (j + 1) vc')) (by intro b e; injection e; omega)
              have hsz4 : Bq ≤ (w'.setCell ⟨b1, 2, none⟩ (.slice (some ⟨g3, 0, none⟩) (j + 1) vc')).heap.size := by have h1 := (grown_set w' b1 2 (.slice (some ⟨g3, 0, none⟩) (j + 1) vc')).size; have h3 := World.ownsRow.lt hown3 g3 rfl; omega
              go_roundw
              case rel => exact ⟨j + 1, _, some ⟨g3, 0, none⟩, vc', _, _, by omega, by go_num, hown4, hrows3, by simp [hll], by rw [List.sum_append, Nat.add_mul, Nat.one_mul]; simp; omega, H4, hfree3, hsz4, R04, R14, g1, w1⟩
              case measure => simp [intOf]; omega
            · have hgt : decide ((0 : Int) < (j : Int)) = true := decide_eq_true (by omega)
              have hgn : decide (0 < j) = true := decide_eq_true (by omega)
              clear hj0
              go_wp2_with fail
              refine (once_any 2 c.B c.C c.a c.len c.cap _ H.cur (by omega) (by omega)).mono ?_
              rintro e VA ⟨on, rfl, hc, hg⟩
              replace R0 := R0.drawC H hg
              replace R1 := R1.drawC H hg
              replace R2 := R2.drawC H hg
              replace hown := own_turn hown hg (by intro b e; injection e; omega)
              replace hsz := Nat.le_trans hsz hg.size
              replace H := H.draw hc hg
              clear hc hg
              cases on
              · have x1 := R1.row.cell (i := 2) (v := .slice va j vc) rfl
                have ld2 := ldS_row (ys := [.string s1, .string s4, .slice none 0 0]) R2.row rfl
                go_wp2_with (at_builtin; refine appTS rfl (.tmp 87) (.tmp 89) rfl L c τ _ W VA Bq hB0 hsz (.slice va j vc) j xs [.string s1, .string s4, .slice none 0 0] l (1 + We d) VA.heap.size rfl rfl rfl H hown hrows hfree (GoodRow.source (by omega) (by omega) (GoodV.nil _ _ rfl) (by show 1 + 0 ≤ _; omega)) (by intro u hu; simp only [List.mem_cons, List.not_mem_nil, or_false] at hu; rcases hu with rfl | rfl | rfl <;> rfl) (by omega) ?_; intro v' w' hown3 hrows3 hfree3 H3 hk3; obtain ⟨g3, vc', rfl⟩ := slice_of_owns hown3; have R0n := R0.at' (hk3 _ R0.row.lt (own_not hown hb0q)); have R1n := R1.at' (hk3 _ R1.row.lt (own_not hown hb1q)); have y1 := R1n.row.cell (i := 2) (v := .slice va j vc) rfl; have y2 := R1n.row.soft 2)
                clear ld2
                have H4 := H3.setOwn R1n 2 (.slice (some ⟨g3, 0, none⟩) (j + 1) vc')
                have R14 := R1n.set 2 (.slice (some ⟨g3, 0, none⟩) (j + 1) vc')
                have R04 := R0n.other 2 (.slice (some ⟨g3, 0, none⟩) (j + 1) vc') (b' := b1) (by omega)
                have hown4 := own_turn hown3 (grown_set w' b1 2 (.slice (some ⟨g3, 0, none⟩) (j + 1) vc')) (by intro b e; injection e; omega)
                have hsz4 : Bq ≤ (w'.setCell ⟨b1, 2, none⟩ (.slice (some ⟨g3, 0, none⟩) (j + 1) vc')).heap.size := by have h1 := (grown_set w' b1 2 (.slice (some ⟨g3, 0, none⟩) (j + 1) vc')).size; have h3 := World.ownsRow.lt hown3 g3 rfl; omega
                go_roundw
                case rel => exact ⟨j + 1, _, some ⟨g3, 0, none⟩, vc', _, _, by omega, by go_num, hown4, hrows3, by simp [hll], by rw [List.sum_append, Nat.add_mul, Nat.one_mul]; simp; omega, H4, hfree3, hsz4, R04, R14, g1, w1⟩
                case measure => simp [intOf]; omega
              · go_wp2_with fail
                refine (IH L c _ _ H.here).mono ?_
                rintro e VB ⟨τVB, es, rfl, he, K⟩
                replace R0 := R0.call H K
                replace R1 := R1.call H K
                replace R2 := R2.call H K
                replace hfree : ∀ g, Value.ownBlock (.slice va j vc) = some g → τVB g = none := fun g hg => (K.same g (World.ownsRow.lt hown g hg).2).trans (hfree g hg)
                replace hown := own_turn hown K.grown (by intro b e; injection e; omega)
                replace hrows := hrows.le K.le
                replace hsz := Nat.le_trans hsz K.grown.size
                replace w1 := (by rw [(g1.le K.le).2]; exact w1 : slw τVB (.slice va1 n1 vc1) ≤ _)
                replace g1 := (g1.le K.le).1
                replace H := H.call K
                clear K
                obtain ⟨c0, c1, c2, c3, c4, c5, c6, c7, a8, n8, p8, a9, n9, p9, rfl⟩ := he.tenS
                have hvb : b2 < VB.heap.size := R2.row.lt
                obtain ⟨H', g9, w9, le9⟩ := H.adopt1 rfl he
                replace hfree : ∀ g, Value.ownBlock (.slice va j vc) = some g → tupd τVB VB.heap.size (.exprs, 1, [We d]) g = none := fun g hg => (tupd_other (by have := (World.ownsRow.lt hown g hg).2; omega)).trans (hfree g hg)
                replace hown := World.ownsRow.alloc hown (.cells #[.int .i64 c0, .int .i64 c1, .bool c2, .int .i64 c3, .int .i64 c4, .string c5, .string c6, .string c7, .slice a8 n8 p8, .slice a9 n9 p9] 29)
                replace hrows := hrows.le le9
                replace w1 := (by rw [(g1.le le9).2]; exact w1 : slw (tupd τVB VB.heap.size (.exprs, 1, [We d])) (.slice va1 n1 vc1) ≤ _)
                replace g1 := (g1.le le9).1
                replace R0 : Bx _ W (VB.alloc (.cells #[.int .i64 c0, .int .i64 c1, .bool c2, .int .i64 c3, .int .i64 c4, .string c5, .string c6, .string c7, .slice a8 n8 p8, .slice a9 n9 p9] 29)) W.heap.size 38 #[.bool false, .slice none 0 0, .slice none 0 0, .slice none 0 0, .slice none 0 0, .int .i64 0] := R0.adopt (.exprs, 1, [We d]) _
                replace R1 : Bx _ W (VB.alloc (.cells #[.int .i64 c0, .int .i64 c1, .bool c2, .int .i64 c3, .int .i64 c4, .string c5, .string c6, .string c7, .slice a8 n8 p8, .slice a9 n9 p9] 29)) b1 38 #[.bool qb, .slice va1 n1 vc1, .slice va j vc, .slice none 0 0, .slice none 0 0, .int .i64 (-1)] := R1.adopt (.exprs, 1, [We d]) _
                replace R2 : Bx _ W (VB.alloc (.cells #[.int .i64 c0, .int .i64 c1, .bool c2, .int .i64 c3, .int .i64 c4, .string c5, .string c6, .string c7, .slice a8 n8 p8, .slice a9 n9 p9] 29)) b2 93 #[.string s1, .string s4, .slice none 0 0] := R2.adopt (.exprs, 1, [We d]) _
                clear H
                have H : DS L c τ _ W (VB.alloc (.cells #[.int .i64 c0, .int .i64 c1, .bool c2, .int .i64 c3, .int .i64 c4, .string c5, .string c6, .string c7, .slice a8 n8 p8, .slice a9 n9 p9] 29)) := H'
                clear H'
                replace hsz : Bq ≤ (VB.alloc (.cells #[.int .i64 c0, .int .i64 c1, .bool c2, .int .i64 c3, .int .i64 c4, .string c5, .string c6, .string c7, .slice a8 n8 p8, .slice a9 n9 p9] 29)).heap.size := by simp; omega
                have x3 := R2.row.cell (i := 2) (v := .slice none 0 0) rfl
                have z3 := R2.row.soft 2
                replace H := H.setOwn R2 2 (.slice (some ⟨VB.heap.size, 0, none⟩) 1 1)
                replace R0 := R0.other 2 (.slice (some ⟨VB.heap.size, 0, none⟩) 1 1) (b' := b2) (by have := R0.hi; omega)
                replace R1 := R1.other 2 (.slice (some ⟨VB.heap.size, 0, none⟩) 1 1) (b' := b2) (by omega)
                replace hown : ((VB.alloc (.cells #[.int .i64 c0, .int .i64 c1, .bool c2, .int .i64 c3, .int .i64 c4, .string c5, .string c6, .string c7, .slice a8 n8 p8, .slice a9 n9 p9] 29)).setCell ⟨b2, 2, none⟩ (.slice (some ⟨VB.heap.size, 0, none⟩) 1 1)).ownsRow Bq 93 3 (.slice va j vc) j xs := World.ownsRow.kept hown (grown_set _ b2 2 _) (by
                  rcases e : Value.ownBlock (.slice va j vc) with _ | b
                  · exact .inl rfl
                  · refine .inr fun e2 => ?_
                    injection e2 with e2
                    exact hbx b e e2)
                replace hsz : Bq ≤ ((VB.alloc (.cells #[.int .i64 c0, .int .i64 c1, .bool c2, .int .i64 c3, .int .i64 c4, .string c5, .string c6, .string c7, .slice a8 n8 p8, .slice a9 n9 p9] 29)).setCell ⟨b2, 2, none⟩ (.slice (some ⟨VB.heap.size, 0, none⟩) 1 1)).heap.size := Nat.le_trans hsz (grown_set _ b2 2 _).size
                replace R2 : Bx _ W ((VB.alloc (.cells #[.int .i64 c0, .int .i64 c1, .bool c2, .int .i64 c3, .int .i64 c4, .string c5, .string c6, .string c7, .slice a8 n8 p8, .slice a9 n9 p9] 29)).setCell ⟨b2, 2, none⟩ (.slice (some ⟨VB.heap.size, 0, none⟩) 1 1)) b2 93 #[.string s1, .string s4, .slice (some ⟨VB.heap.size, 0, none⟩) 1 1] := R2.set 2 _
                have hcm := World.setCell_alloc_past (w := VB) (.cells #[.int .i64 c0, .int .i64 c1, .bool c2, .int .i64 c3, .int .i64 c4, .string c5, .string c6, .string c7, .slice a8 n8 p8, .slice a9 n9 p9] 29) b2 2 (.slice (some ⟨VB.heap.size, 0, none⟩) 1 1) hvb
                rw [hcm] at H R0 R1 R2 hown hsz
                clear hcm
                have x1 := R1.row.cell (i := 2) (v := .slice va j vc) rfl
                have ld2 := ldS_row (ys := [.string s1, .string s4, .slice (some ⟨VB.heap.size, 0, none⟩) 1 1]) R2.row rfl
                go_wp2_with (at_builtin; refine appTS rfl (.tmp 87) (.tmp 89) rfl L c τ _ W ((VB.setCell ⟨b2, 2, none⟩ (.slice (some ⟨VB.heap.size, 0, none⟩) 1 1)).alloc (.cells #[.int .i64 c0, .int .i64 c1, .bool c2, .int .i64 c3, .int .i64 c4, .string c5, .string c6, .string c7, .slice a8 n8 p8, .slice a9 n9 p9] 29)) Bq hB0 hsz (.slice va j vc) j xs [.string s1, .string s4, .slice (some ⟨VB.heap.size, 0, none⟩) 1 1] l (1 + We d) (VB.heap.size + 1) (by simp) rfl rfl H hown hrows hfree (GoodRow.source (by omega) (by omega) g9 (by rw [w9]; omega)) (by intro u hu; simp only [List.mem_cons, List.not_mem_nil, or_false] at hu; rcases hu with rfl | rfl | rfl <;> rfl) (by omega) ?_; intro v' w' hown3 hrows3 hfree3 H3 hk3; obtain ⟨g3, vc', rfl⟩ := slice_of_owns hown3; have R0n := R0.at' (hk3 _ R0.row.lt (own_not hown hb0q)); have R1n := R1.at' (hk3 _ R1.row.lt (own_not hown hb1q)); have y1 := R1n.row.cell (i := 2) (v := .slice va j vc) rfl; have y2 := R1n.row.soft 2)
                clear ld2
                have H4 := H3.setOwn R1n 2 (.slice (some ⟨g3, 0, none⟩) (j + 1) vc')
                have R14 := R1n.set 2 (.slice (some ⟨g3, 0, none⟩) (j + 1) vc')
                have R04 := R0n.other 2 (.slice (some ⟨g3, 0, none⟩) (j + 1) vc') (b' := b1) (by omega)
                have hown4 := own_turn hown3 (grown_set w' b1 2 (.slice (some ⟨g3, 0, none⟩) (j + 1) vc')) (by intro b e; injection e; omega)
                have hsz4 : Bq ≤ (w'.setCell ⟨b1, 2, none⟩ (.slice (some ⟨g3, 0, none⟩) (j + 1) vc')).heap.size := by have h1 := (grown_set w' b1 2 (.slice (some ⟨g3, 0, none⟩) (j + 1) vc')).size; have h3 := World.ownsRow.lt hown3 g3 rfl; omega
                go_roundw
                case rel => exact ⟨j + 1, _, some ⟨g3, 0, none⟩, vc', _, _, by omega, by go_num, hown4, hrows3, by simp [hll], by rw [List.sum_append, Nat.add_mul, Nat.one_mul]; simp; omega, H4, hfree3, hsz4, R04, R14, g1, w1⟩
                case measure => simp [intOf]; omega
        · have ej : j = k2 + 1 := by omega
          have hge : ¬ ((j : Int) < 1 + (k2 : Int)) := by omega
          obtain ⟨τ1, hinv, hle, hsame, hoth, gg, ww⟩ := H.inv.adoptOwn (ty := .sources) rfl (Nat.le_trans H.hi hB0) hown hll.symm hrows (fun g _ _ hg => hfree g hg)
          replace R0 := R0.tau (hsame _ hb0q)
          replace R1 := R1.tau (hsame _ hb1q)
          have H' : DS L c τ τ1 W wr := ⟨H.cur, hinv, H.grown, H.le.trans hle, fun g hg => (hsame g (by omega)).trans (H.same g hg), H.lo, H.hi⟩
          replace w1 := (by rw [(g1.le hle).2]; exact w1 : slw τ1 (.slice va1 n1 vc1) ≤ _)
          replace g1 := (g1.le hle).1
          replace ww : slw τ1 (.slice va j vc) ≤ 2 * (1 + We d) := Nat.le_trans ww (Nat.le_trans hls (Nat.mul_le_mul_right _ (by omega)))
          clear H hinv hle hsame hoth hown hrows hls hfree hll hj hlt hsz hB0 hb0q hb1q ej
          have H := H'
          clear H'
          obtain ⟨va2, n2, vc2, hv⟩ : ∃ a n cc, Value.slice va j vc = .slice a n cc := ⟨_, _, _, rfl⟩
          rw [hv] at R1 gg ww
          clear hv
          have g2 := gg
          have w2 := ww
          clear gg ww
          go_wp2_with fail
          refine (once_any 2 c.B c.C c.a c.len c.cap _ H.cur (by omega) (by omega)).mono ?_
          rintro e X1 ⟨wo, rfl, hc, hg⟩
          replace R0 := R0.drawC H hg
          replace R1 := R1.drawC H hg
          replace H := H.draw hc hg
          clear hc hg
          cases wo
          · go_wp2_with fail
            refine (once_any 3 c.B c.C c.a c.len c.cap _ H.cur (by omega) (by omega)).mono ?_
            rintro e Y1 ⟨od, rfl, hc, hg⟩
            replace R0 := R0.drawC H hg
            replace R1 := R1.drawC H hg
            replace H := H.draw hc hg
            clear hc hg
            cases od
            · go_wp2_with fail
              refine (once_any 4 c.B c.C c.a c.len c.cap _ H.cur (by omega) (by omega)).mono ?_
              rintro e Z1 ⟨lm, rfl, hc, hg⟩
              replace R0 := R0.drawC H hg
              replace R1 := R1.drawC H hg
              replace H := H.draw hc hg
              clear hc hg
              cases lm
              · have HF := finE H R0 (ys := [.bool qb, .slice va1 n1 vc1, .slice va2 n2 vc2, .slice none 0 0, .slice none 0 0, .int .i64 (-1)]) (N := 3 + 6 * We d) (GoodRow.query g1 g2 (GoodV.nil _ _ rfl) (GoodV.nil _ _ rfl) (by decide) (by show 1 + (_ + _ + 0 + 0) ≤ _; omega))
                have hb := R0.row.setRow [.bool qb, .slice va1 n1 vc1, .slice va2 n2 vc2, .slice none 0 0, .slice none 0 0, .int .i64 (-1)].toArray
                have ld := ldQ_row (ys := [.bool qb, .slice va1 n1 vc1, .slice va2 n2 vc2, .slice none 0 0, .slice none 0 0, .int .i64 (-1)]) R1.row rfl
                have st := stQ_row (ys := [.bool qb, .slice va1 n1 vc1, .slice va2 n2 vc2, .slice none 0 0, .slice none 0 0, .int .i64 (-1)]) R0.row rfl rfl rfl
                go_wp2_with fail
                generalize Z1.setRow W.heap.size [.bool qb, .slice va1 n1 vc1, .slice va2 n2 vc2, .slice none 0 0, .slice none 0 0, .int .i64 (-1)].toArray = wf at hb HF ⊢
                have f0 := hb.cell (i := 0) (v := .bool qb) rfl
                have f1 := hb.cell (i := 1) (v := .slice va1 n1 vc1) rfl
                have f2 := hb.cell (i := 2) (v := .slice va2 n2 vc2) rfl
                have f3 := hb.cell (i := 3) (v := .slice none 0 0) rfl
                have f4 := hb.cell (i := 4) (v := .slice none 0 0) rfl
                have f5 := hb.cell (i := 5) (v := .int .i64 (-1)) rfl
                refine bodyPost_ret (v := .agg #[.bool qb, .slice va1 n1 vc1, .slice va2 n2 vc2, .slice none 0 0, .slice none 0 0, .int .i64 (-1)]) (by simp [results, Try.results152, go_sem, f0, f1, f2, f3, f4, f5]) rfl ?_
                exact HF
              · go_wp2_with fail
                refine (pickInt_any Z1.heap.size 4 0 9223372036854775807 c.B c.C c.a c.len c.cap _ (Cur.alloc H.cur _) (by omega) (by omega) (by simp) (by have := H.ltC; have := H.size; omega) ?_).mono ?_
                · intro i hi
                  have hrow := RowAt.new Z1 3 #[.int .i64 0, .int .i64 1, .int .i64 2, .int .i64 9223372036854775807]
                  rcases (show i = 0 ∨ i = 1 ∨ i = 2 ∨ i = 3 by omega) with rfl | rfl | rfl | rfl <;> exact ⟨_, by decide, by decide, hrow.cell rfl⟩
                rintro e Z2 ⟨q, hq0, hq1, rfl, hc, hg⟩
                replace hg := grown_tr (grown_alloc Z1 _ (some c.C)) hg
                replace R0 := R0.drawC H hg
                replace R1 := R1.drawC H hg
                replace H := H.draw hc hg
                clear hc hg
                have x3 := R1.row.cell (i := 5) (v := .int .i64 (-1)) rfl
                have z3 := R1.row.soft 5
                replace H := H.setOwn R1 5 (.int .i64 q)
                replace R0 := R0.other 5 (.int .i64 q) (b' := b1) (by omega)
                replace R1 : Bx _ W (Z2.setCell ⟨b1, 5, none⟩ (.int .i64 q)) b1 38 #[.bool qb, .slice va1 n1 vc1, .slice va2 n2 vc2, .slice none 0 0, .slice none 0 0, .int .i64 q] := R1.set 5 _
                have HF := finE H R0 (ys := [.bool qb, .slice va1 n1 vc1, .slice va2 n2 vc2, .slice none 0 0, .slice none 0 0, .int .i64 q]) (N := 3 + 6 * We d) (GoodRow.query g1 g2 (GoodV.nil _ _ rfl) (GoodV.nil _ _ rfl) (by omega) (by show 1 + (_ + _ + 0 + 0) ≤ _; omega))
                have hb := R0.row.setRow [.bool qb, .slice va1 n1 vc1, .slice va2 n2 vc2, .slice none 0 0, .slice none 0 0, .int .i64 q].toArray
                have ld := ldQ_row (ys := [.bool qb, .slice va1 n1 vc1, .slice va2 n2 vc2, .slice none 0 0, .slice none 0 0, .int .i64 q]) R1.row rfl
                have st := stQ_row (ys := [.bool qb, .slice va1 n1 vc1, .slice va2 n2 vc2, .slice none 0 0, .slice none 0 0, .int .i64 q]) R0.row rfl rfl rfl
                go_wp2_with fail
                generalize (Z2.setCell ⟨b1, 5, none⟩ (.int .i64 q)).setRow W.heap.size [.bool qb, .slice va1 n1 vc1, .slice va2 n2 vc2, .slice none 0 0, .slice none 0 0, .int .i64 q].toArray = wf at hb HF ⊢
                have f0 := hb.cell (i := 0) (v := .bool qb) rfl
                have f1 := hb.cell (i := 1) (v := .slice va1 n1 vc1) rfl
                have f2 := hb.cell (i := 2) (v := .slice va2 n2 vc2) rfl
                have f3 := hb.cell (i := 3) (v := .slice none 0 0) rfl
                have f4 := hb.cell (i := 4) (v := .slice none 0 0) rfl
                have f5 := hb.cell (i := 5) (v := .int .i64 q) rfl
                refine bodyPost_ret (v := .agg #[.bool qb, .slice va1 n1 vc1, .slice va2 n2 vc2, .slice none 0 0, .slice none 0 0, .int .i64 q]) (by simp [results, Try.results152, go_sem, f0, f1, f2, f3, f4, f5]) rfl ?_
                exact HF
            · obtain ⟨Bq, hBq⟩ : ∃ Bq, Bq = Y1.heap.size := ⟨_, rfl⟩
              have hB0 : W.heap.size ≤ Bq := by rw [hBq]; exact H.size
              have hb0q : W.heap.size < Bq := by rw [hBq]; exact R0.row.lt
              have hb1q : b1 < Bq := by rw [hBq]; exact R1.row.lt
              have hd0 : Y1.grownBy Y1.drew (some c.C) := ⟨rfl, rfl, rfl, Nat.le_refl _, fun _ _ _ => rfl⟩
              have Hd := H.draw (W' := Y1.drew) H.cur hd0
              have R0d := R0.drawC H hd0
              have R1d := R1.drawC H hd0
              have hbY : Bq ≤ Y1.heap.size := by omega
              clear hBq
              have x1 := R1.row.cell (i := 4) (v := .slice none 0 0) rfl
              have hb15 : b1 < Y1.heap.size := R1.row.lt
              go_wp2_with fail
              go_region_law (first
                | (refine step_append_q rfl (.tmp 102) (.tmp 109) _ _ rfl _ _ rfl rfl _ wq HRUN.out ?_)
                | (go_simp; go_at_call 85; refine (IH L c _ _ Hd.here).mono ?_; rintro e Y2 ⟨τY, es, rfl, he, K⟩; have R0y := R0d.call Hd K; have R1y := R1d.call Hd K; have Hy := Hd.call K; have g1y := (g1.le K.le).1; have w1y := (by rw [(g1.le K.le).2]; exact w1 : slw τY (.slice va1 n1 vc1) ≤ 2 * We d); have g2y := (g2.le K.le).1; have w2y := (by rw [(g2.le K.le).2]; exact w2 : slw τY (.slice va2 n2 vc2) ≤ 2 * (1 + We d)); obtain ⟨c0, c1, c2, c3, c4, c5, c6, c7, a8, n8, p8, a9, n9, p9, rfl⟩ := he.tenS; have x1y := R1y.row.cell (i := 4) (v := .slice none 0 0) rfl; have hb1y := R1y.row.lt; have hBy : Bq ≤ Y2.heap.size := (by have := K.grown.size; have e : Y1.drew.heap.size = Y1.heap.size := rfl; omega); go_simp)
                | (go_simp; go_at_call 83; refine (once_any 2 c.B c.C c.a c.len c.cap _ Hy.cur (by omega) (by omega)).mono ?_; rintro e Y3 ⟨od2, rfl, hc, hg⟩; have R0z := R0y.drawC Hy hg; have R1z := R1y.drawC Hy hg; have hBz := Nat.le_trans hBy hg.size; have Hz := Hy.draw hc hg; obtain ⟨g3, vc', wq, hrun, hown3, hrows3, hfree3, H3, hk3⟩ := runTK 36 L c τ _ W Y3 Bq hB0 hBz (.slice none 0 0) 0 [] [.int .i64 c0, .int .i64 c1, .bool c2, .int .i64 c3, .int .i64 c4, .string c5, .string c6, .string c7, .slice a8 n8 p8, .slice a9 n9 p9, .bool od2] [] (We d) Hz ⟨rfl, .inl ⟨rfl, rfl⟩⟩ (RowsOk.nil _ _ _) (fun g hg => by cases hg) (GoodRow.key he od2) (by intro u hu; simp only [List.mem_cons, List.not_mem_nil, or_false] at hu; rcases hu with rfl | rfl | rfl | rfl | rfl | rfl | rfl | rfl | rfl | rfl | rfl <;> rfl) (by omega); have HRUN := Lib.hid hrun; clear hrun; have R0n := R0z.at' (hk3 _ R0z.row.lt (by intro e; cases e)); have R1n := R1z.at' (hk3 _ R1z.row.lt (by intro e; cases e)); have x1z := R1z.row.cell (i := 4) (v := .slice none 0 0) rfl; have hb1z := R1z.row.lt; have y1 := R1n.row.cell (i := 4) (v := .slice none 0 0) rfl; have y2 := R1n.row.soft 4; clear hc hg; go_simp))
              all_goals
                have H4 := H3.setOwn R1n 4 (.slice (some ⟨g3, 0, none⟩) 1 vc')
                have R14 := R1n.set 4 (.slice (some ⟨g3, 0, none⟩) 1 vc')
                have R04 := R0n.other 4 (.slice (some ⟨g3, 0, none⟩) 1 vc') (b' := b1) (by omega)
                have hown4 := own_turn hown3 (grown_set wq b1 4 (.slice (some ⟨g3, 0, none⟩) 1 vc')) (by intro b e; injection e; omega)
                go_wp2_with fail
                generalize wq.setCell ⟨b1, 4, none⟩ (.slice (some ⟨g3, 0, none⟩) 1 vc') = Y9 at H4 R04 R14 hown4 ⊢
                obtain ⟨τ9, hinv, hle, hsame, hoth, g4, w4⟩ := H4.inv.adoptOwn (ty := .keys) rfl (Nat.le_trans H4.hi hB0) hown4 rfl hrows3 (fun g _ _ hg => by injection hg with hg; rw [← hg]; exact hfree3)
                replace R0 : Bx τ9 W Y9 W.heap.size 38 #[.bool false, .slice none 0 0, .slice none 0 0, .slice none 0 0, .slice none 0 0, .int .i64 0] := R04.tau (hsame _ hb0q)
                replace R1 : Bx τ9 W Y9 b1 38 #[.bool qb, .slice va1 n1 vc1, .slice va2 n2 vc2, .slice none 0 0, .slice (some ⟨g3, 0, none⟩) 1 vc', .int .i64 (-1)] := R14.tau (hsame _ hb1q)
                replace H : DS L c τ τ9 W Y9 := ⟨H4.cur, hinv, H4.grown, H4.le.trans hle, fun g hg => (hsame g (by omega)).trans (H4.same g hg), H4.lo, H4.hi⟩
                replace w4 : slw τ9 (.slice (some ⟨g3, 0, none⟩) 1 vc') ≤ We d := by simpa using w4
                replace g4 : GoodV τ9 1000 .keys (.slice (some ⟨g3, 0, none⟩) 1 vc') := g4
                replace w1 := (by rw [(g1y.le hle).2]; exact w1y : slw τ9 (.slice va1 n1 vc1) ≤ 2 * We d)
                replace g1 := (g1y.le hle).1
                replace w2 := (by rw [(g2y.le hle).2]; exact w2y : slw τ9 (.slice va2 n2 vc2) ≤ 2 * (1 + We d))
                replace g2 := (g2y.le hle).1
                clear g1y w1y g2y w2y H4 R04 R14 hown4 hown3 hrows3 H3 hk3 HRUN hinv hle hsame hoth he K Hy Hz Hd R0d R1d R0y R1y R0z R1z R0n R1n
                go_wp2_with fail
                refine (once_any 4 c.B c.C c.a c.len c.cap _ H.cur (by omega) (by omega)).mono ?_
                rintro e Z1 ⟨lm, rfl, hc, hg⟩
                replace R0 := R0.drawC H hg
                replace R1 := R1.drawC H hg
                replace H := H.draw hc hg
                clear hc hg
                cases lm
                · have HF := finE H R0 (ys := [.bool qb, .slice va1 n1 vc1, .slice va2 n2 vc2, .slice none 0 0, .slice (some ⟨g3, 0, none⟩) 1 vc', .int .i64 (-1)]) (N := 3 + 6 * We d) (GoodRow.query g1 g2 (GoodV.nil _ _ rfl) g4 (by decide) (by show 1 + (_ + _ + 0 + slw _ _) ≤ _; omega))
                  have hb := R0.row.setRow [.bool qb, .slice va1 n1 vc1, .slice va2 n2 vc2, .slice none 0 0, .slice (some ⟨g3, 0, none⟩) 1 vc', .int .i64 (-1)].toArray
                  have ld := ldQ_row (ys := [.bool qb, .slice va1 n1 vc1, .slice va2 n2 vc2, .slice none 0 0, .slice (some ⟨g3, 0, none⟩) 1 vc', .int .i64 (-1)]) R1.row rfl
                  have st := stQ_row (ys := [.bool qb, .slice va1 n1 vc1, .slice va2 n2 vc2, .slice none 0 0, .slice (some ⟨g3, 0, none⟩) 1 vc', .int .i64 (-1)]) R0.row rfl rfl rfl
                  go_wp2_with fail
                  generalize Z1.setRow W.heap.size [.bool qb, .slice va1 n1 vc1, .slice va2 n2 vc2, .slice none 0 0, .slice (some ⟨g3, 0, none⟩) 1 vc', .int .i64 (-1)].toArray = wf at hb HF ⊢
                  have f0 := hb.cell (i := 0) (v := .bool qb) rfl
                  have f1 := hb.cell (i := 1) (v := .slice va1 n1 vc1) rfl
                  have f2 := hb.cell (i := 2) (v := .slice va2 n2 vc2) rfl
                  have f3 := hb.cell (i := 3) (v := .slice none 0 0) rfl
                  have f4 := hb.cell (i := 4) (v := .slice (some ⟨g3, 0, none⟩) 1 vc') rfl
                  have f5 := hb.cell (i := 5) (v := .int .i64 (-1)) rfl
                  refine bodyPost_ret (v := .agg #[.bool qb, .slice va1 n1 vc1, .slice va2 n2 vc2, .slice none 0 0, .slice (some ⟨g3, 0, none⟩) 1 vc', .int .i64 (-1)]) (by simp [results, Try.results152, go_sem, f0, f1, f2, f3, f4, f5]) rfl ?_
                  exact HF
                · go_wp2_with fail
                  refine (pickInt_any Z1.heap.size 4 0 9223372036854775807 c.B c.C c.a c.len c.cap _ (Cur.alloc H.cur _) (by omega) (by omega) (by simp) (by have := H.ltC; have := H.size; omega) ?_).mono ?_
                  · intro i hi
                    have hrow := RowAt.new Z1 3 #[.int .i64 0, .int .i64 1, .int .i64 2, .int .i64 9223372036854775807]
                    rcases (show i = 0 ∨ i = 1 ∨ i = 2 ∨ i = 3 by omega) with rfl | rfl | rfl | rfl <;> exact ⟨_, by decide, by decide, hrow.cell rfl⟩
                  rintro e Z2 ⟨q, hq0, hq1, rfl, hc, hg⟩
                  replace hg := grown_tr (grown_alloc Z1 _ (some c.C)) hg
                  replace R0 := R0.drawC H hg
                  replace R1 := R1.drawC H hg
                  replace H := H.draw hc hg
                  clear hc hg
                  have x3 := R1.row.cell (i := 5) (v := .int .i64 (-1)) rfl
                  have z3 := R1.row.soft 5
                  replace H := H.setOwn R1 5 (.int .i64 q)
                  replace R0 := R0.other 5 (.int .i64 q) (b' := b1) (by omega)
                  replace R1 : Bx _ W (Z2.setCell ⟨b1, 5, none⟩ (.int .i64 q)) b1 38 #[.bool qb, .slice va1 n1 vc1, .slice va2 n2 vc2, .slice none 0 0, .slice (some ⟨g3, 0, none⟩) 1 vc', .int .i64 q] := R1.set 5 _
                  have HF := finE H R0 (ys := [.bool qb, .slice va1 n1 vc1, .slice va2 n2 vc2, .slice none 0 0, .slice (some ⟨g3, 0, none⟩) 1 vc', .int .i64 q]) (N := 3 + 6 * We d) (GoodRow.query g1 g2 (GoodV.nil _ _ rfl) g4 (by omega) (by show 1 + (_ + _ + 0 + slw _ _) ≤ _; omega))
                  have hb := R0.row.setRow [.bool qb, .slice va1 n1 vc1, .slice va2 n2 vc2, .slice none 0 0, .slice (some ⟨g3, 0, none⟩) 1 vc', .int .i64 q].toArray
                  have ld := ldQ_row (ys := [.bool qb, .slice va1 n1 vc1, .slice va2 n2 vc2, .slice none 0 0, .slice (some ⟨g3, 0, none⟩) 1 vc', .int .i64 q]) R1.row rfl
                  have st := stQ_row (ys := [.bool qb, .slice va1 n1 vc1, .slice va2 n2 vc2, .slice none 0 0, .slice (some ⟨g3, 0, none⟩) 1 vc', .int .i64 q]) R0.row rfl rfl rfl
                  go_wp2_with fail
                  generalize (Z2.setCell ⟨b1, 5, none⟩ (.int .i64 q)).setRow W.heap.size [.bool qb, .slice va1 n1 vc1, .slice va2 n2 vc2, .slice none 0 0, .slice (some ⟨g3, 0, none⟩) 1 vc', .int .i64 q].toArray = wf at hb HF ⊢
                  have f0 := hb.cell (i := 0) (v := .bool qb) rfl
                  have f1 := hb.cell (i := 1) (v := .slice va1 n1 vc1) rfl
                  have f2 := hb.cell (i := 2) (v := .slice va2 n2 vc2) rfl
                  have f3 := hb.cell (i := 3) (v := .slice none 0 0) rfl
                  have f4 := hb.cell (i := 4) (v := .slice (some ⟨g3, 0, none⟩) 1 vc') rfl
                  have f5 := hb.cell (i := 5) (v := .int .i64 q) rfl
                  refine bodyPost_ret (v := .agg #[.bool qb, .slice va1 n1 vc1, .slice va2 n2 vc2, .slice none 0 0, .slice (some ⟨g3, 0, none⟩) 1 vc', .int .i64 q]) (by simp [results, Try.results152, go_sem, f0, f1, f2, f3, f4, f5]) rfl ?_
                  exact HF
          · go_wp2_with fail
            refine (IH L c _ _ H.here).mono ?_
            rintro e X2 ⟨τX2, es, rfl, he, K⟩
            replace R0 := R0.call H K
            replace R1 := R1.call H K
            replace w1 := (by rw [(g1.le K.le).2]; exact w1 : slw τX2 (.slice va1 n1 vc1) ≤ _)
            replace g1 := (g1.le K.le).1
            replace w2 := (by rw [(g2.le K.le).2]; exact w2 : slw τX2 (.slice va2 n2 vc2) ≤ _)
            replace g2 := (g2.le K.le).1
            replace H := H.call K
            clear K
            obtain ⟨c0, c1, c2, c3, c4, c5, c6, c7, a8, n8, p8, a9, n9, p9, rfl⟩ := he.tenS
            have hvx : b1 < X2.heap.size := R1.row.lt
            obtain ⟨H', g9, w9, le9⟩ := H.adopt1 rfl he
            replace w1 := (by rw [(g1.le le9).2]; exact w1 : slw (tupd τX2 X2.heap.size (.exprs, 1, [We d])) (.slice va1 n1 vc1) ≤ _)
            replace g1 := (g1.le le9).1
            replace w2 := (by rw [(g2.le le9).2]; exact w2 : slw (tupd τX2 X2.heap.size (.exprs, 1, [We d])) (.slice va2 n2 vc2) ≤ _)
            replace g2 := (g2.le le9).1
            replace R0 : Bx _ W (X2.alloc (.cells #[.int .i64 c0, .int .i64 c1, .bool c2, .int .i64 c3, .int .i64 c4, .string c5, .string c6, .string c7, .slice a8 n8 p8, .slice a9 n9 p9] 29)) W.heap.size 38 #[.bool false, .slice none 0 0, .slice none 0 0, .slice none 0 0, .slice none 0 0, .int .i64 0] := R0.adopt (.exprs, 1, [We d]) _
            replace R1 : Bx _ W (X2.alloc (.cells #[.int .i64 c0, .int .i64 c1, .bool c2, .int .i64 c3, .int .i64 c4, .string c5, .string c6, .string c7, .slice a8 n8 p8, .slice a9 n9 p9] 29)) b1 38 #[.bool qb, .slice va1 n1 vc1, .slice va2 n2 vc2, .slice none 0 0, .slice none 0 0, .int .i64 (-1)] := R1.adopt (.exprs, 1, [We d]) _
            clear H
            have H : DS L c τ _ W (X2.alloc (.cells #[.int .i64 c0, .int .i64 c1, .bool c2, .int .i64 c3, .int .i64 c4, .string c5, .string c6, .string c7, .slice a8 n8 p8, .slice a9 n9 p9] 29)) := H'
            clear H'
            have x3 := R1.row.cell (i := 3) (v := .slice none 0 0) rfl
            have z3 := R1.row.soft 3
            replace H := H.setOwn R1 3 (.slice (some ⟨X2.heap.size, 0, none⟩) 1 1)
            replace R0 := R0.other 3 (.slice (some ⟨X2.heap.size, 0, none⟩) 1 1) (b' := b1) (by omega)
            replace R1 : Bx _ W ((X2.alloc (.cells #[.int .i64 c0, .int .i64 c1, .bool c2, .int .i64 c3, .int .i64 c4, .string c5, .string c6, .string c7, .slice a8 n8 p8, .slice a9 n9 p9] 29)).setCell ⟨b1, 3, none⟩ (.slice (some ⟨X2.heap.size, 0, none⟩) 1 1)) b1 38 #[.bool qb, .slice va1 n1 vc1, .slice va2 n2 vc2, .slice (some ⟨X2.heap.size, 0, none⟩) 1 1, .slice none 0 0, .int .i64 (-1)] := R1.set 3 _
            rw [World.setCell_alloc_past (w := X2) _ b1 3 _ hvx] at R0 R1 H
            go_wp2_with fail
            generalize (X2.setCell ⟨b1, 3, none⟩ (.slice (some ⟨X2.heap.size, 0, none⟩) 1 1)).alloc (.cells #[.int .i64 c0, .int .i64 c1, .bool c2, .int .i64 c3, .int .i64 c4, .string c5, .string c6, .string c7, .slice a8 n8 p8, .slice a9 n9 p9] 29) = X3 at R0 R1 H ⊢
            generalize τX2e : tupd τX2 X2.heap.size (.exprs, 1, [We d]) = τX3 at *
            generalize X2.heap.size = b5 at g9 w9 R1 ⊢
            go_wp2_with fail
            refine (once_any 3 c.B c.C c.a c.len c.cap _ H.cur (by omega) (by omega)).mono ?_
            rintro e Y1 ⟨od, rfl, hc, hg⟩
            replace R0 := R0.drawC H hg
            replace R1 := R1.drawC H hg
            replace H := H.draw hc hg
            clear hc hg
            cases od
            · go_wp2_with fail
              refine (once_any 4 c.B c.C c.a c.len c.cap _ H.cur (by omega) (by omega)).mono ?_
              rintro e Z1 ⟨lm, rfl, hc, hg⟩
              replace R0 := R0.drawC H hg
              replace R1 := R1.drawC H hg
              replace H := H.draw hc hg
              clear hc hg
              cases lm
              · have HF := finE H R0 (ys := [.bool qb, .slice va1 n1 vc1, .slice va2 n2 vc2, .slice (some ⟨b5, 0, none⟩) 1 1, .slice none 0 0, .int .i64 (-1)]) (N := 3 + 6 * We d) (GoodRow.query g1 g2 g9 (GoodV.nil _ _ rfl) (by decide) (by show 1 + (_ + _ + slw _ _ + 0) ≤ _; omega))
                have hb := R0.row.setRow [.bool qb, .slice va1 n1 vc1, .slice va2 n2 vc2, .slice (some ⟨b5, 0, none⟩) 1 1, .slice none 0 0, .int .i64 (-1)].toArray
                have ld := ldQ_row (ys := [.bool qb, .slice va1 n1 vc1, .slice va2 n2 vc2, .slice (some ⟨b5, 0, none⟩) 1 1, .slice none 0 0, .int .i64 (-1)]) R1.row rfl
                have st := stQ_row (ys := [.bool qb, .slice va1 n1 vc1, .slice va2 n2 vc2, .slice (some ⟨b5, 0, none⟩) 1 1, .slice none 0 0, .int .i64 (-1)]) R0.row rfl rfl rfl
                go_wp2_with fail
                generalize Z1.setRow W.heap.size [.bool qb, .slice va1 n1 vc1, .slice va2 n2 vc2, .slice (some ⟨b5, 0, none⟩) 1 1, .slice none 0 0, .int .i64 (-1)].toArray = wf at hb HF ⊢
                have f0 := hb.cell (i := 0) (v := .bool qb) rfl
                have f1 := hb.cell (i := 1) (v := .slice va1 n1 vc1) rfl
                have f2 := hb.cell (i := 2) (v := .slice va2 n2 vc2) rfl
                have f3 := hb.cell (i := 3) (v := .slice (some ⟨b5, 0, none⟩) 1 1) rfl
                have f4 := hb.cell (i := 4) (v := .slice none 0 0) rfl
                have f5 := hb.cell (i := 5) (v := .int .i64 (-1)) rfl
                refine bodyPost_ret (v := .agg #[.bool qb, .slice va1 n1 vc1, .slice va2 n2 vc2, .slice (some ⟨b5, 0, none⟩) 1 1, .slice none 0 0, .int .i64 (-1)]) (by simp [results, Try.results152, go_sem, f0, f1, f2, f3, f4, f5]) rfl ?_
                exact HF
              · go_wp2_with fail
                refine (pickInt_any Z1.heap.size 4 0 9223372036854775807 c.B c.C c.a c.len c.cap _ (Cur.alloc H.cur _) (by omega) (by omega) (by simp) (by have := H.ltC; have := H.size; omega) ?_).mono ?_
                · intro i hi
                  have hrow := RowAt.new Z1 3 #[.int .i64 0, .int .i64 1, .int .i64 2, .int .i64 9223372036854775807]
                  rcases (show i = 0 ∨ i = 1 ∨ i = 2 ∨ i = 3 by omega) with rfl | rfl | rfl | rfl <;> exact ⟨_, by decide, by decide, hrow.cell rfl⟩
                rintro e Z2 ⟨q, hq0, hq1, rfl, hc, hg⟩
                replace hg := grown_tr (grown_alloc Z1 _ (some c.C)) hg
                replace R0 := R0.drawC H hg
                replace R1 := R1.drawC H hg
                replace H := H.draw hc hg
                clear hc hg
                have x3 := R1.row.cell (i := 5) (v := .int .i64 (-1)) rfl
                have z3 := R1.row.soft 5
                replace H := H.setOwn R1 5 (.int .i64 q)
                replace R0 := R0.other 5 (.int .i64 q) (b' := b1) (by omega)
                replace R1 : Bx _ W (Z2.setCell ⟨b1, 5, none⟩ (.int .i64 q)) b1 38 #[.bool qb, .slice va1 n1 vc1, .slice va2 n2 vc2, .slice (some ⟨b5, 0, none⟩) 1 1, .slice none 0 0, .int .i64 q] := R1.set 5 _
                have HF := finE H R0 (ys := [.bool qb, .slice va1 n1 vc1, .slice va2 n2 vc2, .slice (some ⟨b5, 0, none⟩) 1 1, .slice none 0 0, .int .i64 q]) (N := 3 + 6 * We d) (GoodRow.query g1 g2 g9 (GoodV.nil _ _ rfl) (by omega) (by show 1 + (_ + _ + slw _ _ + 0) ≤ _; omega))
                have hb := R0.row.setRow [.bool qb, .slice va1 n1 vc1, .slice va2 n2 vc2, .slice (some ⟨b5, 0, none⟩) 1 1, .slice none 0 0, .int .i64 q].toArray
                have ld := ldQ_row (ys := [.bool qb, .slice va1 n1 vc1, .slice va2 n2 vc2, .slice (some ⟨b5, 0, none⟩) 1 1, .slice none 0 0, .int .i64 q]) R1.row rfl
                have st := stQ_row (ys := [.bool qb, .slice va1 n1 vc1, .slice va2 n2 vc2, .slice (some ⟨b5, 0, none⟩) 1 1, .slice none 0 0, .int .i64 q]) R0.row rfl rfl rfl
                go_wp2_with fail
                generalize (Z2.setCell ⟨b1, 5, none⟩ (.int .i64 q)).setRow W.heap.size [.bool qb, .slice va1 n1 vc1, .slice va2 n2 vc2, .slice (some ⟨b5, 0, none⟩) 1 1, .slice none 0 0, .int .i64 q].toArray = wf at hb HF ⊢
                have f0 := hb.cell (i := 0) (v := .bool qb) rfl
                have f1 := hb.cell (i := 1) (v := .slice va1 n1 vc1) rfl
                have f2 := hb.cell (i := 2) (v := .slice va2 n2 vc2) rfl
                have f3 := hb.cell (i := 3) (v := .slice (some ⟨b5, 0, none⟩) 1 1) rfl
                have f4 := hb.cell (i := 4) (v := .slice none 0 0) rfl
                have f5 := hb.cell (i := 5) (v := .int .i64 q) rfl
                refine bodyPost_ret (v := .agg #[.bool qb, .slice va1 n1 vc1, .slice va2 n2 vc2, .slice (some ⟨b5, 0, none⟩) 1 1, .slice none 0 0, .int .i64 q]) (by simp [results, Try.results152, go_sem, f0, f1, f2, f3, f4, f5]) rfl ?_
                exact HF
            · obtain ⟨Bq, hBq⟩ : ∃ Bq, Bq = Y1.heap.size := ⟨_, rfl⟩
              have hB0 : W.heap.size ≤ Bq := by rw [hBq]; exact H.size
              have hb0q : W.heap.size < Bq := by rw [hBq]; exact R0.row.lt
              have hb1q : b1 < Bq := by rw [hBq]; exact R1.row.lt
              have hd0 : Y1.grownBy Y1.drew (some c.C) := ⟨rfl, rfl, rfl, Nat.le_refl _, fun _ _ _ => rfl⟩
              have Hd := H.draw (W' := Y1.drew) H.cur hd0
              have R0d := R0.drawC H hd0
              have R1d := R1.drawC H hd0
              have hbY : Bq ≤ Y1.heap.size := by omega
              clear hBq
              have x1 := R1.row.cell (i := 4) (v := .slice none 0 0) rfl
              have hb15 : b1 < Y1.heap.size := R1.row.lt
              go_wp2_with fail
              go_region_law (first
                | (refine step_append_q rfl (.tmp 102) (.tmp 109) _ _ rfl _ _ rfl rfl _ wq HRUN.out ?_)
                | (go_simp; go_at_call 85; refine (IH L c _ _ Hd.here).mono ?_; rintro e Y2 ⟨τY, es, rfl, he, K⟩; have R0y := R0d.call Hd K; have R1y := R1d.call Hd K; have Hy := Hd.call K; have g1y := (g1.le K.le).1; have w1y := (by rw [(g1.le K.le).2]; exact w1 : slw τY (.slice va1 n1 vc1) ≤ 2 * We d); have g2y := (g2.le K.le).1; have w2y := (by rw [(g2.le K.le).2]; exact w2 : slw τY (.slice va2 n2 vc2) ≤ 2 * (1 + We d)); have g9y := (g9.le K.le).1; have w9y := (by rw [(g9.le K.le).2]; exact w9 : slw τY (.slice (some ⟨b5, 0, none⟩) 1 1) = We d); obtain ⟨c0, c1, c2, c3, c4, c5, c6, c7, a8, n8, p8, a9, n9, p9, rfl⟩ := he.tenS; have x1y := R1y.row.cell (i := 4) (v := .slice none 0 0) rfl; have hb1y := R1y.row.lt; have hBy : Bq ≤ Y2.heap.size := (by have := K.grown.size; have e : Y1.drew.heap.size = Y1.heap.size := rfl; omega); go_simp)
                | (go_simp; go_at_call 83; refine (once_any 2 c.B c.C c.a c.len c.cap _ Hy.cur (by omega) (by omega)).mono ?_; rintro e Y3 ⟨od2, rfl, hc, hg⟩; have R0z := R0y.drawC Hy hg; have R1z := R1y.drawC Hy hg; have hBz := Nat.le_trans hBy hg.size; have Hz := Hy.draw hc hg; obtain ⟨g3, vc', wq, hrun, hown3, hrows3, hfree3, H3, hk3⟩ := runTK 36 L c τ _ W Y3 Bq hB0 hBz (.slice none 0 0) 0 [] [.int .i64 c0, .int .i64 c1, .bool c2, .int .i64 c3, .int .i64 c4, .string c5, .string c6, .string c7, .slice a8 n8 p8, .slice a9 n9 p9, .bool od2] [] (We d) Hz ⟨rfl, .inl ⟨rfl, rfl⟩⟩ (RowsOk.nil _ _ _) (fun g hg => by cases hg) (GoodRow.key he od2) (by intro u hu; simp only [List.mem_cons, List.not_mem_nil, or_false] at hu; rcases hu with rfl | rfl | rfl | rfl | rfl | rfl | rfl | rfl | rfl | rfl | rfl <;> rfl) (by omega); have HRUN := Lib.hid hrun; clear hrun; have R0n := R0z.at' (hk3 _ R0z.row.lt (by intro e; cases e)); have R1n := R1z.at' (hk3 _ R1z.row.lt (by intro e; cases e)); have x1z := R1z.row.cell (i := 4) (v := .slice none 0 0) rfl; have hb1z := R1z.row.lt; have y1 := R1n.row.cell (i := 4) (v := .slice none 0 0) rfl; have y2 := R1n.row.soft 4; clear hc hg; go_simp))
              all_goals
                have H4 := H3.setOwn R1n 4 (.slice (some ⟨g3, 0, none⟩) 1 vc')
                have R14 := R1n.set 4 (.slice (some ⟨g3, 0, none⟩) 1 vc')
                have R04 := R0n.other 4 (.slice (some ⟨g3, 0, none⟩) 1 vc') (b' := b1) (by omega)
                have hown4 := own_turn hown3 (grown_set wq b1 4 (.slice (some ⟨g3, 0, none⟩) 1 vc')) (by intro b e; injection e; omega)
                go_wp2_with fail
                generalize wq.setCell ⟨b1, 4, none⟩ (.slice (some ⟨g3, 0, none⟩) 1 vc') = Y9 at H4 R04 R14 hown4 ⊢
                obtain ⟨τ9, hinv, hle, hsame, hoth, g4, w4⟩ := H4.inv.adoptOwn (ty := .keys) rfl (Nat.le_trans H4.hi hB0) hown4 rfl hrows3 (fun g _ _ hg => by injection hg with hg; rw [← hg]; exact hfree3)
                replace R0 : Bx τ9 W Y9 W.heap.size 38 #[.bool false, .slice none 0 0, .slice none 0 0, .slice none 0 0, .slice none 0 0, .int .i64 0] := R04.tau (hsame _ hb0q)
                replace R1 : Bx τ9 W Y9 b1 38 #[.bool qb, .slice va1 n1 vc1, .slice va2 n2 vc2, .slice (some ⟨b5, 0, none⟩) 1 1, .slice (some ⟨g3, 0, none⟩) 1 vc', .int .i64 (-1)] := R14.tau (hsame _ hb1q)
                replace H : DS L c τ τ9 W Y9 := ⟨H4.cur, hinv, H4.grown, H4.le.trans hle, fun g hg => (hsame g (by omega)).trans (H4.same g hg), H4.lo, H4.hi⟩
                replace w4 : slw τ9 (.slice (some ⟨g3, 0, none⟩) 1 vc') ≤ We d := by simpa using w4
                replace g4 : GoodV τ9 1000 .keys (.slice (some ⟨g3, 0, none⟩) 1 vc') := g4
                replace w1 := (by rw [(g1y.le hle).2]; exact w1y : slw τ9 (.slice va1 n1 vc1) ≤ 2 * We d)
                replace g1 := (g1y.le hle).1
                replace w2 := (by rw [(g2y.le hle).2]; exact w2y : slw τ9 (.slice va2 n2 vc2) ≤ 2 * (1 + We d))
                replace g2 := (g2y.le hle).1
                replace w9 := (by rw [(g9y.le hle).2]; exact w9y : slw τ9 (.slice (some ⟨b5, 0, none⟩) 1 1) = We d)
                replace g9 := (g9y.le hle).1
                clear g1y w1y g2y w2y g9y w9y H4 R04 R14 hown4 hown3 hrows3 H3 hk3 HRUN hinv hle hsame hoth he K Hy Hz Hd R0d R1d R0y R1y R0z R1z R0n R1n
                go_wp2_with fail
                refine (once_any 4 c.B c.C c.a c.len c.cap _ H.cur (by omega) (by omega)).mono ?_
                rintro e Z1 ⟨lm, rfl, hc, hg⟩
                replace R0 := R0.drawC H hg
                replace R1 := R1.drawC H hg
                replace H := H.draw hc hg
                clear hc hg
                cases lm
                · have HF := finE H R0 (ys := [.bool qb, .slice va1 n1 vc1, .slice va2 n2 vc2, .slice (some ⟨b5, 0, none⟩) 1 1, .slice (some ⟨g3, 0, none⟩) 1 vc', .int .i64 (-1)]) (N := 3 + 6 * We d) (GoodRow.query g1 g2 g9 g4 (by decide) (by show 1 + (_ + _ + slw _ _ + slw _ _) ≤ _; omega))
                  have hb := R0.row.setRow [.bool qb, .slice va1 n1 vc1, .slice va2 n2 vc2, .slice (some ⟨b5, 0, none⟩) 1 1, .slice (some ⟨g3, 0, none⟩) 1 vc', .int .i64 (-1)].toArray
                  have ld := ldQ_row (ys := [.bool qb, .slice va1 n1 vc1, .slice va2 n2 vc2, .slice (some ⟨b5, 0, none⟩) 1 1, .slice (some ⟨g3, 0, none⟩) 1 vc', .int .i64 (-1)]) R1.row rfl
                  have st := stQ_row (ys := [.bool qb, .slice va1 n1 vc1, .slice va2 n2 vc2, .slice (some ⟨b5, 0, none⟩) 1 1, .slice (some ⟨g3, 0, none⟩) 1 vc', .int .i64 (-1)]) R0.row rfl rfl rfl
                  go_wp2_with fail
                  generalize Z1.setRow W.heap.size [.bool qb, .slice va1 n1 vc1, .slice va2 n2 vc2, .slice (some ⟨b5, 0, none⟩) 1 1, .slice (some ⟨g3, 0, none⟩) 1 vc', .int .i64 (-1)].toArray = wf at hb HF ⊢
                  have f0 := hb.cell (i := 0) (v := .bool qb) rfl
                  have f1 := hb.cell (i := 1) (v := .slice va1 n1 vc1) rfl
                  have f2 := hb.cell (i := 2) (v := .slice va2 n2 vc2) rfl
                  have f3 := hb.cell (i := 3) (v := .slice (some ⟨b5, 0, none⟩) 1 1) rfl
                  have f4 := hb.cell (i := 4) (v := .slice (some ⟨g3, 0, none⟩) 1 vc') rfl
                  have f5 := hb.cell (i := 5) (v := .int .i64 (-1)) rfl
                  refine bodyPost_ret (v := .agg #[.bool qb, .slice va1 n1 vc1, .slice va2 n2 vc2, .slice (some ⟨b5, 0, none⟩) 1 1, .slice (some ⟨g3, 0, none⟩) 1 vc', .int .i64 (-1)]) (by simp [results, Try.results152, go_sem, f0, f1, f2, f3, f4, f5]) rfl ?_
                  exact HF
                · go_wp2_with fail
                  refine (pickInt_any Z1.heap.size 4 0 9223372036854775807 c.B c.C c.a c.len c.cap _ (Cur.alloc H.cur _) (by omega) (by omega) (by simp) (by have := H.ltC; have := H.size; omega) ?_).mono ?_
                  · intro i hi
                    have hrow := RowAt.new Z1 3 #[.int .i64 0, .int .i64 1, .int .i64 2, .int .i64 9223372036854775807]
                    rcases (show i = 0 ∨ i = 1 ∨ i = 2 ∨ i = 3 by omega) with rfl | rfl | rfl | rfl <;> exact ⟨_, by decide, by decide, hrow.cell rfl⟩
                  rintro e Z2 ⟨q, hq0, hq1, rfl, hc, hg⟩
                  replace hg := grown_tr (grown_alloc Z1 _ (some c.C)) hg
                  replace R0 := R0.drawC H hg
                  replace R1 := R1.drawC H hg
                  replace H := H.draw hc hg
                  clear hc hg
                  have x3 := R1.row.cell (i := 5) (v := .int .i64 (-1)) rfl
                  have z3 := R1.row.soft 5
                  replace H := H.setOwn R1 5 (.int .i64 q)
                  replace R0 := R0.other 5 (.int .i64 q) (b' := b1) (by omega)
                  replace R1 : Bx _ W (Z2.setCell ⟨b1, 5, none⟩ (.int .i64 q)) b1 38 #[.bool qb, .slice va1 n1 vc1, .slice va2 n2 vc2, .slice (some ⟨b5, 0, none⟩) 1 1, .slice (some ⟨g3, 0, none⟩) 1 vc', .int .i64 q] := R1.set 5 _
                  have HF := finE H R0 (ys := [.bool qb, .slice va1 n1 vc1, .slice va2 n2 vc2, .slice (some ⟨b5, 0, none⟩) 1 1, .slice (some ⟨g3, 0, none⟩) 1 vc', .int .i64 q]) (N := 3 + 6 * We d) (GoodRow.query g1 g2 g9 g4 (by omega) (by show 1 + (_ + _ + slw _ _ + slw _ _) ≤ _; omega))
                  have hb := R0.row.setRow [.bool qb, .slice va1 n1 vc1, .slice va2 n2 vc2, .slice (some ⟨b5, 0, none⟩) 1 1, .slice (some ⟨g3, 0, none⟩) 1 vc', .int .i64 q].toArray
                  have ld := ldQ_row (ys := [.bool qb, .slice va1 n1 vc1, .slice va2 n2 vc2, .slice (some ⟨b5, 0, none⟩) 1 1, .slice (some ⟨g3, 0, none⟩) 1 vc', .int .i64 q]) R1.row rfl
                  have st := stQ_row (ys := [.bool qb, .slice va1 n1 vc1, .slice va2 n2 vc2, .slice (some ⟨b5, 0, none⟩) 1 1, .slice (some ⟨g3, 0, none⟩) 1 vc', .int .i64 q]) R0.row rfl rfl rfl
                  go_wp2_with fail
                  generalize (Z2.setCell ⟨b1, 5, none⟩ (.int .i64 q)).setRow W.heap.size [.bool qb, .slice va1 n1 vc1, .slice va2 n2 vc2, .slice (some ⟨b5, 0, none⟩) 1 1, .slice (some ⟨g3, 0, none⟩) 1 vc', .int .i64 q].toArray = wf at hb HF ⊢
                  have f0 := hb.cell (i := 0) (v := .bool qb) rfl
                  have f1 := hb.cell (i := 1) (v := .slice va1 n1 vc1) rfl
                  have f2 := hb.cell (i := 2) (v := .slice va2 n2 vc2) rfl
                  have f3 := hb.cell (i := 3) (v := .slice (some ⟨b5, 0, none⟩) 1 1) rfl
                  have f4 := hb.cell (i := 4) (v := .slice (some ⟨g3, 0, none⟩) 1 vc') rfl
                  have f5 := hb.cell (i := 5) (v := .int .i64 q) rfl
                  refine bodyPost_ret (v := .agg #[.bool qb, .slice va1 n1 vc1, .slice va2 n2 vc2, .slice (some ⟨b5, 0, none⟩) 1 1, .slice (some ⟨g3, 0, none⟩) 1 vc', .int .i64 q]) (by simp [results, Try.results152, go_sem, f0, f1, f2, f3, f4, f5]) rfl ?_
                  exact HF
end Go.Proofs.Ytkacelpndeoogaa
