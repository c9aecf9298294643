/- Joined texts: BentI. -/
import Derived.Test.YtkacelpndeoogaaQPO
/- l7Bent of the model: one place of a drawn tree is turned. -/
namespace Go.Proofs.Ytkacelpndeoogaa
open Go.RowKit
attribute [local go_sem ↓] execOp_ldE execOp_stE

theorem wpList_append_q {P : Program} {w : World} {ops : Array Oper} {rest : List Oper} {o : Oper} {a : Act} {Q : Exit → Act → World → Prop} (hgd : o.guard = none) (s x : Operand) (t tn : TypeId)
    (ho : o.op = .call { callee := .builtin .append, args := #[s, x], argTypes := #[t, tn] }) (vs vx : Value) (hs : a.eval s = vs) (hx : a.eval x = vx)
    (v' : Value) (w' : World) (hr : (Builtin.append_ #[t, tn] o.type #[vs, vx]).run P w = .ok v' w') (h : wpList P ops Q rest (a.put o.dst v') w') : wpList P ops Q (o :: rest) a w :=
  wpList_plain hgd fun _ hK => Lib.wp_append_run w s x t tn ho vs vx hs hx v' w' hr (hK _ _ h)
theorem stE_at {W : World} {g cap k : Nat} {cs ys : List Value} (h : RowAt W g 29 cs.toArray) (hlen : cs.length = cap * 10) (hk : k < cap) (hl : ys.length = 10) (ho : ys.all Value.oneCell' = true) :
    (stX 29 (.pointer (some ⟨g, k * 10, none⟩)) (.agg ys.toArray)).run Try.prog W = .ok .skip (W.setRow g (splice 10 cs k ys).toArray) := by
  have hfit := row_fits hlen hk
  have hst := run_storeCells_at (P := Try.prog) g (k * 10) 29 ys 0 cs.toArray W h (by simp; omega) (ones_of ys ho)
  have e : (cs.toArray.toList.take (k * 10 + 0) ++ ys ++ cs.toArray.toList.drop (k * 10 + 0 + ys.length)).toArray = (splice 10 cs k ys).toArray := by unfold splice; rw [hl]; rfl
  rw [e] at hst
  have hs : ∀ w, (sizeOf 29).run Try.prog w = .ok ys.length w := fun w => by rw [hl]; exact Try.sizeOf29 w
  simp [stX, Instr.storeAt, Instr.sureAddr, storeVar, Value.cells, hs, hst, Result.andThen]
def BentD (N L : Nat) (c : Cu) (τ : Tau) (W : World) (e : Ending) (W' : World) : Prop :=
  ∃ (τ1 τ' : Tau) (ys : List Value), e = .returned (.agg ys.toArray) ∧ Bump N τ τ1 ∧ TLe τ1 τ' ∧ GoodRow τ' 1000 .exprs ys N ∧ Inv L τ' 1000 W' ∧ c.at W' ∧ Kept c.C τ τ' W W'
def BentAt (N : Nat) : Prop := ∀ (L : Nat) (c : Cu) (τ : Tau) (W : World) (es : List Value), InvS L τ 1000 W → c.at W → c.C < L → L ≤ W.heap.size → Slack τ 1000 .exprs es N →
  Calls Try.prog 88 #[.pointer (some ⟨c.C, 0, none⟩), .agg es.toArray] W (BentD N L c τ W)
theorem bent_of {N L : Nat} {c : Cu} {τ : Tau} {W : World} {e : Ending} {W' : World} (h : RowD .exprs N L c τ W e W') : BentD N L c τ W e W' := by
  obtain ⟨τ', ys, rfl, hy, K⟩ := h
  exact ⟨τ, τ', ys, rfl, .inl rfl, K.le, hy, K.inv, K.cur, ⟨K.grown.os, K.grown.tape, K.grown.output, K.grown.size, fun k hk _ hC => K.grown.block k hk (fun e => hC (by injection e)), fun k hk h0 => (K.same k hk).trans h0⟩⟩
/-- where a draw stands that has written in typed blocks -/
structure DB (L : Nat) (c : Cu) (τ0 τ : Tau) (W0 W : World) : Prop where
  cur : c.at W
  inv : Inv L τ 1000 W
  kept : Kept c.C τ0 τ W0 W
  lo : c.C < L
  hi : L ≤ W0.heap.size
theorem DB.own {L : Nat} {c : Cu} {τ0 τ : Tau} {W0 W W' : World} (H : DB L c τ0 τ W0 W) {b : Nat} (g : W.grownBy W' (some b)) (hb : W0.heap.size ≤ b) (hf : τ b = none) : DB L c τ0 τ W0 W' :=
  ⟨Cur.own H.cur g (by have := H.lo; have := H.hi; omega), H.inv.keep (fun k x hk => g.block k (H.inv.lt hk) (fun e => by injection e with e; subst e; rw [hf] at hk; cases hk)), H.kept.own g hb, H.lo, H.hi⟩
theorem DB.setOwn {L : Nat} {c : Cu} {τ0 τ : Tau} {W0 W : World} {b : Nat} {T : TypeId} {arr : Array Value} (H : DB L c τ0 τ W0 W) (R : Bx τ W0 W b T arr) (i : Nat) (v : Value) : DB L c τ0 τ W0 (W.setCell ⟨b, i, none⟩ v) :=
  H.own (grown_set W b i v) R.hi R.free
theorem finB {N L b : Nat} {c : Cu} {τ0 τ1 τ : Tau} {W0 W : World} {T : TypeId} {zs : Array Value} {ys : List Value} (H : DB L c τ0 τ W0 W) (R : Bx τ W0 W b T zs) (hb : Bump N τ0 τ1) (hl : TLe τ1 τ) (hy : GoodRow τ 1000 .exprs ys N) :
    BentD N L c τ0 W0 (.returned (.agg ys.toArray)) (W.setRow b ys.toArray) :=
  have H' := H.own (setRow_grown W b ys.toArray) R.hi R.free
  ⟨τ1, τ, ys, rfl, hb, hl, hy, H'.inv, H'.cur, H'.kept⟩
theorem DS.bent {L : Nat} {c : Cu} {τ0 τ' : Tau} {W0 W W' : World} (H : DS L c τ0 τ0 W0 W) (hc : c.at W') (hI : Inv L τ' 1000 W') (K : Kept c.C τ0 τ' W W') : DB L c τ0 τ' W0 W' :=
  ⟨hc, hI, (Kept.grown H.grown).trans K, H.lo, H.hi⟩
theorem Bx.bent {L : Nat} {c : Cu} {τ0 τ' : Tau} {W0 W W' : World} {b : Nat} {T : TypeId} {arr : Array Value} (R : Bx τ0 W0 W b T arr) (H : DS L c τ0 τ0 W0 W) (K : Kept c.C τ0 τ' W W') : Bx τ' W0 W' b T arr :=
  ⟨(K.blk b R.row.lt R.free (by have := H.ltC; have := R.hi; omega)).trans R.row, K.free b R.row.lt R.free, R.hi⟩
theorem InvS.ds {L : Nat} {c : Cu} {τ : Tau} {W0 W : World} (hS : InvS L τ 1000 W0) (H : DS L c τ τ W0 W) : InvS L τ 1000 W :=
  hS.keep fun g b hb => H.grown.block g (hS.inv.lt hb) (fun e => by have := hS.inv.low hb; have := H.lo; injection e; omega)
/-- one row of a typed block is turned -/
theorem DB.turn {L : Nat} {c : Cu} {τ0 τ : Tau} {W0 W : World} (H : DB L c τ0 τ W0 W) {g cap k : Nat} {l : List Nat} (h0 : τ0 g = some (.exprs, cap, l)) (hg : τ g = some (.exprs, cap, l)) (hk : k < l.length) {cs ys : List Value} (hcs : RowAt W g 29 cs.toArray) (hlen : cs.length = cap * 10) (hlc : l.length ≤ cap)
    (hy : GoodRow τ 1000 .exprs ys l[k]) : DB L c τ0 τ W0 (W.setRow g (splice 10 cs k ys).toArray) := by
  have hL := H.inv.low hg
  have hlo := H.lo
  have hgr := setRow_grown W g (splice 10 cs k ys).toArray
  refine ⟨Cur.keptIn H.cur H.lo (fun j hj => setRow_other W g j _ (by omega)), H.inv.setRow (ty := .exprs) hg hcs hlen (show k < cap by omega) hy.len (fun _ => hy) (setRow_heap W g _ _ _ (0, 0) hcs) (fun j b _ hj => setRow_other W g j _ hj), ?_, H.lo, H.hi⟩
  have K := H.kept
  exact ⟨hgr.os.trans K.os, hgr.tape.trans K.tape, hgr.output.trans K.output, Nat.le_trans K.size hgr.size, fun j hj h1 h2 => (setRow_other W g j _ (fun e => by subst e; rw [h0] at h1; cases h1)).trans (K.blk j hj h1 h2), K.free⟩
theorem Bx.turn {τ : Tau} {W0 W : World} {b : Nat} {T : TypeId} {arr : Array Value} (R : Bx τ W0 W b T arr) {g : Nat} {x : Blk} (hg : τ g = some x) (cs : Array Value) : Bx τ W0 (W.setRow g cs) b T arr :=
  ⟨(setRow_other W g b _ (fun e => by have := R.free; rw [e, hg] at this; cases this)).trans R.row, R.free, R.hi⟩
theorem Try.infoTQ : (Try.prog.info? 38).map (fun i => (i.zero, i.size, i.bytes)) = some (some (.agg #[.bool false, .slice none 0 0, .slice none 0 0, .slice none 0 0, .slice none 0 0, .int .i64 0]), 6, 112) := by kernel_rfl
theorem zeroQ_good (τ : Tau) : GoodRow τ 1000 .queries [.bool false, .slice none 0 0, .slice none 0 0, .slice none 0 0, .slice none 0 0, .int .i64 0] 1 :=
  GoodRow.query (GoodV.nil _ _ rfl) (GoodV.nil _ _ rfl) (GoodV.nil _ _ rfl) (GoodV.nil _ _ rfl) (by decide) (by show 1 + (0 + 0 + 0 + 0) ≤ 1; omega)
theorem col_good (s6 s7 : ByteArray) (h6 : s6.size ≤ 24) (h7 : s7.size ≤ 24) (τ : Tau) : GoodRow τ 1000 .exprs [.int .i64 2, .int .i64 0, .bool false, .int .i64 0, .int .i64 0, .string ⟨#[]⟩, .string s6, .string s7, .slice none 0 0, .slice none 0 0] 1 :=
  GoodRow.mk10 (by decide) (by decide) (by decide) (by decide) (Nat.zero_le _) (by omega) (by omega) (GoodV.nil _ _ rfl) (GoodV.nil _ _ rfl) (by show 1 + (0 + 0) ≤ 1; omega)
theorem cells_new (W : World) (ys : List Value) (t : TypeId) : ∀ j u, ys[j]? = some u → (W.alloc (.cells ys.toArray t)).cell? ((⟨W.heap.size, 0, none⟩ : Addr).add j) = some u := fun j u hj => by
  have hp : (⟨W.heap.size, 0, none⟩ : Addr).add j = ⟨W.heap.size, j, none⟩ := by unfold Addr.add; split <;> simp_all
  rw [hp, cell_of_row _ W.heap.size j _ t (0, 0) (heap_alloc_new W _)]
  simpa using hj
/-- an element more, behind a draw -/
theorem DS.app (tS tr : TypeId) {ty : Ty} (ht : tree ty = true) (i : TypeInfo) (z : Value) (hU : Try.prog.underlying tS = some (.slice (elemT ty))) (hi : Try.prog.info? (elemT ty) = some i) (hz : i.zero = some z)
    (hsize : i.size = (rowTy ty).length) (hzs : z.cells.size = (rowTy ty).length) (hby : i.bytes ≤ 1000)
    {L N : Nat} {c : Cu} {τ : Tau} {W0 W : World} (hS : InvS L τ 1000 W0) (H : DS L c τ τ W0 W) (v : Value) (hv : GoodV τ 1000 ty v) (hN : slw τ v < N) (hN2 : N ≤ 1000) (ys : List Value) (hy : ∀ τ, GoodRow τ 1000 ty ys 1) (hone : ∀ u ∈ ys, u.oneCell' = true) :
    ∃ (τ1 τ' : Tau) (g n cp : Nat) (W' : World), (Builtin.append_ #[tS, tS] tr #[v, .slice (some ⟨W.heap.size, 0, none⟩) 1 1]).run Try.prog (W.alloc (.cells ys.toArray (elemT ty))) = .ok (.slice (some ⟨g, 0, none⟩) n cp) W' ∧ Bump N τ τ1 ∧ TLe τ1 τ' ∧ DB L c τ τ' W0 W' ∧
      GoodV τ' 1000 ty (.slice (some ⟨g, 0, none⟩) n cp) ∧ slw τ' (.slice (some ⟨g, 0, none⟩) n cp) ≤ slw τ v + 1 ∧ (∀ t u, t.ctorIdx ≠ ty.ctorIdx → GoodV τ 1000 t u → GoodV τ' 1000 t u ∧ slw τ' u = slw τ u) ∧ (∀ b T arr, Bx τ W0 W b T arr → Bx τ' W0 W' b T arr) := by
  have H1 := H.alloc (.cells ys.toArray (elemT ty))
  obtain ⟨τ1, τ', g, n, cp, W', hr, hB, hT, hI, hg, hw, hot, hK, hlow⟩ := app_typed (C := c.C) tS tr ht i z hU hi hz hsize hzs hby (hS.ds H1) (Nat.le_trans H1.hi H1.size) v hv hN hN2 ⟨W.heap.size, 0, none⟩ 1 ys hy hone (cells_new W ys (elemT ty))
  have hcur : c.at W' := Cur.keptIn H1.cur H1.lo (fun k hk => hlow k (Nat.lt_of_lt_of_le hk (Nat.le_trans H1.hi H1.size)) (by
    cases e : τ k with
    | none => rfl
    | some b => have := hS.inv.low e; omega))
  exact ⟨τ1, τ', g, n, cp, W', hr, hB, hT, H1.bent hcur hI hK, hg, hw, hot, fun b T arr R => (R.alloc (.cells ys.toArray (elemT ty))).bent H1 hK⟩
set_option maxRecDepth 100000 in
set_option maxHeartbeats 16000000 in
theorem bent_step (N : Nat) (hN : N ≤ 1000) (IH : ∀ M, M < N → BentAt M) : BentAt N := by
  intro L c τ W es hS hc lo hi hs
  have H := DS.start hc hS.inv lo hi
  obtain ⟨c0, c1, c2, c3, c4, c5, c6, c7, x8, x9, rfl, b0, b1, b3, b4_, b5, b6, b7, g8, g9, hs1⟩ := hs.good.ten
  obtain ⟨a8, n8, p8, rfl⟩ := g8.slice rfl
  obtain ⟨a9, n9, p9, rfl⟩ := g9.slice rfl
  have hsm : 2 + (slw τ (.slice a8 n8 p8) + slw τ (.slice a9 n9 p9)) ≤ N := by have := hs.more; simpa [slw] using this
  clear hc
  have R3 := Bx.new H 29 #[.int .i64 c0, .int .i64 c1, .bool c2, .int .i64 c3, .int .i64 c4, .string c5, .string c6, .string c7, .slice a8 n8 p8, .slice a9 n9 p9]
  replace H := H.alloc (.cells #[.int .i64 c0, .int .i64 c1, .bool c2, .int .i64 c3, .int .i64 c4, .string c5, .string c6, .string c7, .slice a8 n8 p8, .slice a9 n9 p9] 29)
  have R4 := Bx.new H 29 #[.int .i64 0, .int .i64 0, .bool false, .int .i64 0, .int .i64 0, .string ⟨#[]⟩, .string ⟨#[]⟩, .string ⟨#[]⟩, .slice none 0 0, .slice none 0 0]
  replace R3 := R3.alloc (.cells #[.int .i64 0, .int .i64 0, .bool false, .int .i64 0, .int .i64 0, .string ⟨#[]⟩, .string ⟨#[]⟩, .string ⟨#[]⟩, .slice none 0 0, .slice none 0 0] 29)
  replace H := H.alloc (.cells #[.int .i64 0, .int .i64 0, .bool false, .int .i64 0, .int .i64 0, .string ⟨#[]⟩, .string ⟨#[]⟩, .string ⟨#[]⟩, .slice none 0 0, .slice none 0 0] 29)
  have hb4 : (W.alloc (.cells #[.int .i64 c0, .int .i64 c1, .bool c2, .int .i64 c3, .int .i64 c4, .string c5, .string c6, .string c7, .slice a8 n8 p8, .slice a9 n9 p9] 29)).heap.size = W.heap.size + 1 := by simp
  rw [hb4] at R4
  clear hb4
  go_enter Try.func88, Try.ntmps88
  by_cases h8 : n8 = 0
  · have h8n : decide (0 < n8) = false := by simp; omega
    have h8i : decide (0 < (n8 : Int)) = false := by simp; omega
    clear h8
    have x8 := R3.row.cell (i := 8) (v := .slice a8 n8 p8) rfl
    go_wp2_with fail
    clear x8
    generalize (W.alloc (.cells #[.int .i64 c0, .int .i64 c1, .bool c2, .int .i64 c3, .int .i64 c4, .string c5, .string c6, .string c7, .slice a8 n8 p8, .slice a9 n9 p9] 29)).alloc (.cells #[.int .i64 0, .int .i64 0, .bool false, .int .i64 0, .int .i64 0, .string ⟨#[]⟩, .string ⟨#[]⟩, .string ⟨#[]⟩, .slice none 0 0, .slice none 0 0] 29) = W1 at R3 R4 H ⊢
    refine (below_any 8 c.B c.C c.a c.len c.cap _ H.cur (by omega) (by omega)).mono ?_
    rintro e Y ⟨x, hx0, hx1, rfl, hc, hg⟩
    replace R3 := R3.drawC H hg
    replace R4 := R4.drawC H hg
    replace H := H.draw hc hg
    clear hc hg
    rcases (show x = 0 ∨ x = 1 ∨ x = 2 ∨ x = 3 ∨ x = 4 ∨ x = 5 ∨ x = 6 ∨ x = 7 by omega) with rfl | rfl | rfl | rfl | rfl | rfl | rfl | rfl
    all_goals clear hx0 hx1
    · go_wp2_with fail
      refine (below_any 12 c.B c.C c.a c.len c.cap _ H.cur (by omega) (by omega)).mono ?_
      rintro e Y2 ⟨q, hq0, hq1, rfl, hc, hg⟩
      replace R3 := R3.drawC H hg
      replace R4 := R4.drawC H hg
      replace H := H.draw hc hg
      clear hc hg
      have z0 := R3.row.soft 0
      have y0 := R3.row.cell (i := 0) (v := .int .i64 c0) rfl
      replace H := H.setOwn R3 0 (.int .i64 (q - 1))
      replace R4 := R4.other 0 (.int .i64 (q - 1)) (b' := W.heap.size) (by omega)
      replace R3 : Bx τ W (Y2.setCell ⟨W.heap.size, 0, none⟩ (.int .i64 (q - 1))) W.heap.size 29 #[.int .i64 (q - 1), .int .i64 c1, .bool c2, .int .i64 c3, .int .i64 c4, .string c5, .string c6, .string c7, .slice a8 n8 p8, .slice a9 n9 p9] := R3.set 0 _
      have hb := R4.row.setRow [.int .i64 (q - 1), .int .i64 c1, .bool c2, .int .i64 c3, .int .i64 c4, .string c5, .string c6, .string c7, .slice a8 n8 p8, .slice a9 n9 p9].toArray
      have ld := ldE_row (ys := [.int .i64 (q - 1), .int .i64 c1, .bool c2, .int .i64 c3, .int .i64 c4, .string c5, .string c6, .string c7, .slice a8 n8 p8, .slice a9 n9 p9]) R3.row rfl
      have st := stE_row (ys := [.int .i64 (q - 1), .int .i64 c1, .bool c2, .int .i64 c3, .int .i64 c4, .string c5, .string c6, .string c7, .slice a8 n8 p8, .slice a9 n9 p9]) R4.row rfl rfl rfl
      have hy : GoodRow τ 1000 .exprs [.int .i64 (q - 1), .int .i64 c1, .bool c2, .int .i64 c3, .int .i64 c4, .string c5, .string c6, .string c7, .slice a8 n8 p8, .slice a9 n9 p9] N := GoodRow.mk10 (by omega) b1 b3 b4_ b5 b6 b7 g8 g9 hs1
      have HF := bent_of (finE H R4 hy)
      go_wp2_with fail
      generalize (Y2.setCell ⟨W.heap.size, 0, none⟩ (.int .i64 (q - 1))).setRow (W.heap.size + 1) [.int .i64 (q - 1), .int .i64 c1, .bool c2, .int .i64 c3, .int .i64 c4, .string c5, .string c6, .string c7, .slice a8 n8 p8, .slice a9 n9 p9].toArray = wf at hb HF ⊢
      have f0 := hb.cell (i := 0) (v := .int .i64 (q - 1)) rfl
      have f1 := hb.cell (i := 1) (v := .int .i64 c1) rfl
      have f2 := hb.cell (i := 2) (v := .bool c2) rfl
      have f3 := hb.cell (i := 3) (v := .int .i64 c3) rfl
      have f4 := hb.cell (i := 4) (v := .int .i64 c4) rfl
      have f5 := hb.cell (i := 5) (v := .string c5) rfl
      have f6 := hb.cell (i := 6) (v := .string c6) rfl
      have f7 := hb.cell (i := 7) (v := .string c7) rfl
      have f8 := hb.cell (i := 8) (v := .slice a8 n8 p8) rfl
      have f9 := hb.cell (i := 9) (v := .slice a9 n9 p9) rfl
      refine bodyPost_ret (v := .agg #[.int .i64 (q - 1), .int .i64 c1, .bool c2, .int .i64 c3, .int .i64 c4, .string c5, .string c6, .string c7, .slice a8 n8 p8, .slice a9 n9 p9]) (by simp [results, Try.results88, go_sem, f0, f1, f2, f3, f4, f5, f6, f7, f8, f9]) rfl ?_
      exact HF
    · go_wp2_with fail
      refine (pickInt_any Y.heap.size 7 (-9223372036854775808) 9223372036854775807 c.B c.C c.a c.len c.cap _ (Cur.alloc H.cur _) (by omega) (by omega) (by simp) (by have := H.ltC; have := H.size; omega) ?_).mono ?_
      · intro i hi
        have hrow := RowAt.new Y 3 #[.int .i64 0, .int .i64 1, .int .i64 14, .int .i64 15, .int .i64 16, .int .i64 17, .int .i64 (-1)]
        rcases (show i = 0 ∨ i = 1 ∨ i = 2 ∨ i = 3 ∨ i = 4 ∨ i = 5 ∨ i = 6 by omega) with rfl | rfl | rfl | rfl | rfl | rfl | rfl <;> exact ⟨_, by decide, by decide, hrow.cell rfl⟩
      rintro e Y2 ⟨q, hq0, hq1, rfl, hc, hg⟩
      replace hg := grown_tr (grown_alloc Y _ (some c.C)) hg
      replace R3 := R3.drawC H hg
      replace R4 := R4.drawC H hg
      replace H := H.draw hc hg
      clear hc hg
      have z1 := R3.row.soft 1
      have y1 := R3.row.cell (i := 1) (v := .int .i64 c1) rfl
      replace H := H.setOwn R3 1 (.int .i64 q)
      replace R4 := R4.other 1 (.int .i64 q) (b' := W.heap.size) (by omega)
      replace R3 : Bx τ W (Y2.setCell ⟨W.heap.size, 1, none⟩ (.int .i64 q)) W.heap.size 29 #[.int .i64 c0, .int .i64 q, .bool c2, .int .i64 c3, .int .i64 c4, .string c5, .string c6, .string c7, .slice a8 n8 p8, .slice a9 n9 p9] := R3.set 1 _
      have hb := R4.row.setRow [.int .i64 c0, .int .i64 q, .bool c2, .int .i64 c3, .int .i64 c4, .string c5, .string c6, .string c7, .slice a8 n8 p8, .slice a9 n9 p9].toArray
      have ld := ldE_row (ys := [.int .i64 c0, .int .i64 q, .bool c2, .int .i64 c3, .int .i64 c4, .string c5, .string c6, .string c7, .slice a8 n8 p8, .slice a9 n9 p9]) R3.row rfl
      have st := stE_row (ys := [.int .i64 c0, .int .i64 q, .bool c2, .int .i64 c3, .int .i64 c4, .string c5, .string c6, .string c7, .slice a8 n8 p8, .slice a9 n9 p9]) R4.row rfl rfl rfl
      have hy : GoodRow τ 1000 .exprs [.int .i64 c0, .int .i64 q, .bool c2, .int .i64 c3, .int .i64 c4, .string c5, .string c6, .string c7, .slice a8 n8 p8, .slice a9 n9 p9] N := GoodRow.mk10 b0 ⟨hq0, hq1⟩ b3 b4_ b5 b6 b7 g8 g9 hs1
      have HF := bent_of (finE H R4 hy)
      go_wp2_with fail
      generalize (Y2.setCell ⟨W.heap.size, 1, none⟩ (.int .i64 q)).setRow (W.heap.size + 1) [.int .i64 c0, .int .i64 q, .bool c2, .int .i64 c3, .int .i64 c4, .string c5, .string c6, .string c7, .slice a8 n8 p8, .slice a9 n9 p9].toArray = wf at hb HF ⊢
      have f0 := hb.cell (i := 0) (v := .int .i64 c0) rfl
      have f1 := hb.cell (i := 1) (v := .int .i64 q) rfl
      have f2 := hb.cell (i := 2) (v := .bool c2) rfl
      have f3 := hb.cell (i := 3) (v := .int .i64 c3) rfl
      have f4 := hb.cell (i := 4) (v := .int .i64 c4) rfl
      have f5 := hb.cell (i := 5) (v := .string c5) rfl
      have f6 := hb.cell (i := 6) (v := .string c6) rfl
      have f7 := hb.cell (i := 7) (v := .string c7) rfl
      have f8 := hb.cell (i := 8) (v := .slice a8 n8 p8) rfl
      have f9 := hb.cell (i := 9) (v := .slice a9 n9 p9) rfl
      refine bodyPost_ret (v := .agg #[.int .i64 c0, .int .i64 q, .bool c2, .int .i64 c3, .int .i64 c4, .string c5, .string c6, .string c7, .slice a8 n8 p8, .slice a9 n9 p9]) (by simp [results, Try.results88, go_sem, f0, f1, f2, f3, f4, f5, f6, f7, f8, f9]) rfl ?_
      exact HF
    · have y2_ := R3.row.cell (i := 2) (v := .bool c2) rfl
      have z2 := R3.row.soft 2
      have y2 := R3.row.cell (i := 2) (v := .bool c2) rfl
      replace H := H.setOwn R3 2 (.bool (!c2))
      replace R4 := R4.other 2 (.bool (!c2)) (b' := W.heap.size) (by omega)
      replace R3 : Bx τ W (Y.setCell ⟨W.heap.size, 2, none⟩ (.bool (!c2))) W.heap.size 29 #[.int .i64 c0, .int .i64 c1, .bool (!c2), .int .i64 c3, .int .i64 c4, .string c5, .string c6, .string c7, .slice a8 n8 p8, .slice a9 n9 p9] := R3.set 2 _
      have hb := R4.row.setRow [.int .i64 c0, .int .i64 c1, .bool (!c2), .int .i64 c3, .int .i64 c4, .string c5, .string c6, .string c7, .slice a8 n8 p8, .slice a9 n9 p9].toArray
      have ld := ldE_row (ys := [.int .i64 c0, .int .i64 c1, .bool (!c2), .int .i64 c3, .int .i64 c4, .string c5, .string c6, .string c7, .slice a8 n8 p8, .slice a9 n9 p9]) R3.row rfl
      have st := stE_row (ys := [.int .i64 c0, .int .i64 c1, .bool (!c2), .int .i64 c3, .int .i64 c4, .string c5, .string c6, .string c7, .slice a8 n8 p8, .slice a9 n9 p9]) R4.row rfl rfl rfl
      have hy : GoodRow τ 1000 .exprs [.int .i64 c0, .int .i64 c1, .bool (!c2), .int .i64 c3, .int .i64 c4, .string c5, .string c6, .string c7, .slice a8 n8 p8, .slice a9 n9 p9] N := GoodRow.mk10 b0 b1 b3 b4_ b5 b6 b7 g8 g9 hs1
      have HF := bent_of (finE H R4 hy)
      go_wp2_with fail
      generalize (Y.setCell ⟨W.heap.size, 2, none⟩ (.bool (!c2))).setRow (W.heap.size + 1) [.int .i64 c0, .int .i64 c1, .bool (!c2), .int .i64 c3, .int .i64 c4, .string c5, .string c6, .string c7, .slice a8 n8 p8, .slice a9 n9 p9].toArray = wf at hb HF ⊢
      have f0 := hb.cell (i := 0) (v := .int .i64 c0) rfl
      have f1 := hb.cell (i := 1) (v := .int .i64 c1) rfl
      have f2 := hb.cell (i := 2) (v := .bool (!c2)) rfl
      have f3 := hb.cell (i := 3) (v := .int .i64 c3) rfl
      have f4 := hb.cell (i := 4) (v := .int .i64 c4) rfl
      have f5 := hb.cell (i := 5) (v := .string c5) rfl
      have f6 := hb.cell (i := 6) (v := .string c6) rfl
      have f7 := hb.cell (i := 7) (v := .string c7) rfl
      have f8 := hb.cell (i := 8) (v := .slice a8 n8 p8) rfl
      have f9 := hb.cell (i := 9) (v := .slice a9 n9 p9) rfl
      refine bodyPost_ret (v := .agg #[.int .i64 c0, .int .i64 c1, .bool (!c2), .int .i64 c3, .int .i64 c4, .string c5, .string c6, .string c7, .slice a8 n8 p8, .slice a9 n9 p9]) (by simp [results, Try.results88, go_sem, f0, f1, f2, f3, f4, f5, f6, f7, f8, f9]) rfl ?_
      exact HF
    · go_wp2_with fail
      refine (vbent_anyK c.B c.C c.a c.len c.cap _ H.cur).mono ?_
      rintro e Y2 ⟨vk, vn, vt, ⟨ht, hn0, hn1, hk0, hk1⟩, rfl, hc, hg⟩
      replace R3 := R3.drawC H hg
      replace R4 := R4.drawC H hg
      replace H := H.draw hc hg
      clear hc hg
      have z3 := R3.row.soft 3
      have z4 := R3.row.soft 4
      have z5 := R3.row.soft 5
      have y3 := R3.row.cell (i := 3) (v := .int .i64 c3) rfl
      have y4 := R3.row.cell (i := 4) (v := .int .i64 c4) rfl
      have y5 := R3.row.cell (i := 5) (v := .string c5) rfl
      replace H := H.setOwn R3 3 (.int .i64 vk)
      replace R4 := R4.other 3 (.int .i64 vk) (b' := W.heap.size) (by omega)
      replace R3 : Bx τ W (Y2.setCell ⟨W.heap.size, 3, none⟩ (.int .i64 vk)) W.heap.size 29 #[.int .i64 c0, .int .i64 c1, .bool c2, .int .i64 vk, .int .i64 c4, .string c5, .string c6, .string c7, .slice a8 n8 p8, .slice a9 n9 p9] := R3.set 3 _
      replace H := H.setOwn R3 4 (.int .i64 vn)
      replace R4 := R4.other 4 (.int .i64 vn) (b' := W.heap.size) (by omega)
      replace R3 : Bx τ W ((Y2.setCell ⟨W.heap.size, 3, none⟩ (.int .i64 vk)).setCell ⟨W.heap.size, 4, none⟩ (.int .i64 vn)) W.heap.size 29 #[.int .i64 c0, .int .i64 c1, .bool c2, .int .i64 vk, .int .i64 vn, .string c5, .string c6, .string c7, .slice a8 n8 p8, .slice a9 n9 p9] := R3.set 4 _
      replace H := H.setOwn R3 5 (.string vt)
      replace R4 := R4.other 5 (.string vt) (b' := W.heap.size) (by omega)
      replace R3 : Bx τ W (((Y2.setCell ⟨W.heap.size, 3, none⟩ (.int .i64 vk)).setCell ⟨W.heap.size, 4, none⟩ (.int .i64 vn)).setCell ⟨W.heap.size, 5, none⟩ (.string vt)) W.heap.size 29 #[.int .i64 c0, .int .i64 c1, .bool c2, .int .i64 vk, .int .i64 vn, .string vt, .string c6, .string c7, .slice a8 n8 p8, .slice a9 n9 p9] := R3.set 5 _
      have hb := R4.row.setRow [.int .i64 c0, .int .i64 c1, .bool c2, .int .i64 vk, .int .i64 vn, .string vt, .string c6, .string c7, .slice a8 n8 p8, .slice a9 n9 p9].toArray
      have ld := ldE_row (ys := [.int .i64 c0, .int .i64 c1, .bool c2, .int .i64 vk, .int .i64 vn, .string vt, .string c6, .string c7, .slice a8 n8 p8, .slice a9 n9 p9]) R3.row rfl
      have st := stE_row (ys := [.int .i64 c0, .int .i64 c1, .bool c2, .int .i64 vk, .int .i64 vn, .string vt, .string c6, .string c7, .slice a8 n8 p8, .slice a9 n9 p9]) R4.row rfl rfl rfl
      have hy : GoodRow τ 1000 .exprs [.int .i64 c0, .int .i64 c1, .bool c2, .int .i64 vk, .int .i64 vn, .string vt, .string c6, .string c7, .slice a8 n8 p8, .slice a9 n9 p9] N := GoodRow.mk10 b0 b1 ⟨hk0, hk1⟩ ⟨hn0, hn1⟩ ht b6 b7 g8 g9 hs1
      have HF := bent_of (finE H R4 hy)
      go_wp2_with fail
      generalize (((Y2.setCell ⟨W.heap.size, 3, none⟩ (.int .i64 vk)).setCell ⟨W.heap.size, 4, none⟩ (.int .i64 vn)).setCell ⟨W.heap.size, 5, none⟩ (.string vt)).setRow (W.heap.size + 1) [.int .i64 c0, .int .i64 c1, .bool c2, .int .i64 vk, .int .i64 vn, .string vt, .string c6, .string c7, .slice a8 n8 p8, .slice a9 n9 p9].toArray = wf at hb HF ⊢
      have f0 := hb.cell (i := 0) (v := .int .i64 c0) rfl
      have f1 := hb.cell (i := 1) (v := .int .i64 c1) rfl
      have f2 := hb.cell (i := 2) (v := .bool c2) rfl
      have f3 := hb.cell (i := 3) (v := .int .i64 vk) rfl
      have f4 := hb.cell (i := 4) (v := .int .i64 vn) rfl
      have f5 := hb.cell (i := 5) (v := .string vt) rfl
      have f6 := hb.cell (i := 6) (v := .string c6) rfl
      have f7 := hb.cell (i := 7) (v := .string c7) rfl
      have f8 := hb.cell (i := 8) (v := .slice a8 n8 p8) rfl
      have f9 := hb.cell (i := 9) (v := .slice a9 n9 p9) rfl
      refine bodyPost_ret (v := .agg #[.int .i64 c0, .int .i64 c1, .bool c2, .int .i64 vk, .int .i64 vn, .string vt, .string c6, .string c7, .slice a8 n8 p8, .slice a9 n9 p9]) (by simp [results, Try.results88, go_sem, f0, f1, f2, f3, f4, f5, f6, f7, f8, f9]) rfl ?_
      exact HF
    · go_wp2_with fail
      refine (anyName_any c.B c.C c.a c.len c.cap _ H.cur).mono ?_
      rintro e Y2 ⟨s, hs24, rfl, hc, hg⟩
      replace R3 := R3.drawC H hg
      replace R4 := R4.drawC H hg
      replace H := H.draw hc hg
      clear hc hg
      have z7 := R3.row.soft 7
      have y7 := R3.row.cell (i := 7) (v := .string c7) rfl
      replace H := H.setOwn R3 7 (.string s)
      replace R4 := R4.other 7 (.string s) (b' := W.heap.size) (by omega)
      replace R3 : Bx τ W (Y2.setCell ⟨W.heap.size, 7, none⟩ (.string s)) W.heap.size 29 #[.int .i64 c0, .int .i64 c1, .bool c2, .int .i64 c3, .int .i64 c4, .string c5, .string c6, .string s, .slice a8 n8 p8, .slice a9 n9 p9] := R3.set 7 _
      have hb := R4.row.setRow [.int .i64 c0, .int .i64 c1, .bool c2, .int .i64 c3, .int .i64 c4, .string c5, .string c6, .string s, .slice a8 n8 p8, .slice a9 n9 p9].toArray
      have ld := ldE_row (ys := [.int .i64 c0, .int .i64 c1, .bool c2, .int .i64 c3, .int .i64 c4, .string c5, .string c6, .string s, .slice a8 n8 p8, .slice a9 n9 p9]) R3.row rfl
      have st := stE_row (ys := [.int .i64 c0, .int .i64 c1, .bool c2, .int .i64 c3, .int .i64 c4, .string c5, .string c6, .string s, .slice a8 n8 p8, .slice a9 n9 p9]) R4.row rfl rfl rfl
      have hy : GoodRow τ 1000 .exprs [.int .i64 c0, .int .i64 c1, .bool c2, .int .i64 c3, .int .i64 c4, .string c5, .string c6, .string s, .slice a8 n8 p8, .slice a9 n9 p9] N := GoodRow.mk10 b0 b1 b3 b4_ b5 b6 (by omega) g8 g9 hs1
      have HF := bent_of (finE H R4 hy)
      go_wp2_with fail
      generalize (Y2.setCell ⟨W.heap.size, 7, none⟩ (.string s)).setRow (W.heap.size + 1) [.int .i64 c0, .int .i64 c1, .bool c2, .int .i64 c3, .int .i64 c4, .string c5, .string c6, .string s, .slice a8 n8 p8, .slice a9 n9 p9].toArray = wf at hb HF ⊢
      have f0 := hb.cell (i := 0) (v := .int .i64 c0) rfl
      have f1 := hb.cell (i := 1) (v := .int .i64 c1) rfl
      have f2 := hb.cell (i := 2) (v := .bool c2) rfl
      have f3 := hb.cell (i := 3) (v := .int .i64 c3) rfl
      have f4 := hb.cell (i := 4) (v := .int .i64 c4) rfl
      have f5 := hb.cell (i := 5) (v := .string c5) rfl
      have f6 := hb.cell (i := 6) (v := .string c6) rfl
      have f7 := hb.cell (i := 7) (v := .string s) rfl
      have f8 := hb.cell (i := 8) (v := .slice a8 n8 p8) rfl
      have f9 := hb.cell (i := 9) (v := .slice a9 n9 p9) rfl
      refine bodyPost_ret (v := .agg #[.int .i64 c0, .int .i64 c1, .bool c2, .int .i64 c3, .int .i64 c4, .string c5, .string c6, .string s, .slice a8 n8 p8, .slice a9 n9 p9]) (by simp [results, Try.results88, go_sem, f0, f1, f2, f3, f4, f5, f6, f7, f8, f9]) rfl ?_
      exact HF
    · go_wp2_with fail
      refine (anyName_any c.B c.C c.a c.len c.cap _ H.cur).mono ?_
      rintro e Y2 ⟨s, hs24, rfl, hc, hg⟩
      replace R3 := R3.drawC H hg
      replace R4 := R4.drawC H hg
      replace H := H.draw hc hg
      clear hc hg
      have z6 := R3.row.soft 6
      have y6 := R3.row.cell (i := 6) (v := .string c6) rfl
      replace H := H.setOwn R3 6 (.string s)
      replace R4 := R4.other 6 (.string s) (b' := W.heap.size) (by omega)
      replace R3 : Bx τ W (Y2.setCell ⟨W.heap.size, 6, none⟩ (.string s)) W.heap.size 29 #[.int .i64 c0, .int .i64 c1, .bool c2, .int .i64 c3, .int .i64 c4, .string c5, .string s, .string c7, .slice a8 n8 p8, .slice a9 n9 p9] := R3.set 6 _
      have hb := R4.row.setRow [.int .i64 c0, .int .i64 c1, .bool c2, .int .i64 c3, .int .i64 c4, .string c5, .string s, .string c7, .slice a8 n8 p8, .slice a9 n9 p9].toArray
      have ld := ldE_row (ys := [.int .i64 c0, .int .i64 c1, .bool c2, .int .i64 c3, .int .i64 c4, .string c5, .string s, .string c7, .slice a8 n8 p8, .slice a9 n9 p9]) R3.row rfl
      have st := stE_row (ys := [.int .i64 c0, .int .i64 c1, .bool c2, .int .i64 c3, .int .i64 c4, .string c5, .string s, .string c7, .slice a8 n8 p8, .slice a9 n9 p9]) R4.row rfl rfl rfl
      have hy : GoodRow τ 1000 .exprs [.int .i64 c0, .int .i64 c1, .bool c2, .int .i64 c3, .int .i64 c4, .string c5, .string s, .string c7, .slice a8 n8 p8, .slice a9 n9 p9] N := GoodRow.mk10 b0 b1 b3 b4_ b5 (by omega) b7 g8 g9 hs1
      have HF := bent_of (finE H R4 hy)
      go_wp2_with fail
      generalize (Y2.setCell ⟨W.heap.size, 6, none⟩ (.string s)).setRow (W.heap.size + 1) [.int .i64 c0, .int .i64 c1, .bool c2, .int .i64 c3, .int .i64 c4, .string c5, .string s, .string c7, .slice a8 n8 p8, .slice a9 n9 p9].toArray = wf at hb HF ⊢
      have f0 := hb.cell (i := 0) (v := .int .i64 c0) rfl
      have f1 := hb.cell (i := 1) (v := .int .i64 c1) rfl
      have f2 := hb.cell (i := 2) (v := .bool c2) rfl
      have f3 := hb.cell (i := 3) (v := .int .i64 c3) rfl
      have f4 := hb.cell (i := 4) (v := .int .i64 c4) rfl
      have f5 := hb.cell (i := 5) (v := .string c5) rfl
      have f6 := hb.cell (i := 6) (v := .string s) rfl
      have f7 := hb.cell (i := 7) (v := .string c7) rfl
      have f8 := hb.cell (i := 8) (v := .slice a8 n8 p8) rfl
      have f9 := hb.cell (i := 9) (v := .slice a9 n9 p9) rfl
      refine bodyPost_ret (v := .agg #[.int .i64 c0, .int .i64 c1, .bool c2, .int .i64 c3, .int .i64 c4, .string c5, .string s, .string c7, .slice a8 n8 p8, .slice a9 n9 p9]) (by simp [results, Try.results88, go_sem, f0, f1, f2, f3, f4, f5, f6, f7, f8, f9]) rfl ?_
      exact HF
    · have hd0 : Y.grownBy Y.drew (some c.C) := ⟨rfl, rfl, rfl, Nat.le_refl _, fun _ _ _ => rfl⟩
      have Hd := H.draw (W' := Y.drew) H.cur hd0
      have R3d := R3.drawC H hd0
      have R4d := R4.drawC H hd0
      have x8y := R3.row.cell (i := 8) (v := .slice a8 n8 p8) rfl
      obtain ⟨iE, hiE, hzE, hsizeE, hbyE⟩ := info_parts Try.infoEx
      go_wp2_with fail
      go_region_law (first
        | (refine step_append_q rfl (.tmp 75) (.tmp 78) _ _ rfl _ _ rfl rfl _ wq HRUN.out ?_)
        | (go_simp; go_at_call 149; refine (col_any c.B c.C c.a c.len c.cap _ Hd.cur).mono ?_; rintro e Y2 ⟨s6, s7, h6, h7, rfl, hc, hg⟩; have R3y := R3d.drawC Hd hg; have R4y := R4d.drawC Hd hg; have Hy := Hd.draw hc hg; obtain ⟨τ1, τ', g, n, cp, wq, hrun, hBu, hT, HB, hgv, hw, hot, hbx⟩ := DS.app 26 26 (ty := .exprs) rfl iE _ Try.underlying26 hiE hzE (by rw [hsizeE]; rfl) rfl (by rw [hbyE]; decide) (N := N) hS Hy (.slice a8 n8 p8) g8 (by omega) hN [.int .i64 2, .int .i64 0, .bool false, .int .i64 0, .int .i64 0, .string ⟨#[]⟩, .string s6, .string s7, .slice none 0 0, .slice none 0 0] (col_good s6 s7 h6 h7) (by intro u hu; simp only [List.mem_cons, List.not_mem_nil, or_false] at hu; rcases hu with rfl | rfl | rfl | rfl | rfl | rfl | rfl | rfl | rfl | rfl <;> rfl); have HRUN := Lib.hid hrun; clear hrun; have R3n := hbx _ _ _ R3y; have R4n := hbx _ _ _ R4y; have x8z := R3y.row.cell (i := 8) (v := .slice a8 n8 p8) rfl; have hbz := R3y.row.lt; have y1 := R3n.row.cell (i := 8) (v := .slice a8 n8 p8) rfl; have y2 := R3n.row.soft 8; clear hc hg; go_simp))
      all_goals
        replace HB := HB.setOwn R3n 8 (.slice (some ⟨g, 0, none⟩) n cp)
        have R4 := R4n.other 8 (.slice (some ⟨g, 0, none⟩) n cp) (b' := W.heap.size) (by omega)
        have R3 : Bx τ' W (wq.setCell ⟨W.heap.size, 8, none⟩ (.slice (some ⟨g, 0, none⟩) n cp)) W.heap.size 29 #[.int .i64 c0, .int .i64 c1, .bool c2, .int .i64 c3, .int .i64 c4, .string c5, .string c6, .string c7, .slice (some ⟨g, 0, none⟩) n cp, .slice a9 n9 p9] := R3n.set 8 _
        obtain ⟨g9n, e9⟩ := hot .queries _ (by decide) g9
        have hy : GoodRow τ' 1000 .exprs [.int .i64 c0, .int .i64 c1, .bool c2, .int .i64 c3, .int .i64 c4, .string c5, .string c6, .string c7, .slice (some ⟨g, 0, none⟩) n cp, .slice a9 n9 p9] N := GoodRow.mk10 b0 b1 b3 b4_ b5 b6 b7 hgv g9n (by rw [e9]; omega)
        have HF := finB HB R4 hBu hT hy
        have hb := R4.row.setRow [.int .i64 c0, .int .i64 c1, .bool c2, .int .i64 c3, .int .i64 c4, .string c5, .string c6, .string c7, .slice (some ⟨g, 0, none⟩) n cp, .slice a9 n9 p9].toArray
        have ld := ldE_row (ys := [.int .i64 c0, .int .i64 c1, .bool c2, .int .i64 c3, .int .i64 c4, .string c5, .string c6, .string c7, .slice (some ⟨g, 0, none⟩) n cp, .slice a9 n9 p9]) R3.row rfl
        have st := stE_row (ys := [.int .i64 c0, .int .i64 c1, .bool c2, .int .i64 c3, .int .i64 c4, .string c5, .string c6, .string c7, .slice (some ⟨g, 0, none⟩) n cp, .slice a9 n9 p9]) R4.row rfl rfl rfl
        go_wp2_with fail
        generalize (wq.setCell ⟨W.heap.size, 8, none⟩ (.slice (some ⟨g, 0, none⟩) n cp)).setRow (W.heap.size + 1) [.int .i64 c0, .int .i64 c1, .bool c2, .int .i64 c3, .int .i64 c4, .string c5, .string c6, .string c7, .slice (some ⟨g, 0, none⟩) n cp, .slice a9 n9 p9].toArray = wf at hb HF ⊢
        have f0 := hb.cell (i := 0) (v := .int .i64 c0) rfl
        have f1 := hb.cell (i := 1) (v := .int .i64 c1) rfl
        have f2 := hb.cell (i := 2) (v := .bool c2) rfl
        have f3 := hb.cell (i := 3) (v := .int .i64 c3) rfl
        have f4 := hb.cell (i := 4) (v := .int .i64 c4) rfl
        have f5 := hb.cell (i := 5) (v := .string c5) rfl
        have f6 := hb.cell (i := 6) (v := .string c6) rfl
        have f7 := hb.cell (i := 7) (v := .string c7) rfl
        have f8 := hb.cell (i := 8) (v := .slice (some ⟨g, 0, none⟩) n cp) rfl
        have f9 := hb.cell (i := 9) (v := .slice a9 n9 p9) rfl
        refine bodyPost_ret (v := .agg #[.int .i64 c0, .int .i64 c1, .bool c2, .int .i64 c3, .int .i64 c4, .string c5, .string c6, .string c7, .slice (some ⟨g, 0, none⟩) n cp, .slice a9 n9 p9]) (by simp [results, Try.results88, go_sem, f0, f1, f2, f3, f4, f5, f6, f7, f8, f9]) rfl ?_
        exact HF
    · have x9y := R3.row.cell (i := 9) (v := .slice a9 n9 p9) rfl
      obtain ⟨iE, hiE, hzE, hsizeE, hbyE⟩ := info_parts Try.infoTQ
      obtain ⟨τ1, τ', g, n, cp, wq, hrun, hBu, hT, HB, hgv, hw, hot, hbx⟩ := DS.app 27 27 (ty := .queries) rfl iE _ Try.underlying27 hiE hzE (by rw [hsizeE]; rfl) rfl (by rw [hbyE]; decide) (N := N) hS H (.slice a9 n9 p9) g9 (by omega) hN [.bool false, .slice none 0 0, .slice none 0 0, .slice none 0 0, .slice none 0 0, .int .i64 0] zeroQ_good (by intro u hu; simp only [List.mem_cons, List.not_mem_nil, or_false] at hu; rcases hu with rfl | rfl | rfl | rfl | rfl | rfl <;> rfl)
      have HRUN := Lib.hid hrun
      clear hrun
      have R3n := hbx _ _ _ R3
      have R4n := hbx _ _ _ R4
      have y1 := R3n.row.cell (i := 9) (v := .slice a9 n9 p9) rfl
      have y2 := R3n.row.soft 9
      clear R3 R4
      replace HB := HB.setOwn R3n 9 (.slice (some ⟨g, 0, none⟩) n cp)
      have R4 := R4n.other 9 (.slice (some ⟨g, 0, none⟩) n cp) (b' := W.heap.size) (by omega)
      have R3 : Bx τ' W (wq.setCell ⟨W.heap.size, 9, none⟩ (.slice (some ⟨g, 0, none⟩) n cp)) W.heap.size 29 #[.int .i64 c0, .int .i64 c1, .bool c2, .int .i64 c3, .int .i64 c4, .string c5, .string c6, .string c7, .slice a8 n8 p8, .slice (some ⟨g, 0, none⟩) n cp] := R3n.set 9 _
      obtain ⟨g8n, e8⟩ := hot .exprs _ (by decide) g8
      have hy : GoodRow τ' 1000 .exprs [.int .i64 c0, .int .i64 c1, .bool c2, .int .i64 c3, .int .i64 c4, .string c5, .string c6, .string c7, .slice a8 n8 p8, .slice (some ⟨g, 0, none⟩) n cp] N := GoodRow.mk10 b0 b1 b3 b4_ b5 b6 b7 g8n hgv (by rw [e8]; omega)
      have HF := finB HB R4 hBu hT hy
      have hb := R4.row.setRow [.int .i64 c0, .int .i64 c1, .bool c2, .int .i64 c3, .int .i64 c4, .string c5, .string c6, .string c7, .slice a8 n8 p8, .slice (some ⟨g, 0, none⟩) n cp].toArray
      have ld := ldE_row (ys := [.int .i64 c0, .int .i64 c1, .bool c2, .int .i64 c3, .int .i64 c4, .string c5, .string c6, .string c7, .slice a8 n8 p8, .slice (some ⟨g, 0, none⟩) n cp]) R3.row rfl
      have st := stE_row (ys := [.int .i64 c0, .int .i64 c1, .bool c2, .int .i64 c3, .int .i64 c4, .string c5, .string c6, .string c7, .slice a8 n8 p8, .slice (some ⟨g, 0, none⟩) n cp]) R4.row rfl rfl rfl
      go_wp2_with (at_builtin; refine wpList_append_q rfl (.tmp 34) (.tmp 36) _ _ rfl _ _ rfl rfl _ wq HRUN.out ?_)
      generalize (wq.setCell ⟨W.heap.size, 9, none⟩ (.slice (some ⟨g, 0, none⟩) n cp)).setRow (W.heap.size + 1) [.int .i64 c0, .int .i64 c1, .bool c2, .int .i64 c3, .int .i64 c4, .string c5, .string c6, .string c7, .slice a8 n8 p8, .slice (some ⟨g, 0, none⟩) n cp].toArray = wf at hb HF ⊢
      have f0 := hb.cell (i := 0) (v := .int .i64 c0) rfl
      have f1 := hb.cell (i := 1) (v := .int .i64 c1) rfl
      have f2 := hb.cell (i := 2) (v := .bool c2) rfl
      have f3 := hb.cell (i := 3) (v := .int .i64 c3) rfl
      have f4 := hb.cell (i := 4) (v := .int .i64 c4) rfl
      have f5 := hb.cell (i := 5) (v := .string c5) rfl
      have f6 := hb.cell (i := 6) (v := .string c6) rfl
      have f7 := hb.cell (i := 7) (v := .string c7) rfl
      have f8 := hb.cell (i := 8) (v := .slice a8 n8 p8) rfl
      have f9 := hb.cell (i := 9) (v := .slice (some ⟨g, 0, none⟩) n cp) rfl
      refine bodyPost_ret (v := .agg #[.int .i64 c0, .int .i64 c1, .bool c2, .int .i64 c3, .int .i64 c4, .string c5, .string c6, .string c7, .slice a8 n8 p8, .slice (some ⟨g, 0, none⟩) n cp]) (by simp [results, Try.results88, go_sem, f0, f1, f2, f3, f4, f5, f6, f7, f8, f9]) rfl ?_
      exact HF
  · have h8p : 0 < n8 := by omega
    have x8 := R3.row.cell (i := 8) (v := .slice a8 n8 p8) rfl
    go_wp2_with fail
    clear x8
    generalize (W.alloc (.cells #[.int .i64 c0, .int .i64 c1, .bool c2, .int .i64 c3, .int .i64 c4, .string c5, .string c6, .string c7, .slice a8 n8 p8, .slice a9 n9 p9] 29)).alloc (.cells #[.int .i64 0, .int .i64 0, .bool false, .int .i64 0, .int .i64 0, .string ⟨#[]⟩, .string ⟨#[]⟩, .string ⟨#[]⟩, .slice none 0 0, .slice none 0 0] 29) = W1 at R3 R4 H ⊢
    refine (once_any 2 c.B c.C c.a c.len c.cap _ H.cur (by omega) (by omega)).mono ?_
    rintro e W2 ⟨x, rfl, hc, hg⟩
    replace R3 := R3.drawC H hg
    replace R4 := R4.drawC H hg
    replace H := H.draw hc hg
    clear hc hg
    cases x
    · go_wp2_with fail
      refine (below_any 8 c.B c.C c.a c.len c.cap _ H.cur (by omega) (by omega)).mono ?_
      rintro e Y ⟨x, hx0, hx1, rfl, hc, hg⟩
      replace R3 := R3.drawC H hg
      replace R4 := R4.drawC H hg
      replace H := H.draw hc hg
      clear hc hg
      rcases (show x = 0 ∨ x = 1 ∨ x = 2 ∨ x = 3 ∨ x = 4 ∨ x = 5 ∨ x = 6 ∨ x = 7 by omega) with rfl | rfl | rfl | rfl | rfl | rfl | rfl | rfl
      all_goals clear hx0 hx1
      · go_wp2_with fail
        refine (below_any 12 c.B c.C c.a c.len c.cap _ H.cur (by omega) (by omega)).mono ?_
        rintro e Y2 ⟨q, hq0, hq1, rfl, hc, hg⟩
        replace R3 := R3.drawC H hg
        replace R4 := R4.drawC H hg
        replace H := H.draw hc hg
        clear hc hg
        have z0 := R3.row.soft 0
        have y0 := R3.row.cell (i := 0) (v := .int .i64 c0) rfl
        replace H := H.setOwn R3 0 (.int .i64 (q - 1))
        replace R4 := R4.other 0 (.int .i64 (q - 1)) (b' := W.heap.size) (by omega)
        replace R3 : Bx τ W (Y2.setCell ⟨W.heap.size, 0, none⟩ (.int .i64 (q - 1))) W.heap.size 29 #[.int .i64 (q - 1), .int .i64 c1, .bool c2, .int .i64 c3, .int .i64 c4, .string c5, .string c6, .string c7, .slice a8 n8 p8, .slice a9 n9 p9] := R3.set 0 _
        have hb := R4.row.setRow [.int .i64 (q - 1), .int .i64 c1, .bool c2, .int .i64 c3, .int .i64 c4, .string c5, .string c6, .string c7, .slice a8 n8 p8, .slice a9 n9 p9].toArray
        have ld := ldE_row (ys := [.int .i64 (q - 1), .int .i64 c1, .bool c2, .int .i64 c3, .int .i64 c4, .string c5, .string c6, .string c7, .slice a8 n8 p8, .slice a9 n9 p9]) R3.row rfl
        have st := stE_row (ys := [.int .i64 (q - 1), .int .i64 c1, .bool c2, .int .i64 c3, .int .i64 c4, .string c5, .string c6, .string c7, .slice a8 n8 p8, .slice a9 n9 p9]) R4.row rfl rfl rfl
        have hy : GoodRow τ 1000 .exprs [.int .i64 (q - 1), .int .i64 c1, .bool c2, .int .i64 c3, .int .i64 c4, .string c5, .string c6, .string c7, .slice a8 n8 p8, .slice a9 n9 p9] N := GoodRow.mk10 (by omega) b1 b3 b4_ b5 b6 b7 g8 g9 hs1
        have HF := bent_of (finE H R4 hy)
        go_wp2_with fail
        generalize (Y2.setCell ⟨W.heap.size, 0, none⟩ (.int .i64 (q - 1))).setRow (W.heap.size + 1) [.int .i64 (q - 1), .int .i64 c1, .bool c2, .int .i64 c3, .int .i64 c4, .string c5, .string c6, .string c7, .slice a8 n8 p8, .slice a9 n9 p9].toArray = wf at hb HF ⊢
        have f0 := hb.cell (i := 0) (v := .int .i64 (q - 1)) rfl
        have f1 := hb.cell (i := 1) (v := .int .i64 c1) rfl
        have f2 := hb.cell (i := 2) (v := .bool c2) rfl
        have f3 := hb.cell (i := 3) (v := .int .i64 c3) rfl
        have f4 := hb.cell (i := 4) (v := .int .i64 c4) rfl
        have f5 := hb.cell (i := 5) (v := .string c5) rfl
        have f6 := hb.cell (i := 6) (v := .string c6) rfl
        have f7 := hb.cell (i := 7) (v := .string c7) rfl
        have f8 := hb.cell (i := 8) (v := .slice a8 n8 p8) rfl
        have f9 := hb.cell (i := 9) (v := .slice a9 n9 p9) rfl
        refine bodyPost_ret (v := .agg #[.int .i64 (q - 1), .int .i64 c1, .bool c2, .int .i64 c3, .int .i64 c4, .string c5, .string c6, .string c7, .slice a8 n8 p8, .slice a9 n9 p9]) (by simp [results, Try.results88, go_sem, f0, f1, f2, f3, f4, f5, f6, f7, f8, f9]) rfl ?_
        exact HF
      · go_wp2_with fail
        refine (pickInt_any Y.heap.size 7 (-9223372036854775808) 9223372036854775807 c.B c.C c.a c.len c.cap _ (Cur.alloc H.cur _) (by omega) (by omega) (by simp) (by have := H.ltC; have := H.size; omega) ?_).mono ?_
        · intro i hi
          have hrow := RowAt.new Y 3 #[.int .i64 0, .int .i64 1, .int .i64 14, .int .i64 15, .int .i64 16, .int .i64 17, .int .i64 (-1)]
          rcases (show i = 0 ∨ i = 1 ∨ i = 2 ∨ i = 3 ∨ i = 4 ∨ i = 5 ∨ i = 6 by omega) with rfl | rfl | rfl | rfl | rfl | rfl | rfl <;> exact ⟨_, by decide, by decide, hrow.cell rfl⟩
        rintro e Y2 ⟨q, hq0, hq1, rfl, hc, hg⟩
        replace hg := grown_tr (grown_alloc Y _ (some c.C)) hg
        replace R3 := R3.drawC H hg
        replace R4 := R4.drawC H hg
        replace H := H.draw hc hg
        clear hc hg
        have z1 := R3.row.soft 1
        have y1 := R3.row.cell (i := 1) (v := .int .i64 c1) rfl
        replace H := H.setOwn R3 1 (.int .i64 q)
        replace R4 := R4.other 1 (.int .i64 q) (b' := W.heap.size) (by omega)
        replace R3 : Bx τ W (Y2.setCell ⟨W.heap.size, 1, none⟩ (.int .i64 q)) W.heap.size 29 #[.int .i64 c0, .int .i64 q, .bool c2, .int .i64 c3, .int .i64 c4, .string c5, .string c6, .string c7, .slice a8 n8 p8, .slice a9 n9 p9] := R3.set 1 _
        have hb := R4.row.setRow [.int .i64 c0, .int .i64 q, .bool c2, .int .i64 c3, .int .i64 c4, .string c5, .string c6, .string c7, .slice a8 n8 p8, .slice a9 n9 p9].toArray
        have ld := ldE_row (ys := [.int .i64 c0, .int .i64 q, .bool c2, .int .i64 c3, .int .i64 c4, .string c5, .string c6, .string c7, .slice a8 n8 p8, .slice a9 n9 p9]) R3.row rfl
        have st := stE_row (ys := [.int .i64 c0, .int .i64 q, .bool c2, .int .i64 c3, .int .i64 c4, .string c5, .string c6, .string c7, .slice a8 n8 p8, .slice a9 n9 p9]) R4.row rfl rfl rfl
        have hy : GoodRow τ 1000 .exprs [.int .i64 c0, .int .i64 q, .bool c2, .int .i64 c3, .int .i64 c4, .string c5, .string c6, .string c7, .slice a8 n8 p8, .slice a9 n9 p9] N := GoodRow.mk10 b0 ⟨hq0, hq1⟩ b3 b4_ b5 b6 b7 g8 g9 hs1
        have HF := bent_of (finE H R4 hy)
        go_wp2_with fail
        generalize (Y2.setCell ⟨W.heap.size, 1, none⟩ (.int .i64 q)).setRow (W.heap.size + 1) [.int .i64 c0, .int .i64 q, .bool c2, .int .i64 c3, .int .i64 c4, .string c5, .string c6, .string c7, .slice a8 n8 p8, .slice a9 n9 p9].toArray = wf at hb HF ⊢
        have f0 := hb.cell (i := 0) (v := .int .i64 c0) rfl
        have f1 := hb.cell (i := 1) (v := .int .i64 q) rfl
        have f2 := hb.cell (i := 2) (v := .bool c2) rfl
        have f3 := hb.cell (i := 3) (v := .int .i64 c3) rfl
        have f4 := hb.cell (i := 4) (v := .int .i64 c4) rfl
        have f5 := hb.cell (i := 5) (v := .string c5) rfl
        have f6 := hb.cell (i := 6) (v := .string c6) rfl
        have f7 := hb.cell (i := 7) (v := .string c7) rfl
        have f8 := hb.cell (i := 8) (v := .slice a8 n8 p8) rfl
        have f9 := hb.cell (i := 9) (v := .slice a9 n9 p9) rfl
        refine bodyPost_ret (v := .agg #[.int .i64 c0, .int .i64 q, .bool c2, .int .i64 c3, .int .i64 c4, .string c5, .string c6, .string c7, .slice a8 n8 p8, .slice a9 n9 p9]) (by simp [results, Try.results88, go_sem, f0, f1, f2, f3, f4, f5, f6, f7, f8, f9]) rfl ?_
        exact HF
      · have y2_ := R3.row.cell (i := 2) (v := .bool c2) rfl
        have z2 := R3.row.soft 2
        have y2 := R3.row.cell (i := 2) (v := .bool c2) rfl
        replace H := H.setOwn R3 2 (.bool (!c2))
        replace R4 := R4.other 2 (.bool (!c2)) (b' := W.heap.size) (by omega)
        replace R3 : Bx τ W (Y.setCell ⟨W.heap.size, 2, none⟩ (.bool (!c2))) W.heap.size 29 #[.int .i64 c0, .int .i64 c1, .bool (!c2), .int .i64 c3, .int .i64 c4, .string c5, .string c6, .string c7, .slice a8 n8 p8, .slice a9 n9 p9] := R3.set 2 _
        have hb := R4.row.setRow [.int .i64 c0, .int .i64 c1, .bool (!c2), .int .i64 c3, .int .i64 c4, .string c5, .string c6, .string c7, .slice a8 n8 p8, .slice a9 n9 p9].toArray
        have ld := ldE_row (ys := [.int .i64 c0, .int .i64 c1, .bool (!c2), .int .i64 c3, .int .i64 c4, .string c5, .string c6, .string c7, .slice a8 n8 p8, .slice a9 n9 p9]) R3.row rfl
        have st := stE_row (ys := [.int .i64 c0, .int .i64 c1, .bool (!c2), .int .i64 c3, .int .i64 c4, .string c5, .string c6, .string c7, .slice a8 n8 p8, .slice a9 n9 p9]) R4.row rfl rfl rfl
        have hy : GoodRow τ 1000 .exprs [.int .i64 c0, .int .i64 c1, .bool (!c2), .int .i64 c3, .int .i64 c4, .string c5, .string c6, .string c7, .slice a8 n8 p8, .slice a9 n9 p9] N := GoodRow.mk10 b0 b1 b3 b4_ b5 b6 b7 g8 g9 hs1
        have HF := bent_of (finE H R4 hy)
        go_wp2_with fail
        generalize (Y.setCell ⟨W.heap.size, 2, none⟩ (.bool (!c2))).setRow (W.heap.size + 1) [.int .i64 c0, .int .i64 c1, .bool (!c2), .int .i64 c3, .int .i64 c4, .string c5, .string c6, .string c7, .slice a8 n8 p8, .slice a9 n9 p9].toArray = wf at hb HF ⊢
        have f0 := hb.cell (i := 0) (v := .int .i64 c0) rfl
        have f1 := hb.cell (i := 1) (v := .int .i64 c1) rfl
        have f2 := hb.cell (i := 2) (v := .bool (!c2)) rfl
        have f3 := hb.cell (i := 3) (v := .int .i64 c3) rfl
        have f4 := hb.cell (i := 4) (v := .int .i64 c4) rfl
        have f5 := hb.cell (i := 5) (v := .string c5) rfl
        have f6 := hb.cell (i := 6) (v := .string c6) rfl
        have f7 := hb.cell (i := 7) (v := .string c7) rfl
        have f8 := hb.cell (i := 8) (v := .slice a8 n8 p8) rfl
        have f9 := hb.cell (i := 9) (v := .slice a9 n9 p9) rfl
        refine bodyPost_ret (v := .agg #[.int .i64 c0, .int .i64 c1, .bool (!c2), .int .i64 c3, .int .i64 c4, .string c5, .string c6, .string c7, .slice a8 n8 p8, .slice a9 n9 p9]) (by simp [results, Try.results88, go_sem, f0, f1, f2, f3, f4, f5, f6, f7, f8, f9]) rfl ?_
        exact HF
      · go_wp2_with fail
        refine (vbent_anyK c.B c.C c.a c.len c.cap _ H.cur).mono ?_
        rintro e Y2 ⟨vk, vn, vt, ⟨ht, hn0, hn1, hk0, hk1⟩, rfl, hc, hg⟩
        replace R3 := R3.drawC H hg
        replace R4 := R4.drawC H hg
        replace H := H.draw hc hg
        clear hc hg
        have z3 := R3.row.soft 3
        have z4 := R3.row.soft 4
        have z5 := R3.row.soft 5
        have y3 := R3.row.cell (i := 3) (v := .int .i64 c3) rfl
        have y4 := R3.row.cell (i := 4) (v := .int .i64 c4) rfl
        have y5 := R3.row.cell (i := 5) (v := .string c5) rfl
        replace H := H.setOwn R3 3 (.int .i64 vk)
        replace R4 := R4.other 3 (.int .i64 vk) (b' := W.heap.size) (by omega)
        replace R3 : Bx τ W (Y2.setCell ⟨W.heap.size, 3, none⟩ (.int .i64 vk)) W.heap.size 29 #[.int .i64 c0, .int .i64 c1, .bool c2, .int .i64 vk, .int .i64 c4, .string c5, .string c6, .string c7, .slice a8 n8 p8, .slice a9 n9 p9] := R3.set 3 _
        replace H := H.setOwn R3 4 (.int .i64 vn)
        replace R4 := R4.other 4 (.int .i64 vn) (b' := W.heap.size) (by omega)
        replace R3 : Bx τ W ((Y2.setCell ⟨W.heap.size, 3, none⟩ (.int .i64 vk)).setCell ⟨W.heap.size, 4, none⟩ (.int .i64 vn)) W.heap.size 29 #[.int .i64 c0, .int .i64 c1, .bool c2, .int .i64 vk, .int .i64 vn, .string c5, .string c6, .string c7, .slice a8 n8 p8, .slice a9 n9 p9] := R3.set 4 _
        replace H := H.setOwn R3 5 (.string vt)
        replace R4 := R4.other 5 (.string vt) (b' := W.heap.size) (by omega)
        replace R3 : Bx τ W (((Y2.setCell ⟨W.heap.size, 3, none⟩ (.int .i64 vk)).setCell ⟨W.heap.size, 4, none⟩ (.int .i64 vn)).setCell ⟨W.heap.size, 5, none⟩ (.string vt)) W.heap.size 29 #[.int .i64 c0, .int .i64 c1, .bool c2, .int .i64 vk, .int .i64 vn, .string vt, .string c6, .string c7, .slice a8 n8 p8, .slice a9 n9 p9] := R3.set 5 _
        have hb := R4.row.setRow [.int .i64 c0, .int .i64 c1, .bool c2, .int .i64 vk, .int .i64 vn, .string vt, .string c6, .string c7, .slice a8 n8 p8, .slice a9 n9 p9].toArray
        have ld := ldE_row (ys := [.int .i64 c0, .int .i64 c1, .bool c2, .int .i64 vk, .int .i64 vn, .string vt, .string c6, .string c7, .slice a8 n8 p8, .slice a9 n9 p9]) R3.row rfl
        have st := stE_row (ys := [.int .i64 c0, .int .i64 c1, .bool c2, .int .i64 vk, .int .i64 vn, .string vt, .string c6, .string c7, .slice a8 n8 p8, .slice a9 n9 p9]) R4.row rfl rfl rfl
        have hy : GoodRow τ 1000 .exprs [.int .i64 c0, .int .i64 c1, .bool c2, .int .i64 vk, .int .i64 vn, .string vt, .string c6, .string c7, .slice a8 n8 p8, .slice a9 n9 p9] N := GoodRow.mk10 b0 b1 ⟨hk0, hk1⟩ ⟨hn0, hn1⟩ ht b6 b7 g8 g9 hs1
        have HF := bent_of (finE H R4 hy)
        go_wp2_with fail
        generalize (((Y2.setCell ⟨W.heap.size, 3, none⟩ (.int .i64 vk)).setCell ⟨W.heap.size, 4, none⟩ (.int .i64 vn)).setCell ⟨W.heap.size, 5, none⟩ (.string vt)).setRow (W.heap.size + 1) [.int .i64 c0, .int .i64 c1, .bool c2, .int .i64 vk, .int .i64 vn, .string vt, .string c6, .string c7, .slice a8 n8 p8, .slice a9 n9 p9].toArray = wf at hb HF ⊢
        have f0 := hb.cell (i := 0) (v := .int .i64 c0) rfl
        have f1 := hb.cell (i := 1) (v := .int .i64 c1) rfl
        have f2 := hb.cell (i := 2) (v := .bool c2) rfl
        have f3 := hb.cell (i := 3) (v := .int .i64 vk) rfl
        have f4 := hb.cell (i := 4) (v := .int .i64 vn) rfl
        have f5 := hb.cell (i := 5) (v := .string vt) rfl
        have f6 := hb.cell (i := 6) (v := .string c6) rfl
        have f7 := hb.cell (i := 7) (v := .string c7) rfl
        have f8 := hb.cell (i := 8) (v := .slice a8 n8 p8) rfl
        have f9 := hb.cell (i := 9) (v := .slice a9 n9 p9) rfl
        refine bodyPost_ret (v := .agg #[.int .i64 c0, .int .i64 c1, .bool c2, .int .i64 vk, .int .i64 vn, .string vt, .string c6, .string c7, .slice a8 n8 p8, .slice a9 n9 p9]) (by simp [results, Try.results88, go_sem, f0, f1, f2, f3, f4, f5, f6, f7, f8, f9]) rfl ?_
        exact HF
      · go_wp2_with fail
        refine (anyName_any c.B c.C c.a c.len c.cap _ H.cur).mono ?_
        rintro e Y2 ⟨s, hs24, rfl, hc, hg⟩
        replace R3 := R3.drawC H hg
        replace R4 := R4.drawC H hg
        replace H := H.draw hc hg
        clear hc hg
        have z7 := R3.row.soft 7
        have y7 := R3.row.cell (i := 7) (v := .string c7) rfl
        replace H := H.setOwn R3 7 (.string s)
        replace R4 := R4.other 7 (.string s) (b' := W.heap.size) (by omega)
        replace R3 : Bx τ W (Y2.setCell ⟨W.heap.size, 7, none⟩ (.string s)) W.heap.size 29 #[.int .i64 c0, .int .i64 c1, .bool c2, .int .i64 c3, .int .i64 c4, .string c5, .string c6, .string s, .slice a8 n8 p8, .slice a9 n9 p9] := R3.set 7 _
        have hb := R4.row.setRow [.int .i64 c0, .int .i64 c1, .bool c2, .int .i64 c3, .int .i64 c4, .string c5, .string c6, .string s, .slice a8 n8 p8, .slice a9 n9 p9].toArray
        have ld := ldE_row (ys := [.int .i64 c0, .int .i64 c1, .bool c2, .int .i64 c3, .int .i64 c4, .string c5, .string c6, .string s, .slice a8 n8 p8, .slice a9 n9 p9]) R3.row rfl
        have st := stE_row (ys := [.int .i64 c0, .int .i64 c1, .bool c2, .int .i64 c3, .int .i64 c4, .string c5, .string c6, .string s, .slice a8 n8 p8, .slice a9 n9 p9]) R4.row rfl rfl rfl
        have hy : GoodRow τ 1000 .exprs [.int .i64 c0, .int .i64 c1, .bool c2, .int .i64 c3, .int .i64 c4, .string c5, .string c6, .string s, .slice a8 n8 p8, .slice a9 n9 p9] N := GoodRow.mk10 b0 b1 b3 b4_ b5 b6 (by omega) g8 g9 hs1
        have HF := bent_of (finE H R4 hy)
        go_wp2_with fail
        generalize (Y2.setCell ⟨W.heap.size, 7, none⟩ (.string s)).setRow (W.heap.size + 1) [.int .i64 c0, .int .i64 c1, .bool c2, .int .i64 c3, .int .i64 c4, .string c5, .string c6, .string s, .slice a8 n8 p8, .slice a9 n9 p9].toArray = wf at hb HF ⊢
        have f0 := hb.cell (i := 0) (v := .int .i64 c0) rfl
        have f1 := hb.cell (i := 1) (v := .int .i64 c1) rfl
        have f2 := hb.cell (i := 2) (v := .bool c2) rfl
        have f3 := hb.cell (i := 3) (v := .int .i64 c3) rfl
        have f4 := hb.cell (i := 4) (v := .int .i64 c4) rfl
        have f5 := hb.cell (i := 5) (v := .string c5) rfl
        have f6 := hb.cell (i := 6) (v := .string c6) rfl
        have f7 := hb.cell (i := 7) (v := .string s) rfl
        have f8 := hb.cell (i := 8) (v := .slice a8 n8 p8) rfl
        have f9 := hb.cell (i := 9) (v := .slice a9 n9 p9) rfl
        refine bodyPost_ret (v := .agg #[.int .i64 c0, .int .i64 c1, .bool c2, .int .i64 c3, .int .i64 c4, .string c5, .string c6, .string s, .slice a8 n8 p8, .slice a9 n9 p9]) (by simp [results, Try.results88, go_sem, f0, f1, f2, f3, f4, f5, f6, f7, f8, f9]) rfl ?_
        exact HF
      · go_wp2_with fail
        refine (anyName_any c.B c.C c.a c.len c.cap _ H.cur).mono ?_
        rintro e Y2 ⟨s, hs24, rfl, hc, hg⟩
        replace R3 := R3.drawC H hg
        replace R4 := R4.drawC H hg
        replace H := H.draw hc hg
        clear hc hg
        have z6 := R3.row.soft 6
        have y6 := R3.row.cell (i := 6) (v := .string c6) rfl
        replace H := H.setOwn R3 6 (.string s)
        replace R4 := R4.other 6 (.string s) (b' := W.heap.size) (by omega)
        replace R3 : Bx τ W (Y2.setCell ⟨W.heap.size, 6, none⟩ (.string s)) W.heap.size 29 #[.int .i64 c0, .int .i64 c1, .bool c2, .int .i64 c3, .int .i64 c4, .string c5, .string s, .string c7, .slice a8 n8 p8, .slice a9 n9 p9] := R3.set 6 _
        have hb := R4.row.setRow [.int .i64 c0, .int .i64 c1, .bool c2, .int .i64 c3, .int .i64 c4, .string c5, .string s, .string c7, .slice a8 n8 p8, .slice a9 n9 p9].toArray
        have ld := ldE_row (ys := [.int .i64 c0, .int .i64 c1, .bool c2, .int .i64 c3, .int .i64 c4, .string c5, .string s, .string c7, .slice a8 n8 p8, .slice a9 n9 p9]) R3.row rfl
        have st := stE_row (ys := [.int .i64 c0, .int .i64 c1, .bool c2, .int .i64 c3, .int .i64 c4, .string c5, .string s, .string c7, .slice a8 n8 p8, .slice a9 n9 p9]) R4.row rfl rfl rfl
        have hy : GoodRow τ 1000 .exprs [.int .i64 c0, .int .i64 c1, .bool c2, .int .i64 c3, .int .i64 c4, .string c5, .string s, .string c7, .slice a8 n8 p8, .slice a9 n9 p9] N := GoodRow.mk10 b0 b1 b3 b4_ b5 (by omega) b7 g8 g9 hs1
        have HF := bent_of (finE H R4 hy)
        go_wp2_with fail
        generalize (Y2.setCell ⟨W.heap.size, 6, none⟩ (.string s)).setRow (W.heap.size + 1) [.int .i64 c0, .int .i64 c1, .bool c2, .int .i64 c3, .int .i64 c4, .string c5, .string s, .string c7, .slice a8 n8 p8, .slice a9 n9 p9].toArray = wf at hb HF ⊢
        have f0 := hb.cell (i := 0) (v := .int .i64 c0) rfl
        have f1 := hb.cell (i := 1) (v := .int .i64 c1) rfl
        have f2 := hb.cell (i := 2) (v := .bool c2) rfl
        have f3 := hb.cell (i := 3) (v := .int .i64 c3) rfl
        have f4 := hb.cell (i := 4) (v := .int .i64 c4) rfl
        have f5 := hb.cell (i := 5) (v := .string c5) rfl
        have f6 := hb.cell (i := 6) (v := .string s) rfl
        have f7 := hb.cell (i := 7) (v := .string c7) rfl
        have f8 := hb.cell (i := 8) (v := .slice a8 n8 p8) rfl
        have f9 := hb.cell (i := 9) (v := .slice a9 n9 p9) rfl
        refine bodyPost_ret (v := .agg #[.int .i64 c0, .int .i64 c1, .bool c2, .int .i64 c3, .int .i64 c4, .string c5, .string s, .string c7, .slice a8 n8 p8, .slice a9 n9 p9]) (by simp [results, Try.results88, go_sem, f0, f1, f2, f3, f4, f5, f6, f7, f8, f9]) rfl ?_
        exact HF
      · have hd0 : Y.grownBy Y.drew (some c.C) := ⟨rfl, rfl, rfl, Nat.le_refl _, fun _ _ _ => rfl⟩
        have Hd := H.draw (W' := Y.drew) H.cur hd0
        have R3d := R3.drawC H hd0
        have R4d := R4.drawC H hd0
        have x8y := R3.row.cell (i := 8) (v := .slice a8 n8 p8) rfl
        obtain ⟨iE, hiE, hzE, hsizeE, hbyE⟩ := info_parts Try.infoEx
        go_wp2_with fail
        go_region_law (first
          | (refine step_append_q rfl (.tmp 75) (.tmp 78) _ _ rfl _ _ rfl rfl _ wq HRUN.out ?_)
          | (go_simp; go_at_call 149; refine (col_any c.B c.C c.a c.len c.cap _ Hd.cur).mono ?_; rintro e Y2 ⟨s6, s7, h6, h7, rfl, hc, hg⟩; have R3y := R3d.drawC Hd hg; have R4y := R4d.drawC Hd hg; have Hy := Hd.draw hc hg; obtain ⟨τ1, τ', g, n, cp, wq, hrun, hBu, hT, HB, hgv, hw, hot, hbx⟩ := DS.app 26 26 (ty := .exprs) rfl iE _ Try.underlying26 hiE hzE (by rw [hsizeE]; rfl) rfl (by rw [hbyE]; decide) (N := N) hS Hy (.slice a8 n8 p8) g8 (by omega) hN [.int .i64 2, .int .i64 0, .bool false, .int .i64 0, .int .i64 0, .string ⟨#[]⟩, .string s6, .string s7, .slice none 0 0, .slice none 0 0] (col_good s6 s7 h6 h7) (by intro u hu; simp only [List.mem_cons, List.not_mem_nil, or_false] at hu; rcases hu with rfl | rfl | rfl | rfl | rfl | rfl | rfl | rfl | rfl | rfl <;> rfl); have HRUN := Lib.hid hrun; clear hrun; have R3n := hbx _ _ _ R3y; have R4n := hbx _ _ _ R4y; have x8z := R3y.row.cell (i := 8) (v := .slice a8 n8 p8) rfl; have hbz := R3y.row.lt; have y1 := R3n.row.cell (i := 8) (v := .slice a8 n8 p8) rfl; have y2 := R3n.row.soft 8; clear hc hg; go_simp))
        all_goals
          replace HB := HB.setOwn R3n 8 (.slice (some ⟨g, 0, none⟩) n cp)
          have R4 := R4n.other 8 (.slice (some ⟨g, 0, none⟩) n cp) (b' := W.heap.size) (by omega)
          have R3 : Bx τ' W (wq.setCell ⟨W.heap.size, 8, none⟩ (.slice (some ⟨g, 0, none⟩) n cp)) W.heap.size 29 #[.int .i64 c0, .int .i64 c1, .bool c2, .int .i64 c3, .int .i64 c4, .string c5, .string c6, .string c7, .slice (some ⟨g, 0, none⟩) n cp, .slice a9 n9 p9] := R3n.set 8 _
          obtain ⟨g9n, e9⟩ := hot .queries _ (by decide) g9
          have hy : GoodRow τ' 1000 .exprs [.int .i64 c0, .int .i64 c1, .bool c2, .int .i64 c3, .int .i64 c4, .string c5, .string c6, .string c7, .slice (some ⟨g, 0, none⟩) n cp, .slice a9 n9 p9] N := GoodRow.mk10 b0 b1 b3 b4_ b5 b6 b7 hgv g9n (by rw [e9]; omega)
          have HF := finB HB R4 hBu hT hy
          have hb := R4.row.setRow [.int .i64 c0, .int .i64 c1, .bool c2, .int .i64 c3, .int .i64 c4, .string c5, .string c6, .string c7, .slice (some ⟨g, 0, none⟩) n cp, .slice a9 n9 p9].toArray
          have ld := ldE_row (ys := [.int .i64 c0, .int .i64 c1, .bool c2, .int .i64 c3, .int .i64 c4, .string c5, .string c6, .string c7, .slice (some ⟨g, 0, none⟩) n cp, .slice a9 n9 p9]) R3.row rfl
          have st := stE_row (ys := [.int .i64 c0, .int .i64 c1, .bool c2, .int .i64 c3, .int .i64 c4, .string c5, .string c6, .string c7, .slice (some ⟨g, 0, none⟩) n cp, .slice a9 n9 p9]) R4.row rfl rfl rfl
          go_wp2_with fail
          generalize (wq.setCell ⟨W.heap.size, 8, none⟩ (.slice (some ⟨g, 0, none⟩) n cp)).setRow (W.heap.size + 1) [.int .i64 c0, .int .i64 c1, .bool c2, .int .i64 c3, .int .i64 c4, .string c5, .string c6, .string c7, .slice (some ⟨g, 0, none⟩) n cp, .slice a9 n9 p9].toArray = wf at hb HF ⊢
          have f0 := hb.cell (i := 0) (v := .int .i64 c0) rfl
          have f1 := hb.cell (i := 1) (v := .int .i64 c1) rfl
          have f2 := hb.cell (i := 2) (v := .bool c2) rfl
          have f3 := hb.cell (i := 3) (v := .int .i64 c3) rfl
          have f4 := hb.cell (i := 4) (v := .int .i64 c4) rfl
          have f5 := hb.cell (i := 5) (v := .string c5) rfl
          have f6 := hb.cell (i := 6) (v := .string c6) rfl
          have f7 := hb.cell (i := 7) (v := .string c7) rfl
          have f8 := hb.cell (i := 8) (v := .slice (some ⟨g, 0, none⟩) n cp) rfl
          have f9 := hb.cell (i := 9) (v := .slice a9 n9 p9) rfl
          refine bodyPost_ret (v := .agg #[.int .i64 c0, .int .i64 c1, .bool c2, .int .i64 c3, .int .i64 c4, .string c5, .string c6, .string c7, .slice (some ⟨g, 0, none⟩) n cp, .slice a9 n9 p9]) (by simp [results, Try.results88, go_sem, f0, f1, f2, f3, f4, f5, f6, f7, f8, f9]) rfl ?_
          exact HF
      · have x9y := R3.row.cell (i := 9) (v := .slice a9 n9 p9) rfl
        obtain ⟨iE, hiE, hzE, hsizeE, hbyE⟩ := info_parts Try.infoTQ
        obtain ⟨τ1, τ', g, n, cp, wq, hrun, hBu, hT, HB, hgv, hw, hot, hbx⟩ := DS.app 27 27 (ty := .queries) rfl iE _ Try.underlying27 hiE hzE (by rw [hsizeE]; rfl) rfl (by rw [hbyE]; decide) (N := N) hS H (.slice a9 n9 p9) g9 (by omega) hN [.bool false, .slice none 0 0, .slice none 0 0, .slice none 0 0, .slice none 0 0, .int .i64 0] zeroQ_good (by intro u hu; simp only [List.mem_cons, List.not_mem_nil, or_false] at hu; rcases hu with rfl | rfl | rfl | rfl | rfl | rfl <;> rfl)
        have HRUN := Lib.hid hrun
        clear hrun
        have R3n := hbx _ _ _ R3
        have R4n := hbx _ _ _ R4
        have y1 := R3n.row.cell (i := 9) (v := .slice a9 n9 p9) rfl
        have y2 := R3n.row.soft 9
        clear R3 R4
        replace HB := HB.setOwn R3n 9 (.slice (some ⟨g, 0, none⟩) n cp)
        have R4 := R4n.other 9 (.slice (some ⟨g, 0, none⟩) n cp) (b' := W.heap.size) (by omega)
        have R3 : Bx τ' W (wq.setCell ⟨W.heap.size, 9, none⟩ (.slice (some ⟨g, 0, none⟩) n cp)) W.heap.size 29 #[.int .i64 c0, .int .i64 c1, .bool c2, .int .i64 c3, .int .i64 c4, .string c5, .string c6, .string c7, .slice a8 n8 p8, .slice (some ⟨g, 0, none⟩) n cp] := R3n.set 9 _
        obtain ⟨g8n, e8⟩ := hot .exprs _ (by decide) g8
        have hy : GoodRow τ' 1000 .exprs [.int .i64 c0, .int .i64 c1, .bool c2, .int .i64 c3, .int .i64 c4, .string c5, .string c6, .string c7, .slice a8 n8 p8, .slice (some ⟨g, 0, none⟩) n cp] N := GoodRow.mk10 b0 b1 b3 b4_ b5 b6 b7 g8n hgv (by rw [e8]; omega)
        have HF := finB HB R4 hBu hT hy
        have hb := R4.row.setRow [.int .i64 c0, .int .i64 c1, .bool c2, .int .i64 c3, .int .i64 c4, .string c5, .string c6, .string c7, .slice a8 n8 p8, .slice (some ⟨g, 0, none⟩) n cp].toArray
        have ld := ldE_row (ys := [.int .i64 c0, .int .i64 c1, .bool c2, .int .i64 c3, .int .i64 c4, .string c5, .string c6, .string c7, .slice a8 n8 p8, .slice (some ⟨g, 0, none⟩) n cp]) R3.row rfl
        have st := stE_row (ys := [.int .i64 c0, .int .i64 c1, .bool c2, .int .i64 c3, .int .i64 c4, .string c5, .string c6, .string c7, .slice a8 n8 p8, .slice (some ⟨g, 0, none⟩) n cp]) R4.row rfl rfl rfl
        go_wp2_with (at_builtin; refine wpList_append_q rfl (.tmp 34) (.tmp 36) _ _ rfl _ _ rfl rfl _ wq HRUN.out ?_)
        generalize (wq.setCell ⟨W.heap.size, 9, none⟩ (.slice (some ⟨g, 0, none⟩) n cp)).setRow (W.heap.size + 1) [.int .i64 c0, .int .i64 c1, .bool c2, .int .i64 c3, .int .i64 c4, .string c5, .string c6, .string c7, .slice a8 n8 p8, .slice (some ⟨g, 0, none⟩) n cp].toArray = wf at hb HF ⊢
        have f0 := hb.cell (i := 0) (v := .int .i64 c0) rfl
        have f1 := hb.cell (i := 1) (v := .int .i64 c1) rfl
        have f2 := hb.cell (i := 2) (v := .bool c2) rfl
        have f3 := hb.cell (i := 3) (v := .int .i64 c3) rfl
        have f4 := hb.cell (i := 4) (v := .int .i64 c4) rfl
        have f5 := hb.cell (i := 5) (v := .string c5) rfl
        have f6 := hb.cell (i := 6) (v := .string c6) rfl
        have f7 := hb.cell (i := 7) (v := .string c7) rfl
        have f8 := hb.cell (i := 8) (v := .slice a8 n8 p8) rfl
        have f9 := hb.cell (i := 9) (v := .slice (some ⟨g, 0, none⟩) n cp) rfl
        refine bodyPost_ret (v := .agg #[.int .i64 c0, .int .i64 c1, .bool c2, .int .i64 c3, .int .i64 c4, .string c5, .string c6, .string c7, .slice a8 n8 p8, .slice (some ⟨g, 0, none⟩) n cp]) (by simp [results, Try.results88, go_sem, f0, f1, f2, f3, f4, f5, f6, f7, f8, f9]) rfl ?_
        exact HF
    · have x8 := R3.row.cell (i := 8) (v := .slice a8 n8 p8) rfl
      obtain ⟨g, l, rfl, hg0, hnl⟩ : ∃ g l, a8 = some ⟨g, 0, none⟩ ∧ τ g = some (.exprs, p8, l) ∧ n8 ≤ l.length := by
        rcases g8 with e | ⟨g, n, cap, l, e, h1, h2, _⟩
        · injection e with e1 e2 e3; omega
        · injection e with e1 e2 e3; subst e1; subst e2; subst e3; exact ⟨g, l, rfl, h1, h2⟩
      have hsl : slw τ (.slice (some ⟨g, 0, none⟩) n8 p8) = l.sum := slw_block hg0
      have hll := hS.inv.len_sum hg0
      go_wp2_with fail
      clear x8
      refine (below_any (n8 : Int) c.B c.C c.a c.len c.cap _ H.cur (by omega) (by omega)).mono ?_
      rintro e W3 ⟨x, hx0, hx1, rfl, hc, hg⟩
      replace R3 := R3.drawC H hg
      replace R4 := R4.drawC H hg
      replace H := H.draw hc hg
      clear hc hg
      obtain ⟨k, rfl⟩ : ∃ k : Nat, x = (k : Int) := Int.eq_ofNat_of_zero_le hx0
      have hk : k < n8 := by omega
      have hk2 : (k : Int) < (n8 : Int) := by omega
      clear hx0 hx1
      have hd0 : W3.grownBy W3.drew (some c.C) := ⟨rfl, rfl, rfl, Nat.le_refl _, fun _ _ _ => rfl⟩
      have Hd := H.draw (W' := W3.drew) H.cur hd0
      have R3d := R3.drawC H hd0
      have R4d := R4.drawC H hd0
      have HSd := hS.ds Hd
      obtain ⟨_, _, hlc, _, cs, hcs, hlen, _⟩ := HSd.inv.blk g .exprs p8 l hg0
      have hm := HSd.more g .exprs p8 l hg0 cs hcs k (by omega)
      have hlk := sum_get_le (l := l) (i := k) (by omega)
      have hrc : ∀ j u, (rowAt 10 cs k)[j]? = some u → W3.drew.cell? ⟨g, k * 10 + j, none⟩ = some u := fun j u hj => by
        by_cases h : j < 10
        · rw [rowAt_get h] at hj
          rw [cell_of_row W3.drew g _ cs.toArray 29 (0, 0) hcs]
          simpa using hj
        · rw [List.getElem?_eq_none (by unfold rowAt; rw [List.length_take]; omega)] at hj; cases hj
      replace hm : Slack τ 1000 .exprs (rowAt 10 cs k) l[k] := hm
      generalize rowAt 10 cs k = rk at hm hrc
      obtain ⟨d0, d1, d2, d3, d4, d5, d6, d7, da8, dn8, dp8, da9, dn9, dp9, rfl⟩ := hm.good.tenS
      have ldk : (ldX 29 (.pointer (some ⟨g, k * 10, none⟩))).run Try.prog W3.drew = .ok (.value (.agg #[.int .i64 d0, .int .i64 d1, .bool d2, .int .i64 d3, .int .i64 d4, .string d5, .string d6, .string d7, .slice da8 dn8 dp8, .slice da9 dn9 dp9])) W3.drew := run_ldX (P := Try.prog) (ys := [.int .i64 d0, .int .i64 d1, .bool d2, .int .i64 d3, .int .i64 d4, .string d5, .string d6, .string d7, .slice da8 dn8 dp8, .slice da9 dn9 dp9]) rfl Try.isAgg29 Try.sizeOf29 hrc
      have x8 := R3.row.cell (i := 8) (v := .slice (some ⟨g, 0, none⟩) n8 p8) rfl
      clear hrc hcs hlen
      go_wp2_with fail
      go_region_law (first
        | (go_simp; go_at_call 88; refine (IH l[k] (by omega) L c τ _ [.int .i64 d0, .int .i64 d1, .bool d2, .int .i64 d3, .int .i64 d4, .string d5, .string d6, .string d7, .slice da8 dn8 dp8, .slice da9 dn9 dp9] HSd Hd.cur lo (Nat.le_trans hi Hd.size) hm).mono ?_; rintro e W4 ⟨τ1, τ', ys, rfl, hBu, hT, hy, hI, hcur, hK⟩; have HB := Hd.bent hcur hI hK; have R3y := R3d.bent Hd hK; have R4y := R4d.bent Hd hK; have hg1 := hT _ _ (hBu.big hg0 hlk); obtain ⟨_, _, _, _, cs2, hcs2, hlen2, _⟩ := hI.blk g .exprs p8 l hg1; obtain ⟨e0, e1, e2, e3, e4, e5, e6, e7, ea8, en8, ep8, ea9, en9, ep9, rfl⟩ := hy.tenS; have stk := stE_at (ys := [.int .i64 e0, .int .i64 e1, .bool e2, .int .i64 e3, .int .i64 e4, .string e5, .string e6, .string e7, .slice ea8 en8 ep8, .slice ea9 en9 ep9]) (k := k) hcs2 hlen2 (by omega) rfl rfl; have x8y := R3y.row.cell (i := 8) (v := .slice (some ⟨g, 0, none⟩) n8 p8) rfl; go_simp))
      all_goals
        have HB5 := HB.turn hg0 hg1 (by omega) hcs2 hlen2 hlc hy
        have R3 := R3y.turn hg1 (splice 10 cs2 k [.int .i64 e0, .int .i64 e1, .bool e2, .int .i64 e3, .int .i64 e4, .string e5, .string e6, .string e7, .slice ea8 en8 ep8, .slice ea9 en9 ep9]).toArray
        have R4 := R4y.turn hg1 (splice 10 cs2 k [.int .i64 e0, .int .i64 e1, .bool e2, .int .i64 e3, .int .i64 e4, .string e5, .string e6, .string e7, .slice ea8 en8 ep8, .slice ea9 en9 ep9]).toArray
        have hyE := (hBu.slack hs).le hT (Nat.le_refl _)
        have HF := finB HB5 R4 (hBu.mono (show l[k] ≤ N by omega)) hT hyE
        clear ldk stk
        have hb := R4.row.setRow [.int .i64 c0, .int .i64 c1, .bool c2, .int .i64 c3, .int .i64 c4, .string c5, .string c6, .string c7, .slice (some ⟨g, 0, none⟩) n8 p8, .slice a9 n9 p9].toArray
        have ld := ldE_row (ys := [.int .i64 c0, .int .i64 c1, .bool c2, .int .i64 c3, .int .i64 c4, .string c5, .string c6, .string c7, .slice (some ⟨g, 0, none⟩) n8 p8, .slice a9 n9 p9]) R3.row rfl
        have st := stE_row (ys := [.int .i64 c0, .int .i64 c1, .bool c2, .int .i64 c3, .int .i64 c4, .string c5, .string c6, .string c7, .slice (some ⟨g, 0, none⟩) n8 p8, .slice a9 n9 p9]) R4.row rfl rfl rfl
        go_wp2_with fail
        generalize (W4.setRow g (splice 10 cs2 k [.int .i64 e0, .int .i64 e1, .bool e2, .int .i64 e3, .int .i64 e4, .string e5, .string e6, .string e7, .slice ea8 en8 ep8, .slice ea9 en9 ep9]).toArray).setRow (W.heap.size + 1) [.int .i64 c0, .int .i64 c1, .bool c2, .int .i64 c3, .int .i64 c4, .string c5, .string c6, .string c7, .slice (some ⟨g, 0, none⟩) n8 p8, .slice a9 n9 p9].toArray = wf at hb HF ⊢
        have f0 := hb.cell (i := 0) (v := .int .i64 c0) rfl
        have f1 := hb.cell (i := 1) (v := .int .i64 c1) rfl
        have f2 := hb.cell (i := 2) (v := .bool c2) rfl
        have f3 := hb.cell (i := 3) (v := .int .i64 c3) rfl
        have f4 := hb.cell (i := 4) (v := .int .i64 c4) rfl
        have f5 := hb.cell (i := 5) (v := .string c5) rfl
        have f6 := hb.cell (i := 6) (v := .string c6) rfl
        have f7 := hb.cell (i := 7) (v := .string c7) rfl
        have f8 := hb.cell (i := 8) (v := .slice (some ⟨g, 0, none⟩) n8 p8) rfl
        have f9 := hb.cell (i := 9) (v := .slice a9 n9 p9) rfl
        refine bodyPost_ret (v := .agg #[.int .i64 c0, .int .i64 c1, .bool c2, .int .i64 c3, .int .i64 c4, .string c5, .string c6, .string c7, .slice (some ⟨g, 0, none⟩) n8 p8, .slice a9 n9 p9]) (by simp [results, Try.results88, go_sem, f0, f1, f2, f3, f4, f5, f6, f7, f8, f9]) rfl ?_
        exact HF
theorem bent_all : ∀ N, N ≤ 1000 → BentAt N := by
  intro N
  induction N using Nat.strongRecOn with
  | _ N IH => exact fun hN => bent_step N hN fun M hM => IH M hM (by omega)
end Go.Proofs.Ytkacelpndeoogaa
