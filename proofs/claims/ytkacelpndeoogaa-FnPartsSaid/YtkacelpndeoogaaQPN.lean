/- Joined texts: DrawApp. -/
import Derived.Test.YtkacelpndeoogaaQHDrawExpr
/- Rows of other types in a draw. -/
namespace Go.Proofs.Ytkacelpndeoogaa
open Go.RowKit

theorem Try.infoTI : (Try.prog.info? 126).map (fun i => (i.zero, i.size, i.bytes)) = some (some (.agg #[.bool false, .string ByteArray.empty, .int .i64 0, .int .i64 0, .bool false, .int .i64 0, .int .i64 0, .string ByteArray.empty, .string ByteArray.empty, .string ByteArray.empty, .slice none 0 0, .slice none 0 0, .string ByteArray.empty]), 13, 176) := by kernel_rfl
/- one element more in a row of the own of the draw -/
set_option maxRecDepth 100000 in
theorem appTI {ops : Array Oper} {rest : List Oper} {o : Oper} {a : Act} {Q : Exit → Act → World → Prop}
    (hgd : o.guard = none) (s x : Operand) (ho : o.op = .call { callee := .builtin .append, args := #[s, x], argTypes := #[34, 34] })
    (L : Nat) (c : Cu) (τ0 τ : Tau) (W0 W : World) (Bq : Nat) (hB0 : W0.heap.size ≤ Bq) (hB1 : Bq ≤ W.heap.size) (v : Value) (n : Nat) (xs ys : List Value) (l : List Nat) (N nb : Nat) (hnb : W.heap.size = nb) (hs : a.eval s = v) (hx : a.eval x = .slice (some ⟨nb, 0, none⟩) 1 1)
    (H : DS L c τ0 τ W0 W) (hown : W.ownsRow Bq 126 13 v n xs) (hrows : RowsOk τ 1000 .items xs l) (hfree : ∀ g, v.ownBlock = some g → τ g = none) (hy : GoodRow τ 1000 .items ys N) (hone : ∀ u ∈ ys, u.oneCell' = true) (hn : n ≤ 1000)
    (h : ∀ (v' : Value) (w' : World), w'.ownsRow Bq 126 13 v' (n + 1) (xs ++ ys) → RowsOk τ 1000 .items (xs ++ ys) (l ++ [N]) → (∀ g, v'.ownBlock = some g → τ g = none) → DS L c τ0 τ W0 w' → (∀ k, k < W.heap.size → v.ownBlock ≠ some k → w'.heap[k]? = W.heap[k]?) → wpList Try.prog ops Q rest (a.put o.dst v') w') :
    wpList Try.prog ops Q (o :: rest) a (W.alloc (.cells ys.toArray 126)) := by
  subst hnb
  obtain ⟨i, hi, hz, hsize, hby⟩ := info_parts Try.infoTI
  have hrow := heap_alloc_new W (.cells ys.toArray 126)
  have hl : ys.length = 13 := hy.len
  refine wpList_append_own_at _ hgd s x 34 ho Bq 126 i _ 13 176 Try.underlying34 hi hz hsize hby rfl (by decide) v n xs hs (World.ownsRow.alloc hown _) ⟨W.heap.size, 0, none⟩ 1 1 ys hx (by rw [hl]) (fun j u hj => ?_) hone (by unfold maxLen; omega) (by omega) (by simp; omega) ?_
  · have hp : (⟨W.heap.size, 0, none⟩ : Addr).add j = ⟨W.heap.size, j, none⟩ := by unfold Addr.add; split <;> simp_all
    rw [hp, cell_of_row _ W.heap.size j _ 126 (0, 0) hrow]
    simpa using hj
  · intro v' w' hown' hgr hnil hat
    have H1 := H.alloc (.cells ys.toArray 126)
    have hlow : ∀ b, v.ownBlock = some b → W0.heap.size ≤ b := fun b hb => Nat.le_trans hB0 (World.ownsRow.lt hown b hb).1
    refine h v' w' hown' (hrows.snoc hy) (fun g hg => ?_) (H1.own hgr fun b hb => ⟨hlow b hb, hfree b hb⟩) (fun k hk hne => (hgr.block k (by simp; omega) (fun e => hne e.symm)).trans (Below.heap_alloc _ _ _ hk))
    rcases hat with e | e
    · exact hfree g (e.symm.trans hg)
    · rw [e] at hg
      injection hg with hg
      exact H1.inv.fresh (by omega)
theorem Try.infoTS : (Try.prog.info? 93).map (fun i => (i.zero, i.size, i.bytes)) = some (some (.agg #[.string ByteArray.empty, .string ByteArray.empty, .slice none 0 0]), 3, 56) := by kernel_rfl
/- one element more in a row of the own of the draw -/
set_option maxRecDepth 100000 in
theorem appTS {ops : Array Oper} {rest : List Oper} {o : Oper} {a : Act} {Q : Exit → Act → World → Prop}
    (hgd : o.guard = none) (s x : Operand) (ho : o.op = .call { callee := .builtin .append, args := #[s, x], argTypes := #[35, 35] })
    (L : Nat) (c : Cu) (τ0 τ : Tau) (W0 W : World) (Bq : Nat) (hB0 : W0.heap.size ≤ Bq) (hB1 : Bq ≤ W.heap.size) (v : Value) (n : Nat) (xs ys : List Value) (l : List Nat) (N nb : Nat) (hnb : W.heap.size = nb) (hs : a.eval s = v) (hx : a.eval x = .slice (some ⟨nb, 0, none⟩) 1 1)
    (H : DS L c τ0 τ W0 W) (hown : W.ownsRow Bq 93 3 v n xs) (hrows : RowsOk τ 1000 .sources xs l) (hfree : ∀ g, v.ownBlock = some g → τ g = none) (hy : GoodRow τ 1000 .sources ys N) (hone : ∀ u ∈ ys, u.oneCell' = true) (hn : n ≤ 1000)
    (h : ∀ (v' : Value) (w' : World), w'.ownsRow Bq 93 3 v' (n + 1) (xs ++ ys) → RowsOk τ 1000 .sources (xs ++ ys) (l ++ [N]) → (∀ g, v'.ownBlock = some g → τ g = none) → DS L c τ0 τ W0 w' → (∀ k, k < W.heap.size → v.ownBlock ≠ some k → w'.heap[k]? = W.heap[k]?) → wpList Try.prog ops Q rest (a.put o.dst v') w') :
    wpList Try.prog ops Q (o :: rest) a (W.alloc (.cells ys.toArray 93)) := by
  subst hnb
  obtain ⟨i, hi, hz, hsize, hby⟩ := info_parts Try.infoTS
  have hrow := heap_alloc_new W (.cells ys.toArray 93)
  have hl : ys.length = 3 := hy.len
  refine wpList_append_own_at _ hgd s x 35 ho Bq 93 i _ 3 56 Try.underlying35 hi hz hsize hby rfl (by decide) v n xs hs (World.ownsRow.alloc hown _) ⟨W.heap.size, 0, none⟩ 1 1 ys hx (by rw [hl]) (fun j u hj => ?_) hone (by unfold maxLen; omega) (by omega) (by simp; omega) ?_
  · have hp : (⟨W.heap.size, 0, none⟩ : Addr).add j = ⟨W.heap.size, j, none⟩ := by unfold Addr.add; split <;> simp_all
    rw [hp, cell_of_row _ W.heap.size j _ 93 (0, 0) hrow]
    simpa using hj
  · intro v' w' hown' hgr hnil hat
    have H1 := H.alloc (.cells ys.toArray 93)
    have hlow : ∀ b, v.ownBlock = some b → W0.heap.size ≤ b := fun b hb => Nat.le_trans hB0 (World.ownsRow.lt hown b hb).1
    refine h v' w' hown' (hrows.snoc hy) (fun g hg => ?_) (H1.own hgr fun b hb => ⟨hlow b hb, hfree b hb⟩) (fun k hk hne => (hgr.block k (by simp; omega) (fun e => hne e.symm)).trans (Below.heap_alloc _ _ _ hk))
    rcases hat with e | e
    · exact hfree g (e.symm.trans hg)
    · rw [e] at hg
      injection hg with hg
      exact H1.inv.fresh (by omega)
theorem Try.infoTK : (Try.prog.info? 198).map (fun i => (i.zero, i.size, i.bytes)) = some (some (.agg #[.int .i64 0, .int .i64 0, .bool false, .int .i64 0, .int .i64 0, .string ByteArray.empty, .string ByteArray.empty, .string ByteArray.empty, .slice none 0 0, .slice none 0 0, .bool false]), 11, 144) := by kernel_rfl
/- one element more in a row of the own of the draw -/
set_option maxRecDepth 100000 in
theorem appTK {ops : Array Oper} {rest : List Oper} {o : Oper} {a : Act} {Q : Exit → Act → World → Prop}
    (hgd : o.guard = none) (s x : Operand) (ho : o.op = .call { callee := .builtin .append, args := #[s, x], argTypes := #[36, 36] })
    (L : Nat) (c : Cu) (τ0 τ : Tau) (W0 W : World) (Bq : Nat) (hB0 : W0.heap.size ≤ Bq) (hB1 : Bq ≤ W.heap.size) (v : Value) (n : Nat) (xs ys : List Value) (l : List Nat) (N nb : Nat) (hnb : W.heap.size = nb) (hs : a.eval s = v) (hx : a.eval x = .slice (some ⟨nb, 0, none⟩) 1 1)
    (H : DS L c τ0 τ W0 W) (hown : W.ownsRow Bq 198 11 v n xs) (hrows : RowsOk τ 1000 .keys xs l) (hfree : ∀ g, v.ownBlock = some g → τ g = none) (hy : GoodRow τ 1000 .keys ys N) (hone : ∀ u ∈ ys, u.oneCell' = true) (hn : n ≤ 1000)
    (h : ∀ (v' : Value) (w' : World), w'.ownsRow Bq 198 11 v' (n + 1) (xs ++ ys) → RowsOk τ 1000 .keys (xs ++ ys) (l ++ [N]) → (∀ g, v'.ownBlock = some g → τ g = none) → DS L c τ0 τ W0 w' → (∀ k, k < W.heap.size → v.ownBlock ≠ some k → w'.heap[k]? = W.heap[k]?) → wpList Try.prog ops Q rest (a.put o.dst v') w') :
    wpList Try.prog ops Q (o :: rest) a (W.alloc (.cells ys.toArray 198)) := by
  subst hnb
  obtain ⟨i, hi, hz, hsize, hby⟩ := info_parts Try.infoTK
  have hrow := heap_alloc_new W (.cells ys.toArray 198)
  have hl : ys.length = 11 := hy.len
  refine wpList_append_own_at _ hgd s x 36 ho Bq 198 i _ 11 144 Try.underlying36 hi hz hsize hby rfl (by decide) v n xs hs (World.ownsRow.alloc hown _) ⟨W.heap.size, 0, none⟩ 1 1 ys hx (by rw [hl]) (fun j u hj => ?_) hone (by unfold maxLen; omega) (by omega) (by simp; omega) ?_
  · have hp : (⟨W.heap.size, 0, none⟩ : Addr).add j = ⟨W.heap.size, j, none⟩ := by unfold Addr.add; split <;> simp_all
    rw [hp, cell_of_row _ W.heap.size j _ 198 (0, 0) hrow]
    simpa using hj
  · intro v' w' hown' hgr hnil hat
    have H1 := H.alloc (.cells ys.toArray 198)
    have hlow : ∀ b, v.ownBlock = some b → W0.heap.size ≤ b := fun b hb => Nat.le_trans hB0 (World.ownsRow.lt hown b hb).1
    refine h v' w' hown' (hrows.snoc hy) (fun g hg => ?_) (H1.own hgr fun b hb => ⟨hlow b hb, hfree b hb⟩) (fun k hk hne => (hgr.block k (by simp; omega) (fun e => hne e.symm)).trans (Below.heap_alloc _ _ _ hk))
    rcases hat with e | e
    · exact hfree g (e.symm.trans hg)
    · rw [e] at hg
      injection hg with hg
      exact H1.inv.fresh (by omega)
theorem execOp_ldQ (ρ : Operand → Value) (dst : Option Tmp) (x : Operand) (ty : TypeId) (pos : String) (after : Array Edge) (guard : Option (Nat × Bool)) :
    execOp ρ { dst := dst, op := .load 38 x, type := ty, pos := pos, after := after, guard := guard } = ldX 38 (ρ x) := rfl
theorem execOp_stQ (ρ : Operand → Value) (dst : Option Tmp) (x y : Operand) (ty : TypeId) (pos : String) (after : Array Edge) (guard : Option (Nat × Bool)) :
    execOp ρ { dst := dst, op := .store 38 x y, type := ty, pos := pos, after := after, guard := guard } = stX 38 (ρ x) (ρ y) := rfl
theorem ldQ_row {W : World} {b : Nat} {ys : List Value} (h : RowAt W b 38 ys.toArray) (hl : ys.length = 6) :
    (ldX 38 (.pointer (some ⟨b, 0, none⟩))).run Try.prog W = .ok (.value (.agg ys.toArray)) W :=
  run_ldX (P := Try.prog) (o := 0) hl Try.isAgg38 Try.sizeOf38 fun k u hk => by rw [Nat.zero_add]; exact h.cell (i := k) (by simpa using hk)
theorem stQ_row {W : World} {b : Nat} {zs : Array Value} {ys : List Value} (h : RowAt W b 38 zs) (hz : zs.size = 6) (hl : ys.length = 6) (ho : ys.all Value.oneCell' = true) :
    (stX 38 (.pointer (some ⟨b, 0, none⟩)) (.agg ys.toArray)).run Try.prog W = .ok .skip (W.setRow b ys.toArray) := by
  have := storeAt_row (P := Try.prog) (zs := zs) ys (fun w => by rw [hl]; exact Try.sizeOf38 w) (by rw [hl, hz]) ho h
  simp [stX, this, Result.andThen]
theorem stQ_new {W : World} {ys : List Value} (hl : ys.length = 6) (ho : ys.all Value.oneCell' = true) :
    (stX 38 (.pointer (some ⟨W.heap.size, 0, none⟩)) (.agg ys.toArray)).run Try.prog (W.alloc (.cells #[.bool false, .slice none 0 0, .slice none 0 0, .slice none 0 0, .slice none 0 0, .int .i64 0] 38)) = .ok .skip (W.alloc (.cells ys.toArray 38)) := by
  have h := stQ_row (ys := ys) (RowAt.new W 38 #[.bool false, .slice none 0 0, .slice none 0 0, .slice none 0 0, .slice none 0 0, .int .i64 0]) rfl hl ho
  rw [setRow_new] at h
  exact h
theorem execOp_ldI (ρ : Operand → Value) (dst : Option Tmp) (x : Operand) (ty : TypeId) (pos : String) (after : Array Edge) (guard : Option (Nat × Bool)) :
    execOp ρ { dst := dst, op := .load 126 x, type := ty, pos := pos, after := after, guard := guard } = ldX 126 (ρ x) := rfl
theorem execOp_stI (ρ : Operand → Value) (dst : Option Tmp) (x y : Operand) (ty : TypeId) (pos : String) (after : Array Edge) (guard : Option (Nat × Bool)) :
    execOp ρ { dst := dst, op := .store 126 x y, type := ty, pos := pos, after := after, guard := guard } = stX 126 (ρ x) (ρ y) := rfl
theorem ldI_row {W : World} {b : Nat} {ys : List Value} (h : RowAt W b 126 ys.toArray) (hl : ys.length = 13) :
    (ldX 126 (.pointer (some ⟨b, 0, none⟩))).run Try.prog W = .ok (.value (.agg ys.toArray)) W :=
  run_ldX (P := Try.prog) (o := 0) hl Try.isAgg126 Try.sizeOf126 fun k u hk => by rw [Nat.zero_add]; exact h.cell (i := k) (by simpa using hk)
theorem stI_row {W : World} {b : Nat} {zs : Array Value} {ys : List Value} (h : RowAt W b 126 zs) (hz : zs.size = 13) (hl : ys.length = 13) (ho : ys.all Value.oneCell' = true) :
    (stX 126 (.pointer (some ⟨b, 0, none⟩)) (.agg ys.toArray)).run Try.prog W = .ok .skip (W.setRow b ys.toArray) := by
  have := storeAt_row (P := Try.prog) (zs := zs) ys (fun w => by rw [hl]; exact Try.sizeOf126 w) (by rw [hl, hz]) ho h
  simp [stX, this, Result.andThen]
theorem stI_new {W : World} {ys : List Value} (hl : ys.length = 13) (ho : ys.all Value.oneCell' = true) :
    (stX 126 (.pointer (some ⟨W.heap.size, 0, none⟩)) (.agg ys.toArray)).run Try.prog (W.alloc (.cells #[.bool false, .string ⟨#[]⟩, .int .i64 0, .int .i64 0, .bool false, .int .i64 0, .int .i64 0, .string ⟨#[]⟩, .string ⟨#[]⟩, .string ⟨#[]⟩, .slice none 0 0, .slice none 0 0, .string ⟨#[]⟩] 126)) = .ok .skip (W.alloc (.cells ys.toArray 126)) := by
  have h := stI_row (ys := ys) (RowAt.new W 126 #[.bool false, .string ⟨#[]⟩, .int .i64 0, .int .i64 0, .bool false, .int .i64 0, .int .i64 0, .string ⟨#[]⟩, .string ⟨#[]⟩, .string ⟨#[]⟩, .slice none 0 0, .slice none 0 0, .string ⟨#[]⟩]) rfl hl ho
  rw [setRow_new] at h
  exact h
theorem execOp_ldS (ρ : Operand → Value) (dst : Option Tmp) (x : Operand) (ty : TypeId) (pos : String) (after : Array Edge) (guard : Option (Nat × Bool)) :
    execOp ρ { dst := dst, op := .load 93 x, type := ty, pos := pos, after := after, guard := guard } = ldX 93 (ρ x) := rfl
theorem execOp_stS (ρ : Operand → Value) (dst : Option Tmp) (x y : Operand) (ty : TypeId) (pos : String) (after : Array Edge) (guard : Option (Nat × Bool)) :
    execOp ρ { dst := dst, op := .store 93 x y, type := ty, pos := pos, after := after, guard := guard } = stX 93 (ρ x) (ρ y) := rfl
theorem ldS_row {W : World} {b : Nat} {ys : List Value} (h : RowAt W b 93 ys.toArray) (hl : ys.length = 3) :
    (ldX 93 (.pointer (some ⟨b, 0, none⟩))).run Try.prog W = .ok (.value (.agg ys.toArray)) W :=
  run_ldX (P := Try.prog) (o := 0) hl Try.isAgg93 Try.sizeOf93 fun k u hk => by rw [Nat.zero_add]; exact h.cell (i := k) (by simpa using hk)
theorem stS_row {W : World} {b : Nat} {zs : Array Value} {ys : List Value} (h : RowAt W b 93 zs) (hz : zs.size = 3) (hl : ys.length = 3) (ho : ys.all Value.oneCell' = true) :
    (stX 93 (.pointer (some ⟨b, 0, none⟩)) (.agg ys.toArray)).run Try.prog W = .ok .skip (W.setRow b ys.toArray) := by
  have := storeAt_row (P := Try.prog) (zs := zs) ys (fun w => by rw [hl]; exact Try.sizeOf93 w) (by rw [hl, hz]) ho h
  simp [stX, this, Result.andThen]
theorem stS_new {W : World} {ys : List Value} (hl : ys.length = 3) (ho : ys.all Value.oneCell' = true) :
    (stX 93 (.pointer (some ⟨W.heap.size, 0, none⟩)) (.agg ys.toArray)).run Try.prog (W.alloc (.cells #[.string ⟨#[]⟩, .string ⟨#[]⟩, .slice none 0 0] 93)) = .ok .skip (W.alloc (.cells ys.toArray 93)) := by
  have h := stS_row (ys := ys) (RowAt.new W 93 #[.string ⟨#[]⟩, .string ⟨#[]⟩, .slice none 0 0]) rfl hl ho
  rw [setRow_new] at h
  exact h
theorem GoodRow.zero10 (τ : Tau) (S : Nat) : GoodRow τ S .exprs zeroE 1 :=
  GoodRow.mk10 (by decide) (by decide) (by decide) (by decide) (Nat.zero_le _) (Nat.zero_le _) (Nat.zero_le _) (GoodV.nil _ _ rfl) (GoodV.nil _ _ rfl) (Nat.le_refl _)
theorem GoodRow.item {τ : Tau} {S N : Nat} {es : List Value} (h : GoodRow τ S .exprs es N) (s : Bool) {q a : ByteArray} (hq : q.size ≤ S) (ha : a.size ≤ S) : GoodRow τ S .items ([.bool s, .string q] ++ es ++ [.string a]) N := by
  obtain ⟨c0, c1, c2, c3, c4, c5, c6, c7, x8, x9, rfl, b0, b1, b3, b4, b5, b6, b7, g8, g9, hs⟩ := h.ten
  refine ⟨rfl, fun j hj => ?_, by simpa [slw] using hs⟩
  match j, hj with
  | 0, _ => exact ⟨_, rfl, _, rfl⟩
  | 1, _ => exact ⟨_, rfl, _, rfl, hq⟩
  | 2, _ => exact ⟨_, rfl, _, rfl, b0⟩
  | 3, _ => exact ⟨_, rfl, _, rfl, b1⟩
  | 4, _ => exact ⟨_, rfl, _, rfl⟩
  | 5, _ => exact ⟨_, rfl, _, rfl, b3⟩
  | 6, _ => exact ⟨_, rfl, _, rfl, b4⟩
  | 7, _ => exact ⟨_, rfl, _, rfl, b5⟩
  | 8, _ => exact ⟨_, rfl, _, rfl, b6⟩
  | 9, _ => exact ⟨_, rfl, _, rfl, b7⟩
  | 10, _ => exact ⟨_, rfl, g8⟩
  | 11, _ => exact ⟨_, rfl, g9⟩
  | 12, _ => exact ⟨_, rfl, _, rfl, ha⟩
  | m + 13, hj => exact absurd hj (by simp [rowTy, exprTy])
theorem GoodRow.key {τ : Tau} {S N : Nat} {es : List Value} (h : GoodRow τ S .exprs es N) (d : Bool) : GoodRow τ S .keys (es ++ [.bool d]) N := by
  obtain ⟨c0, c1, c2, c3, c4, c5, c6, c7, x8, x9, rfl, b0, b1, b3, b4, b5, b6, b7, g8, g9, hs⟩ := h.ten
  refine ⟨rfl, fun j hj => ?_, by simpa [slw] using hs⟩
  match j, hj with
  | 0, _ => exact ⟨_, rfl, _, rfl, b0⟩
  | 1, _ => exact ⟨_, rfl, _, rfl, b1⟩
  | 2, _ => exact ⟨_, rfl, _, rfl⟩
  | 3, _ => exact ⟨_, rfl, _, rfl, b3⟩
  | 4, _ => exact ⟨_, rfl, _, rfl, b4⟩
  | 5, _ => exact ⟨_, rfl, _, rfl, b5⟩
  | 6, _ => exact ⟨_, rfl, _, rfl, b6⟩
  | 7, _ => exact ⟨_, rfl, _, rfl, b7⟩
  | 8, _ => exact ⟨_, rfl, g8⟩
  | 9, _ => exact ⟨_, rfl, g9⟩
  | 10, _ => exact ⟨_, rfl, _, rfl⟩
  | m + 11, hj => exact absurd hj (by simp [rowTy, exprTy])
theorem GoodRow.source {τ : Tau} {S N : Nat} {t a : ByteArray} {v : Value} (ht : t.size ≤ S) (ha : a.size ≤ S) (hv : GoodV τ S .exprs v) (hs : 1 + slw τ v ≤ N) : GoodRow τ S .sources [.string t, .string a, v] N := by
  refine ⟨rfl, fun j hj => ?_, by simpa [slw] using hs⟩
  match j, hj with
  | 0, _ => exact ⟨_, rfl, _, rfl, ht⟩
  | 1, _ => exact ⟨_, rfl, _, rfl, ha⟩
  | 2, _ => exact ⟨_, rfl, hv⟩
  | m + 3, hj => exact absurd hj (by simp [rowTy])
theorem GoodRow.query {τ : Tau} {S N : Nat} {b : Bool} {v1 v2 v3 v4 : Value} {n : Int} (g1 : GoodV τ S .items v1) (g2 : GoodV τ S .sources v2) (g3 : GoodV τ S .exprs v3) (g4 : GoodV τ S .keys v4) (hn : -9223372036854775808 ≤ n ∧ n ≤ 9223372036854775807)
    (hs : 1 + (slw τ v1 + slw τ v2 + slw τ v3 + slw τ v4) ≤ N) : GoodRow τ S .queries [.bool b, v1, v2, v3, v4, .int .i64 n] N := by
  refine ⟨rfl, fun j hj => ?_, by simp [slw]; simp [slw] at hs; omega⟩
  match j, hj with
  | 0, _ => exact ⟨_, rfl, _, rfl⟩
  | 1, _ => exact ⟨_, rfl, g1⟩
  | 2, _ => exact ⟨_, rfl, g2⟩
  | 3, _ => exact ⟨_, rfl, g3⟩
  | 4, _ => exact ⟨_, rfl, g4⟩
  | 5, _ => exact ⟨_, rfl, _, rfl, hn⟩
  | m + 6, hj => exact absurd hj (by simp [rowTy])
end Go.Proofs.Ytkacelpndeoogaa
