/- Joined texts: AppB Concat Below TwMath. -/
import Derived.Test.YtfmgkinindkedaaQSSL
import Derived.Test.YtfmgkinindkedaaQHSzTree
import Derived.Test.YtfmgkinindkedaaQSSI
import Derived.Lib.AppendZeros
import Derived.Shelf.Abstract
/- append onto a list that came in, without room, or onto one of the call's own; bounds on what lies below a node. -/
namespace Go.Proofs.Ytfmgkinindkedaa
open Go.RowKit

theorem run_append_zero {P : Program} {w : World} {t ty e : TypeId} {i : TypeInfo} (ht : P.underlying t = some (.slice e)) (hi : P.info? e = some i) (b : Addr) (n c : Nat) (ax : Option Addr) :
    (Builtin.append_ #[t, t] ty #[.slice (some b) n n, .slice ax 0 c]).run P w = .ok (.slice (some b) n n) w := by
  cases ax <;> simp [Builtin.append_, run_underlying ht, sizeOf, typeInfo, hi, Builtin.lenOf, Builtin.firstCells, loadCells, loadCellsFrom, storeCells, Sem.run_pure]
/-- the list v: as it came in, without room behind it, or one of the call's own -/
def PB (w0 wr : World) (B : Nat) (v : Value) (L : List Nd) : Prop :=
  (∃ b n, v = .slice (some b) n n ∧ LK exprTy w0 w0 (fun g => g < w0.heap.size) v L) ∨ OutE w0 wr B v L
theorem PB.slice {w0 wr : World} {B : Nat} {v : Value} {L : List Nd} (h : PB w0 wr B v L) : ∃ a cap, v = .slice a L.length cap := by
  rcases h with ⟨b, n, rfl, h⟩ | h
  · obtain ⟨a, cap, e⟩ := h.slice
    exact ⟨a, cap, e⟩
  · exact h.slice
theorem PB.later {w0 wr w' : World} {B : Nat} {v : Value} {L : List Nd} (h : PB w0 wr B v L) (hb : Below wr.heap.size wr w') : PB w0 w' B v L := h.imp id fun h => h.later hb
theorem PB.lk {w0 wr : World} {B : Nat} {v : Value} {L : List Nd} (h : PB w0 wr B v L) (hb : Below w0.heap.size w0 wr) : LK exprTy w0 wr (fun g => g < w0.heap.size ∨ B ≤ g) v L := by
  rcases h with ⟨_, _, _, h⟩ | h
  · exact h.keep hb.size (fun g hg _ => hb.block g hg) fun g hg _ => .inl hg
  · exact h.lk fun g hg _ => .inr hg
theorem appO {ops : Array Oper} {rest : List Oper} {o : Oper} {a : Act} {Q : Exit → Act → World → Prop}
    (hgd : o.guard = none) (s x : Operand) (ho : o.op = .call { callee := .builtin .append, args := #[s, x], argTypes := #[36, 36] })
    (w0 : World) (B B' : Nat) (v vx : Value) (L Lx : List Nd) (W : World) (hs : a.eval s = v) (hx : a.eval x = vx)
    (hown : OutE w0 W B v L) (hr : OutE w0 W B' vx Lx) (hl : L.length + Lx.length ≤ 4000000) (hB : B ≤ W.heap.size)
    (h : ∀ (v' : Value) (w' : World), OutE w0 w' B v' (L ++ Lx) → Below B W w' → wpList Try.prog ops Q rest (a.put o.dst v') w') :
    wpList Try.prog ops Q (o :: rest) a W := by
  obtain ⟨i, hi, hz, hsize, hby⟩ := info_parts Try.infoEx
  obtain ⟨C, hC, hP⟩ := hown
  obtain ⟨C', hC', hP'⟩ := hr
  rcases hC'.2 with ⟨e, h0⟩ | ⟨g, cap, cur, e, hg, hrow, hnc, hcm, hsz, hcur⟩
  · have hLx : Lx = [] := List.eq_nil_of_length_eq_zero h0
    subst hLx
    rw [List.append_nil] at h
    exact wpList_append_own_none hgd s x 36 ho B 56 i 10 Try.underlying36 hi v L.length C hs hC (hx.trans e) (h v W ⟨C, hC, hP⟩ (Below.refl B W))
  · subst e
    refine wpList_append_own _ hgd s x 36 ho B 56 i _ 10 136 Try.underlying36 hi hz hsize hby rfl (by decide) v L.length C hs hC ⟨g, 0, none⟩ Lx.length cap C' hx hP'.1 (fun j u hj => hC'.cells rfl j u hj) hP'.ones (by unfold maxLen; omega) (by omega) hB ?_
    intro v' w' hown' hgrow _
    have hb : Below B W w' := (Below.refl B W).grown hgrow hB (fun q hq => (World.ownsRow.lt hC q hq).1)
    exact h v' w' ⟨C ++ C', by rw [List.length_append]; exact hown', hP.append hP'⟩ hb
set_option maxRecDepth 100000 in
theorem appF {ops : Array Oper} {rest : List Oper} {o : Oper} {a : Act} {Q : Exit → Act → World → Prop}
    (hgd : o.guard = none) (s x : Operand) (ho : o.op = .call { callee := .builtin .append, args := #[s, x], argTypes := #[36, 36] })
    (w0 : World) (B B' : Nat) (v vx : Value) (L Lx : List Nd) (W : World) (hs : a.eval s = v) (hx : a.eval x = vx) (hb0 : Below w0.heap.size w0 W)
    (hown : PB w0 W B v L) (hr : OutE w0 W B' vx Lx) (hl : L.length + Lx.length ≤ 4000000) (hB : B ≤ W.heap.size)
    (h : ∀ (v' : Value) (w' : World), PB w0 w' B v' (L ++ Lx) → Below B W w' → wpList Try.prog ops Q rest (a.put o.dst v') w') :
    wpList Try.prog ops Q (o :: rest) a W := by
  rcases hown with ⟨b, n, rfl, hlk⟩ | hown
  · obtain ⟨i, hi, hz, hsize, hby⟩ := info_parts Try.infoEx
    have hlk2 := hlk
    obtain ⟨a', cap', C, e, hC, hcell⟩ := hlk
    injection e with e1 e2 e3
    subst e1; subst e2; subst e3
    obtain ⟨C', hC', hP'⟩ := hr
    by_cases h0 : Lx.length = 0
    · have hLx : Lx = [] := List.eq_nil_of_length_eq_zero h0
      subst hLx
      rw [List.append_nil] at h
      refine wpList_plain hgd fun K hK => ?_
      obtain ⟨ax, cx, hvx⟩ : ∃ ax cx, vx = .slice ax 0 cx := by
        rcases hC'.2 with ⟨e, _⟩ | ⟨g, cap, cur, e, _⟩
        · exact ⟨none, 0, e⟩
        · exact ⟨_, cap, e⟩
      have hrun := run_append_zero (P := Try.prog) (w := W) (ty := o.type) Try.underlying36 hi b L.length cx ax
      unfold Oper.wp execOp
      simp only [ho, resolve, invoke, builtin, Sem.run_bind, Sem.run_pure, Result.andThen_ok, List.map_toArray, List.map_cons, List.map_nil, hs, hx, hvx, hrun]
      exact hK _ _ (h _ _ (.inl ⟨b, L.length, rfl, hlk2⟩) (Below.refl _ _))
    · rcases hC'.2 with ⟨e, h0'⟩ | ⟨g, cap, cur, e, hg, hrow, hnc, hcm, hsz, hcur⟩
      · exact absurd h0' h0
      · subst e
        have holds : ∀ j u, C[j]? = some u → W.cell? (b.add j) = some u := by
          intro j u hj
          rcases hcell with rfl | ⟨g', o', e, _, hg', _, hc⟩
          · have h1 := hC.1
            rw [List.length_nil, Nat.zero_mul] at h1
            have := (List.getElem?_eq_some_iff.1 hj).1
            omega
          · injection e with e
            subst e
            have hadd : (⟨g', o', none⟩ : Addr).add j = ⟨g', o' + j, none⟩ := by unfold Addr.add; split <;> simp_all
            rw [hadd]
            exact (hb0.cell (p := ⟨g', o' + j, none⟩) hg').trans (hc j u hj)
        have hCl : C.length = L.length * i.size := by rw [hsize]; exact hC.1
        have hCl' : C'.length = Lx.length * i.size := by rw [hsize]; exact hP'.1
        have hrun := run_append_grow (P := Try.prog) W 36 o.type 56 i _ Try.underlying36 hi hz b L.length L.length C hCl holds ⟨g, 0, none⟩ Lx.length cap C' hCl' (fun j u hj => hC'.cells rfl j u hj) (by omega) (by omega) (growslice_fits (by omega) (by rw [hby]; omega))
        refine wpList_plain hgd fun K hK => ?_
        unfold Oper.wp execOp
        simp only [ho, resolve, invoke, builtin, Sem.run_bind, Sem.run_pure, Result.andThen_ok, List.map_toArray, List.map_cons, List.map_nil, hs, hx, hrun]
        refine hK _ _ (h _ _ (.inr ⟨C ++ C', ⟨?_, .inr ⟨W.heap.size, _, _, by rw [List.length_append], hB, heap_alloc_new W.drew _, ?_, ?_, ?_, ?_⟩⟩, OutP.append hC hP'⟩) ?_)
        · rw [List.length_append, List.length_append, Nat.add_mul, hCl, hCl', hsize]
        · rw [List.length_append]; exact grownCap_ge _ _ _ _
        · exact grownCap_le_maxLen _ _ _ _ (by unfold maxLen; omega)
        · simp only [Array.size_append, List.size_toArray, size_zeroCells]
          rw [hCl, hCl', hsize]
          have hge := grownCap_ge W (L.length + Lx.length) L.length 56
          generalize grownCap W (L.length + Lx.length) L.length 56 = N at hge ⊢
          show L.length * 10 + Lx.length * 10 + (N - (L.length + Lx.length)) * 10 = N * 10
          omega
        · have : (C ++ C').length = (L ++ Lx).length * 10 := by rw [List.length_append, List.length_append, Nat.add_mul, hCl, hCl', hsize]
          rw [← this]
          simp only [Array.toList_append, List.append_assoc]
          rw [← List.append_assoc]
          exact List.take_left
        · exact (((Below.refl B W).drew).alloc hB _)
  · exact appO hgd s x ho w0 B B' v vx L Lx W hs hx hown hr hl hB fun v' w' h1 h2 => h v' w' (.inr h1) h2
/-- what is told of the nodes below, by the bounds of the tree -/
theorem preA_flat : ∀ l : List (List (Nat × Nd)), preA.of l = l.flatten
  | [] => rfl
  | a :: l => by rw [preA_good.of_cons, preA_flat l]; rfl
theorem pre_bd : ∀ (d : Dat) (ty : Ty), Fits d ty → ∀ p ∈ fold preA d ty, msr (p.2 8) ≤ msr d ∧ msr (p.2 9) ≤ msr d ∧ Fits (p.2 8) .exprs ∧ Fits (p.2 9) .queries
  | .v _, ty, hf => by cases ty <;> first | exact hf.elim | (intro p hp; exact absurd hp (by simp [fold, preA]))
  | .sl n k f, ty, hf => by
    obtain ⟨hd, _, hk, hfit⟩ := hf
    have IH : ∀ i j ty, Fits (f i j) ty → ∀ p ∈ fold preA (f i j) ty, msr (p.2 8) ≤ msr (f i j) ∧ msr (p.2 9) ≤ msr (f i j) ∧ Fits (p.2 8) .exprs ∧ Fits (p.2 9) .queries := fun i j ty h => pre_bd (f i j) ty h
    have sub : ∀ i j ty, i < n → j < k → Fits (f i j) ty → ∀ p ∈ fold preA (f i j) ty, msr (p.2 8) ≤ msr (.sl n k f) ∧ msr (p.2 9) ≤ msr (.sl n k f) ∧ Fits (p.2 8) .exprs ∧ Fits (p.2 9) .queries := fun i j ty hi hj h p hp => by
      obtain ⟨h1, h2, h3, h4⟩ := IH i j ty h p hp
      have := msr_el (n := n) (k := k) (f := f) hi hj
      exact ⟨by omega, by omega, h3, h4⟩
    have nodeE : ∀ (c : Nd) i a b, i < n → a < k → b < k → c 8 = f i a → c 9 = f i b → Fits (f i a) .exprs → Fits (f i b) .queries → ∀ p ∈ preA.node c (preA.up (fold preA (f i a) .exprs) (fold preA (f i b) .queries)), msr (p.2 8) ≤ msr (.sl n k f) ∧ msr (p.2 9) ≤ msr (.sl n k f) ∧ Fits (p.2 8) .exprs ∧ Fits (p.2 9) .queries := by
      intro c i a b hi ha hb e8 e9 f8 f9 p hp
      simp only [preA, List.mem_cons, List.mem_map, List.mem_append] at hp
      rcases hp with rfl | ⟨p', hp', rfl⟩
      · show msr (c 8) ≤ _ ∧ msr (c 9) ≤ _ ∧ Fits (c 8) _ ∧ Fits (c 9) _
        rw [e8, e9]
        exact ⟨msr_el hi ha, msr_el hi hb, f8, f9⟩
      · rcases hp' with h | h
        · exact sub i a .exprs hi ha f8 p' h
        · exact sub i b .queries hi hb f9 p' h
    cases ty
    case int => cases hd
    case bool => cases hd
    case str => cases hd
    case names => intro p hp; exact absurd hp (by simp [fold, preA])
    all_goals
      obtain rfl := hk
      intro p hp
      rw [fold, preA_flat, List.mem_flatten] at hp
      obtain ⟨l, hl, hp⟩ := hp
      rw [List.mem_map] at hl
      obtain ⟨i, hi, rfl⟩ := hl
      rw [List.mem_range] at hi
    case exprs => exact nodeE (f i) i 8 9 hi (by decide) (by decide) rfl rfl (hfit i hi 8 (by decide)) (hfit i hi 9 (by decide)) p hp
    case items =>
      by_cases ht : (f i 0).tru
      · rw [if_pos ht] at hp; exact absurd hp (by simp [preA])
      · rw [if_neg ht] at hp
        exact nodeE (cut 2 (f i)) i 10 11 hi (by decide) (by decide) rfl rfl (hfit i hi 10 (by decide)) (hfit i hi 11 (by decide)) p hp
    case rows => exact sub i 0 .exprs hi (by decide) (hfit i hi 0 (by decide)) p hp
    case sources => exact sub i 2 .exprs hi (by decide) (hfit i hi 2 (by decide)) p hp
    case keys => exact nodeE (f i) i 8 9 hi (by decide) (by decide) rfl rfl (hfit i hi 8 (by decide)) (hfit i hi 9 (by decide)) p hp
    case queries =>
      simp only [preA, List.mem_append] at hp
      rcases hp with ((h | h) | h) | h
      · exact sub i 1 .items hi (by decide) (hfit i hi 1 (by decide)) p h
      · exact sub i 2 .sources hi (by decide) (hfit i hi 2 (by decide)) p h
      · exact sub i 3 .exprs hi (by decide) (hfit i hi 3 (by decide)) p h
      · exact sub i 4 .keys hi (by decide) (hfit i hi 4 (by decide)) p h
/-- bounds of a node -/
structure Bd (c : Nd) : Prop where
  m8 : msr (c 8) ≤ 1048576
  m9 : msr (c 9) ≤ 1048576
  f8 : Fits (c 8) .exprs
  f9 : Fits (c 9) .queries
theorem Bd.pre {c : Nd} (h : Bd c) (d : Nat) : ∀ p ∈ pre d c, Bd p.2 := by
  intro p hp
  unfold Go.Proofs.Ytfmgkinindkedaa.pre at hp
  rw [List.mem_map] at hp
  obtain ⟨p', hp', rfl⟩ := hp
  show Bd p'.2
  unfold foldE at hp'
  simp only [preA, List.mem_cons, List.mem_map, List.mem_append] at hp'
  rcases hp' with rfl | ⟨q, hq, rfl⟩
  · exact h
  · have h8 := h.m8
    have h9 := h.m9
    rcases hq with hq | hq
    · obtain ⟨a, b, c, d⟩ := pre_bd _ _ h.f8 q hq
      exact ⟨by show msr (q.2 8) ≤ _; omega, by show msr (q.2 9) ≤ _; omega, c, d⟩
    · obtain ⟨a, b, c, d⟩ := pre_bd _ _ h.f9 q hq
      exact ⟨by show msr (q.2 8) ≤ _; omega, by show msr (q.2 9) ≤ _; omega, c, d⟩
end Go.Proofs.Ytfmgkinindkedaa

/- slices.Grow and slices.Concat at lists of expressions, as this program calls them. -/
namespace Go.Proofs.Ytfmgkinindkedaa
open Go.RowKit
set_option linter.unusedVariables false

set_option maxRecDepth 100000 in
set_option maxHeartbeats 4000000 in
/-- room for n expressions, and none yet -/
theorem grow_any (w0 W : World) (n : Nat) (hn : n ≤ 4000000) :
    Calls Try.prog 171 #[.slice none 0 0, .int .i64 (n : Int)] W fun e w' => ∃ v, e = .returned v ∧ OutE w0 w' W.heap.size v [] ∧ Below W.heap.size W w' := by
  have d0 : decide ((n : Int) < 0) = false := by simp
  by_cases h0 : n = 0
  · subst h0
    go_enter Try.func171, Try.ntmps171
    go_wp2_with fail
    go_ret
    exact ⟨_, rfl, ⟨[], World.ownsRow_nil _ _ _ _, OutP.nil w0⟩, Below.refl _ _⟩
  · have h1 : (0 : Int) < (n : Int) := by omega
    obtain ⟨i, hi, hz, hsize, hby⟩ := info_parts Try.infoEx
    have hrun := Lib.run_append_nil_zeros (P := Try.prog) W 36 3 36 56 i _ .i64 .i64 Try.underlying36 Try.underlying3 hi hz n (by omega) (by rw [hsize]; decide) (by omega) (by rw [hby]; omega)
    have hge := grownCap_ge W n 0 56
    have hle := grownCap_le_maxLen W n 0 56 (by unfold maxLen; omega)
    generalize hcap : grownCap W n 0 56 = cap at hrun hge hle
    clear hcap
    have hrow := heap_alloc_new W.drew (.cells (Builtin.zeroCells (Value.agg #[.int .i64 0, .int .i64 0, .bool false, .int .i64 0, .int .i64 0, .string ByteArray.empty, .string ByteArray.empty, .string ByteArray.empty, .slice none 0 0, .slice none 0 0]).cells n ++ Builtin.zeroCells (Value.agg #[.int .i64 0, .int .i64 0, .bool false, .int .i64 0, .int .i64 0, .string ByteArray.empty, .string ByteArray.empty, .string ByteArray.empty, .slice none 0 0, .slice none 0 0]).cells (cap - n)) 56)
    have hbe : Below W.heap.size W (W.drew.alloc (.cells (Builtin.zeroCells (Value.agg #[.int .i64 0, .int .i64 0, .bool false, .int .i64 0, .int .i64 0, .string ByteArray.empty, .string ByteArray.empty, .string ByteArray.empty, .slice none 0 0, .slice none 0 0]).cells n ++ Builtin.zeroCells (Value.agg #[.int .i64 0, .int .i64 0, .bool false, .int .i64 0, .int .i64 0, .string ByteArray.empty, .string ByteArray.empty, .string ByteArray.empty, .slice none 0 0, .slice none 0 0]).cells (cap - n)) 56)) := (Below.refl _ _).drew.alloc (by simp) _
    have hsz : (Builtin.zeroCells (Value.agg #[.int .i64 0, .int .i64 0, .bool false, .int .i64 0, .int .i64 0, .string ByteArray.empty, .string ByteArray.empty, .string ByteArray.empty, .slice none 0 0, .slice none 0 0]).cells n ++ Builtin.zeroCells (Value.agg #[.int .i64 0, .int .i64 0, .bool false, .int .i64 0, .int .i64 0, .string ByteArray.empty, .string ByteArray.empty, .string ByteArray.empty, .slice none 0 0, .slice none 0 0]).cells (cap - n)).size = cap * 10 := by
      rw [Array.size_append, size_zeroCells, size_zeroCells]
      show n * 10 + (cap - n) * 10 = _
      omega
    generalize (Builtin.zeroCells (Value.agg #[.int .i64 0, .int .i64 0, .bool false, .int .i64 0, .int .i64 0, .string ByteArray.empty, .string ByteArray.empty, .string ByteArray.empty, .slice none 0 0, .slice none 0 0]).cells n ++ Builtin.zeroCells (Value.agg #[.int .i64 0, .int .i64 0, .bool false, .int .i64 0, .int .i64 0, .string ByteArray.empty, .string ByteArray.empty, .string ByteArray.empty, .slice none 0 0, .slice none 0 0]).cells (cap - n)) = zs at *
    generalize hw2 : W.drew.alloc (.cells zs 56) = w2 at *
    have hgl : W.drew.heap.size = W.heap.size := rfl
    rw [hgl] at hrow
    have hout : OutE w0 w2 W.heap.size (.slice (some ⟨W.heap.size, 0, none⟩) 0 cap) [] := ⟨[], ⟨rfl, .inr ⟨W.heap.size, cap, zs, rfl, Nat.le_refl _, hrow, Nat.zero_le _, hle, hsz, by simp⟩⟩, OutP.nil w0⟩
    have hc2 : (n : Int) ≤ (cap : Int) := by omega
    have hc3 : (cap : Int) ≤ 9223372036854775807 := by unfold maxLen at hle; omega
    go_enter Try.func171, Try.ntmps171
    go_wp2_with (at_builtin; refine Lib.wpList_append_run _ rfl _ _ _ _ rfl _ _ rfl rfl _ _ hrun ?_)
    go_ret
    exact ⟨_, rfl, hout, hbe⟩
/-- a list that may be appended: as it came in, or one of the call's own -/
def SrcE (w0 W : World) (x : Value) (L : List Nd) : Prop := (∃ n f, Rd w0 0 x (.sl n 10 f) ∧ Fits (.sl n 10 f) .exprs ∧ L = (Dat.sl n 10 f).els ∧ Below w0.heap.size w0 W) ∨ ∃ B, OutE w0 W B x L
theorem SrcE.slice {w0 W : World} {x : Value} {L : List Nd} (h : SrcE w0 W x L) : ∃ a cap, x = .slice a L.length cap := by
  rcases h with ⟨n, f, hr, hf, rfl, _⟩ | ⟨B, h⟩
  · obtain ⟨a, cap, e⟩ := hr.slice
    exact ⟨a, cap, by rw [e, els_len]⟩
  · exact h.slice
theorem SrcE.later {w0 W W' : World} {x : Value} {L : List Nd} (h : SrcE w0 W x L) (hb : Below W.heap.size W W') : SrcE w0 W' x L := by
  rcases h with ⟨n, f, hr, hf, e, hb0⟩ | ⟨B, h⟩
  · exact .inl ⟨n, f, hr, hf, e, hb0.trans (hb.mono hb0.size)⟩
  · exact .inr ⟨B, h.later hb⟩
theorem appS_ {ops : Array Oper} {rest : List Oper} {o : Oper} {a : Act} {Q : Exit → Act → World → Prop}
    (hgd : o.guard = none) (s x : Operand) (ho : o.op = .call { callee := .builtin .append, args := #[s, x], argTypes := #[36, 36] })
    (w0 : World) (B : Nat) (v vx : Value) (L Lx : List Nd) (W : World) (hs : a.eval s = v) (hx : a.eval x = vx)
    (hown : OutE w0 W B v L) (hr : SrcE w0 W vx Lx) (hl : L.length + Lx.length ≤ 2000000) (hB : B ≤ W.heap.size)
    (h : ∀ (v' : Value) (w' : World), OutE w0 w' B v' (L ++ Lx) → Below B W w' → wpList Try.prog ops Q rest (a.put o.dst v') w') :
    wpList Try.prog ops Q (o :: rest) a W := by
  rcases hr with ⟨n, f, hr, hf, rfl, hb0⟩ | ⟨B', hr⟩
  · rw [els_len] at hl
    obtain ⟨ax, cap, e⟩ := hr.slice
    rw [e] at hx hr
    exact appM hgd s x ho w0 B v L ax n cap n 10 f W hs hx hown hr hf hb0 (by omega) (by omega) hB h
  · exact appO hgd s x ho w0 B B' v vx L Lx W hs hx hown hr (by omega) hB h
/-- the values xs in the slice v -/
def ValsE (W : World) (v : Value) (xs : List Value) : Prop := ∃ a cap, v = .slice a xs.length cap ∧ (xs = [] ∨ ∃ g o, a = some ⟨g, o, none⟩ ∧ g < W.heap.size ∧ ∀ (i : Nat) (x : Value), xs[i]? = some x → W.cell? ⟨g, o + i, none⟩ = some x)
theorem flat_take {Ls : List (List Nd)} {j : Nat} {L : List Nd} (h : Ls[j]? = some L) : (Ls.take (j + 1)).flatten = (Ls.take j).flatten ++ L := by
  rw [take_next h, List.flatten_append]; simp
theorem flat_take_le (Ls : List (List Nd)) (j : Nat) : (Ls.take j).flatten.length ≤ Ls.flatten.length := by
  have h : Ls.flatten = (Ls.take j).flatten ++ (Ls.drop j).flatten := by rw [← List.flatten_append, List.take_append_drop]
  rw [h, List.length_append]; omega
set_option maxRecDepth 100000 in
set_option maxHeartbeats 4000000 in
theorem concat_any (w0 W : World) (v : Value) (xs : List Value) (Ls : List (List Nd)) (hv : ValsE W v xs) (hl : xs.length = Ls.length) (hx : ∀ (i : Nat) (x : Value) (L : List Nd), xs[i]? = some x → Ls[i]? = some L → SrcE w0 W x L)
    (hN : Ls.flatten.length ≤ 2000000) (hM : xs.length ≤ 1048576) :
    Calls Try.prog 137 #[v] W fun e w' => ∃ v, e = .returned v ∧ OutE w0 w' W.heap.size v Ls.flatten ∧ Below W.heap.size W w' := by
  obtain ⟨a, cap, rfl, hc⟩ := hv
  have hLs := Lib.hid hl
  clear hl
  go_enter Try.func137, Try.ntmps137
  go_wp2_with fail
  go_loopw [3, 11] (fun sz i wr => ∃ (j S : Nat), j ≤ xs.length ∧ i = .int .i64 (j : Int) ∧ sz = .int .i64 (S : Int) ∧ Hid (S = (Ls.take j).flatten.length) ∧ S ≤ 2000000 ∧ W = wr) (fun _ i _ => xs.length - (intOf i).toNat)
  case atStart => exact ⟨0, 0, Nat.zero_le _, rfl, rfl, rfl, Nat.zero_le _, rfl⟩
  case round =>
    obtain ⟨j, S, hj, rfl, rfl, HS, hS, rfl⟩ := hrel
    by_cases hlt : j < xs.length
    · have hlt2 : (j : Int) < (xs.length : Int) := by omega
      have hltL : j < Ls.length := by have := HS; have := hLs.out; omega
      rcases hc with hc | ⟨g, o, rfl, hg, hcell⟩
      · rw [hc] at hlt; exact absurd hlt (Nat.not_lt_zero _)
      have hz := hcell j xs[j] (List.getElem?_eq_getElem hlt)
      obtain ⟨ax, cx, ex⟩ := (hx j xs[j] Ls[j] (List.getElem?_eq_getElem hlt) (List.getElem?_eq_getElem hltL)).slice
      rw [ex] at hz
      have HS2 : Hid (S + Ls[j].length = (Ls.take (j + 1)).flatten.length) := by
        show _ = _
        rw [flat_take (List.getElem?_eq_getElem hltL), List.length_append, HS.out]
      have hS2 : S + Ls[j].length ≤ 2000000 := by
        rw [HS2.out]
        exact Nat.le_trans (flat_take_le Ls (j + 1)) hN
      generalize Ls[j].length = q at hz HS2 hS2
      clear hcell hx
      have hd : decide ((S : Int) + (q : Int) < 0) = false := by simp; omega
      clear HS ex
      go_wp2_with fail
      go_roundw
      case rel => exact ⟨j + 1, S + q, by omega, by go_num, by go_num, HS2, hS2, by first | rfl | trivial⟩
      case measure => simp [intOf]; omega
    · obtain rfl : xs.length = j := by omega
      have hSS : S ≤ 4000000 := by omega
      have hG := grow_any w0 W S hSS
      clear hlt hj
      go_wp2_with fail
      refine hG.mono ?_
      rintro e w2 ⟨v0, rfl, ho0, hb0⟩
      clear hG HS
      obtain ⟨vv, hvv⟩ : ∃ vv, vv = v0 := ⟨_, rfl⟩
      rw [← hvv] at ho0 ⊢
      clear hvv
      go_wp2_with fail
      go_loopw [6, 27] (fun out i wr => ∃ (j : Nat) (vo : Value), j ≤ xs.length ∧ i = .int .i64 (j : Int) ∧ vo = out ∧ OutE w0 wr W.heap.size vo (Ls.take j).flatten ∧ Below W.heap.size W wr) (fun _ i _ => xs.length - (intOf i).toNat)
      case atStart => exact ⟨0, vv, Nat.zero_le _, rfl, rfl, ho0, hb0⟩
      case round =>
        obtain ⟨j, vo, hj, rfl, rfl, ho, hb⟩ := hrel
        by_cases hlt : j < xs.length
        · have hlt2 : (j : Int) < (xs.length : Int) := by omega
          have hltL : j < Ls.length := by have := hLs.out; omega
          rcases hc with hc | ⟨g, o, rfl, hg, hcell⟩
          · rw [hc] at hlt; exact absurd hlt (Nat.not_lt_zero _)
          have hz := (hb.cell (p := ⟨g, o + j, none⟩) hg).trans (hcell j xs[j] (List.getElem?_eq_getElem hlt))
          have hsrc := (hx j xs[j] Ls[j] (List.getElem?_eq_getElem hlt) (List.getElem?_eq_getElem hltL)).later hb
          have hfl := flat_take (List.getElem?_eq_getElem hltL)
          have hle := flat_take_le Ls (j + 1)
          have HF := Lib.hid hfl
          have hlen : (Ls.take j).flatten.length + Ls[j].length ≤ 2000000 := by rw [hfl, List.length_append] at hle; omega
          obtain ⟨ax, cx, ex⟩ := hsrc.slice
          rw [ex] at hz hsrc
          have hsrc2 := hsrc
          have HO := Lib.hid ho
          clear hfl hle ex hsrc ho hcell hx
          go_wp2_with (at_builtin; refine appS_ rfl (.tmp 31) (.tmp 32) rfl w0 W.heap.size vo _ _ _ wr rfl rfl HO.out hsrc2 hlen hb.size ?_; intro v' w' hout hbb)
          have hb2 := hb.trans (hbb.mono (Nat.le_refl _))
          rw [← HF.out] at hout
          go_roundw
          case rel => exact ⟨j + 1, v', by omega, by go_num, rfl, hout, hb2⟩
          case measure => simp [intOf]; omega
        · obtain rfl : xs.length = j := by omega
          have hfin : OutE w0 wr W.heap.size vo Ls.flatten := by
            have := ho
            rw [hLs.out, List.take_length] at this
            exact this
          clear ho hlt hj
          go_wp2_with fail
          go_ret
          exact ⟨_, rfl, hfin, hb⟩
end Go.Proofs.Ytfmgkinindkedaa

/- The program's below: what lies directly below an expression. -/
namespace Go.Proofs.Ytfmgkinindkedaa
open Go.RowKit

theorem Rd.openS {w : World} {x : Option Addr} {n p : Nat} {d : Dat} {ty : Ty} (r : Rd w 0 (.slice x n p) d) (q : Fits d ty) (hd : deep ty = true) :
    ∃ f, d = .sl n (rowTy ty).length f ∧ Rd w 0 (.slice x n p) (.sl n (rowTy ty).length f) ∧ Fits (.sl n (rowTy ty).length f) ty := by
  obtain ⟨n', k, f, rfl⟩ := q.deep hd
  have hk : k = _ := q.2.2.1
  subst hk
  have h2 : n = n' := by obtain ⟨_, _, e, _⟩ := r; injection e
  subst h2
  exact ⟨f, rfl, r, q⟩
theorem clip_any (a : Option Addr) (n cap : Nat) (hn : n ≤ cap) (h63 : n ≤ 1048576) (ha : n = 0 ∨ ∃ g o, a = some ⟨g, o, none⟩) (W : World) :
    Calls Try.prog 177 #[.slice a n cap] W fun e w' => e = .returned (.slice a n n) ∧ w' = W := by
  rcases Nat.eq_zero_or_pos n with rfl | hp
  · go_enter Try.func177, Try.ntmps177
    go_wp2_with fail
    go_ret
    exact ⟨rfl, rfl⟩
  · obtain ⟨g, o, rfl⟩ : ∃ g o, a = some ⟨g, o, none⟩ := ha.resolve_left (by omega)
    have h1 : ¬ n = 0 := by omega
    have h2 : (n : Int) ≤ (cap : Int) := by omega
    go_enter Try.func177, Try.ntmps177
    go_wp2_with fail
    go_ret
    exact ⟨rfl, rfl⟩
theorem row_msr {n i : Nat} {f : Nat → Nat → Dat} (hi : i < n) : msr (f i 1) + msr (f i 2) + msr (f i 3) + msr (f i 4) ≤ msr (.sl n 6 f) := by
  rw [msr_is]
  have h1 := partm_le f 6 (show i + 1 ≤ n by omega)
  rw [partm_succ] at h1
  have hs : rowm f 6 i = ((List.range 6).map fun j => msr (f i j)).sum := rfl
  simp only [List.range_succ, List.range_zero, List.nil_append, List.cons_append, List.map_cons, List.map_nil, List.sum_cons, List.sum_nil] at hs
  omega
theorem exFrom_msr {n : Nat} {f : Nat → Nat → Dat} (q : Fits (.sl n 3 f) .sources) : (exFrom (.sl n 3 f)).length ≤ msr (.sl n 3 f) := by
  have key : ∀ m, m ≤ n → (exFrom (.sl m 3 f)).length ≤ partm f 3 m := fun m => by
    induction m with
    | zero => intro _; exact Nat.zero_le _
    | succ m ih =>
      intro hm
      have h1 := ih (by omega)
      rw [exFrom_succ, List.length_append, partm_succ]
      have h2 : (f m 2).els.length ≤ msr (f m 2) := by
        have h3 : Fits (f m 2) .exprs := q.2.2.2 m (by omega) 2 (by decide)
        cases h4 : f m 2 with
        | v x => rw [h4] at h3; exact h3.elim
        | sl a b c => rw [els_len]; exact msr_n _ _ _
      have hs : rowm f 3 m = ((List.range 3).map fun j => msr (f m j)).sum := rfl
      simp only [List.range_succ, List.range_zero, List.nil_append, List.cons_append, List.map_cons, List.map_nil, List.sum_cons, List.sum_nil] at hs
      omega
  rw [msr_is]
  have := key n (Nat.le_refl _)
  omega
/-- every expression of a query, those of its stars too -/
def slotsOf (q : Nd) : List Nd := ((((q 1).els.map (cut 2)) ++ exFrom (q 2)) ++ (q 3).els) ++ (q 4).els
theorem els_msr {d : Dat} : d.els.length ≤ msr d := by
  cases d with
  | v x => exact Nat.zero_le _
  | sl n k f => rw [els_len]; exact msr_n _ _ _
theorem slotsOf_msr {n i : Nat} {f : Nat → Nat → Dat} (q : Fits (.sl n 6 f) .queries) (hi : i < n) : (slotsOf (f i)).length ≤ rowm f 6 i := by
  have h2 : (exFrom (f i 2)).length ≤ msr (f i 2) := by
    have h3 : Fits (f i 2) .sources := q.2.2.2 i hi 2 (by decide)
    cases h4 : f i 2 with
    | v x => rw [h4] at h3; exact h3.elim
    | sl a b c =>
      rw [h4] at h3
      have hb : b = 3 := h3.2.2.1
      subst hb
      exact exFrom_msr h3
  unfold slotsOf
  have k1 := els_msr (d := f i 1)
  have k3 := els_msr (d := f i 3)
  have k4 := els_msr (d := f i 4)
  have hs : rowm f 6 i = ((List.range 6).map fun j => msr (f i j)).sum := rfl
  simp only [List.range_succ, List.range_zero, List.nil_append, List.cons_append, List.map_cons, List.map_nil, List.sum_cons, List.sum_nil] at hs
  simp only [List.length_append, List.length_map]
  omega
theorem exprsOf_le (q : Nd) : (exprsOf q).length ≤ (slotsOf q).length := by
  unfold exprsOf slotsOf exItems
  simp only [List.length_append, List.length_map]
  have := List.length_filter_le (fun c : Nat → Dat => !(c 0).tru) (q 1).els
  omega
theorem flat_slots_msr {n : Nat} {f : Nat → Nat → Dat} (q : Fits (.sl n 6 f) .queries) {j : Nat} (hj : j ≤ n) : ((Dat.sl j 6 f).els.flatMap slotsOf).length ≤ msr (.sl n 6 f) := by
  have key : ∀ m, m ≤ n → ((Dat.sl m 6 f).els.flatMap slotsOf).length ≤ partm f 6 m := fun m => by
    induction m with
    | zero => intro _; exact Nat.zero_le _
    | succ m ih =>
      intro hm
      have h1 := ih (by omega)
      have h2 := slotsOf_msr q (show m < n by omega)
      rw [els_succ, List.flatMap_append, List.length_append, show [f m].flatMap slotsOf = slotsOf (f m) from List.append_nil _, partm_succ]
      omega
  rw [msr_is]
  have h1 := key j hj
  have h2 := partm_le f 6 hj
  omega
theorem flat_exprs_msr {n : Nat} {f : Nat → Nat → Dat} (q : Fits (.sl n 6 f) .queries) {j : Nat} (hj : j ≤ n) : ((Dat.sl j 6 f).els.flatMap exprsOf).length ≤ msr (.sl n 6 f) := by
  have h1 := flat_slots_msr q hj
  have h2 : ∀ l : List Nd, (l.flatMap exprsOf).length ≤ (l.flatMap slotsOf).length := fun l => by
    induction l with
    | nil => exact Nat.le_refl _
    | cons a l ih =>
      have := exprsOf_le a
      rw [List.flatMap_cons, List.flatMap_cons, List.length_append, List.length_append]
      omega
  exact Nat.le_trans (h2 _) h1
/-- the list so far -/
structure BS (w0 W wr : World) (out : Value) (L : List Nd) : Prop where
  own : PB w0 wr (W.heap.size + 1) out L
  b : Below W.heap.size W wr
  b0 : Below w0.heap.size w0 wr
  sz : W.heap.size + 1 ≤ wr.heap.size
theorem BS.next {w0 W wr w' : World} {out : Value} {L : List Nd} (H : BS w0 W wr out L) (h : Below wr.heap.size wr w') : BS w0 W w' out L :=
  ⟨H.own.later h, H.b.trans (h.mono H.b.size), H.b0.trans (h.mono H.b0.size), Nat.le_trans H.sz h.size⟩
theorem BS.app {w0 W wr w' : World} {out out' : Value} {L L' : List Nd} (H : BS w0 W wr out L) (h : PB w0 w' (W.heap.size + 1) out' L') (hb : Below (W.heap.size + 1) wr w') (hz : w0.heap.size ≤ W.heap.size) : BS w0 W w' out' L' :=
  ⟨h, H.b.trans (hb.mono (Nat.le_succ _)), H.b0.trans (hb.mono (Nat.le_succ_of_le hz)), Nat.le_trans H.sz hb.size⟩
set_option maxRecDepth 100000 in
set_option maxHeartbeats 8000000 in
theorem below_exprs (w0 W : World) (c : Nd) (ys : List Value) (hys : OutK exprTy w0 ys [c]) (hb0 : Below w0.heap.size w0 W) (hc : Bd c) :
    Calls Try.prog 154 #[.agg ys.toArray, .func (.func 79) #[] #[]] W fun e w' => ∃ v, e = .returned v ∧ PB w0 w' (W.heap.size + 1) v ((c 8).els ++ (c 9).els.flatMap exprsOf) ∧ Below W.heap.size W w' := by
  obtain ⟨c0, c1, c2, c3, c4, c5, c6, c7, a8, n8, p8, a9, n9, p9, rfl, -, -, -, -, -, -, -, -, ⟨r8, q8⟩, ⟨r9, q9⟩⟩ := hys.ten
  obtain ⟨f8, e8, r8, q8⟩ := r8.openS q8 rfl
  obtain ⟨f9, e9, r9, q9⟩ := r9.openS q9 rfl
  have m8 := hc.m8
  have m9 := hc.m9
  rw [e8] at m8
  rw [e9] at m9
  rw [e8, e9]
  replace m8 : msr (.sl n8 10 f8) ≤ 1048576 := m8
  replace m9 : msr (.sl n9 6 f9) ≤ 1048576 := m9
  replace r8 : Rd w0 0 (.slice a8 n8 p8) (.sl n8 10 f8) := r8
  replace r9 : Rd w0 0 (.slice a9 n9 p9) (.sl n9 6 f9) := r9
  replace q8 : Fits (.sl n8 10 f8) .exprs := q8
  replace q9 : Fits (.sl n9 6 f9) .queries := q9
  show Calls _ _ _ _ fun e w' => ∃ v, e = .returned v ∧ PB w0 w' (W.heap.size + 1) v ((Dat.sl n8 10 f8).els ++ (Dat.sl n9 6 f9).els.flatMap exprsOf) ∧ Below W.heap.size W w'
  have hn9 : n9 ≤ 9223372036854775807 := q9.2.1
  have hn8 : n8 ≤ 1048576 := Nat.le_trans (msr_n _ _ _) m8
  clear hys hc e8 e9
  have hz := hb0.size
  have HB := BX.new W 56 #[.int .i64 c0, .int .i64 c1, .bool c2, .int .i64 c3, .int .i64 c4, .string c5, .string c6, .string c7, .slice a8 n8 p8, .slice a9 n9 p9]
  have hlk := r8.lk (G := fun g => g < w0.heap.size) q8 fun g h => h
  have hl8 : (Dat.sl n8 10 f8).els.length = n8 := els_len _ _ _
  have hPB : PB w0 (W.alloc (.cells #[.int .i64 c0, .int .i64 c1, .bool c2, .int .i64 c3, .int .i64 c4, .string c5, .string c6, .string c7, .slice a8 n8 p8, .slice a9 n9 p9] 56)) (W.heap.size + 1) (.slice a8 n8 n8) (Dat.sl n8 10 f8).els := by
    obtain ⟨ax, cx, C, e, hC, hcell⟩ := hlk
    injection e with e1 e2 e3
    subst e1; subst e3
    cases a8 with
    | none =>
      have h0 : (Dat.sl n8 10 f8).els = [] := by
        rcases hcell with h | ⟨_, _, h, _⟩
        · exact h
        · cases h
      have hn0 : n8 = 0 := by rw [← hl8, h0]; rfl
      subst hn0
      exact .inr ⟨[], World.ownsRow_nil _ _ _ _, OutP.nil w0⟩
    | some b => exact .inl ⟨b, n8, rfl, _, n8, C, by rw [hl8], hC, hcell.imp id fun ⟨g, o, e, h1, h2⟩ => ⟨g, o, e, by rw [hl8]; exact Nat.le_refl _, h2⟩⟩
  have hclip := clip_any a8 n8 p8 (by obtain ⟨_, _, e, h, _⟩ := r8; injection e with _ _ e3; omega) (by omega) (by obtain ⟨_, _, e, _, _, h⟩ := r8; injection e with e1 e2 e3; subst e1; exact h.imp id fun ⟨g, o, e, _⟩ => ⟨g, o, e⟩)
  go_enter Try.func154, Try.ntmps154
  have b8 := HB.box.cell (i := 8) (v := .slice a8 n8 p8) rfl
  have b9 := HB.box.cell (i := 9) (v := .slice a9 n9 p9) rfl
  go_wp2_with fail
  generalize W.alloc (.cells #[.int .i64 c0, .int .i64 c1, .bool c2, .int .i64 c3, .int .i64 c4, .string c5, .string c6, .string c7, .slice a8 n8 p8, .slice a9 n9 p9] 56) = w1 at HB hPB b8 b9 ⊢
  refine (hclip w1).mono ?_
  rintro e w2 ⟨rfl, rfl⟩
  clear hclip b8
  go_wp2_with fail
  clear b9
  have HS : BS w0 W w2 (.slice a8 n8 n8) ((Dat.sl n8 10 f8).els ++ (Dat.sl 0 6 f9).els.flatMap exprsOf) := ⟨by show PB _ _ _ _ (_ ++ []); rw [List.append_nil]; exact hPB, HB.b, hb0.trans (HB.b.mono hz), HB.box.lt⟩
  clear HB hPB hlk
  go_loopw [5, 14] (fun out i wr => ∃ (j : Nat) (v : Value), j ≤ n9 ∧ i = .int .i64 (j : Int) ∧ v = out ∧ BS w0 W wr v ((Dat.sl n8 10 f8).els ++ (Dat.sl j 6 f9).els.flatMap exprsOf)) (fun _ i _ => n9 - (intOf i).toNat)
  case atStart => exact ⟨0, _, by omega, rfl, rfl, HS⟩
  case round =>
    obtain ⟨j, v, hj, rfl, rfl, H⟩ := hrel
    by_cases hlt : j < n9
    · have hlt2 : (j : Int) < (n9 : Int) := by omega
      obtain ⟨g, o, rfl, -, hg, d0, x1, x2, x3, x4, d5, ⟨z0, z1, z2, z3, z4, z5⟩, ⟨e0, ⟨r1, q1⟩, ⟨r2, q2⟩, ⟨r3, q3⟩, ⟨r4, q4⟩, ⟨e5, _⟩⟩⟩ := row_queries r9 q9 hlt
      obtain ⟨a1, n1, t1, rfl⟩ := r1.slice_of q1 rfl
      obtain ⟨a2, n2, t2, rfl⟩ := r2.slice_of q2 rfl
      obtain ⟨a3, n3, t3, rfl⟩ := r3.slice_of q3 rfl
      obtain ⟨a4, n4, t4, rfl⟩ := r4.slice_of q4 rfl
      have hrow := row_msr (n := n9) (f := f9) hlt
      obtain ⟨h1, E1, r1, q1⟩ := r1.openS q1 rfl
      obtain ⟨h2, E2, r2, q2⟩ := r2.openS q2 rfl
      obtain ⟨h3, E3, r3, q3⟩ := r3.openS q3 rfl
      obtain ⟨h4, E4, r4, q4⟩ := r4.openS q4 rfl
      have hN : n1 + (exFrom (.sl n2 3 h2)).length + n3 + n4 ≤ 1048576 := by
        rw [E1, E2, E3, E4] at hrow
        have k1 := msr_n n1 13 h1
        have k2 := exFrom_msr q2
        have k3 := msr_n n3 10 h3
        have k4 := msr_n n4 11 h4
        simp only [rowTy, exprTy, List.length_cons, List.length_nil, List.length_append, Nat.zero_add, Nat.reduceAdd] at hrow
        omega
      have hex : exprsOf (f9 j) = ((exItems (.sl n1 13 h1) ++ exFrom (.sl n2 3 h2)) ++ (Dat.sl n3 10 h3).els) ++ (Dat.sl n4 11 h4).els := by
        unfold exprsOf
        rw [E1, E2, E3, E4]
        rfl
      have hlen : ((Dat.sl n8 10 f8).els ++ (Dat.sl j 6 f9).els.flatMap exprsOf).length + (exprsOf (f9 j)).length ≤ 4000000 := by
        have k1 := flat_exprs_msr q9 (show j + 1 ≤ n9 by omega)
        rw [els_succ, List.flatMap_append, List.length_append, show [f9 j].flatMap exprsOf = exprsOf (f9 j) from List.append_nil _] at k1
        rw [List.length_append, hl8]
        omega
      have hs : (Dat.sl n8 10 f8).els ++ (Dat.sl (j + 1) 6 f9).els.flatMap exprsOf = ((Dat.sl n8 10 f8).els ++ (Dat.sl j 6 f9).els.flatMap exprsOf) ++ exprsOf (f9 j) := by
        rw [els_succ, List.flatMap_append, show [f9 j].flatMap exprsOf = exprsOf (f9 j) from List.append_nil _, List.append_assoc]
      replace z0 := (H.b0.cell (p := ⟨g, o + j * 6, none⟩) hg).trans z0
      replace z1 := (H.b0.cell (p := ⟨g, o + j * 6 + 1, none⟩) hg).trans z1
      replace z2 := (H.b0.cell (p := ⟨g, o + j * 6 + 2, none⟩) hg).trans z2
      replace z3 := (H.b0.cell (p := ⟨g, o + j * 6 + 3, none⟩) hg).trans z3
      replace z4 := (H.b0.cell (p := ⟨g, o + j * 6 + 4, none⟩) hg).trans z4
      replace z5 := (H.b0.cell (p := ⟨g, o + j * 6 + 5, none⟩) hg).trans z5
      have hal : Below wr.heap.size wr (wr.alloc (.cells #[.bool d0, .slice a1 n1 t1, .slice a2 n2 t2, .slice a3 n3 t3, .slice a4 n4 t4, .int .i64 d5] 39)) := (Below.refl _ _).alloc (Nat.le_refl _) _
      have H1 := H.next hal
      have hcall := exprsIn_any w0 (wr.alloc (.cells #[.bool d0, .slice a1 n1 t1, .slice a2 n2 t2, .slice a3 n3 t3, .slice a4 n4 t4, .int .i64 d5] 39)) d0 a1 n1 t1 a2 n2 t2 a3 n3 t3 a4 n4 t4 d5 h1 h2 h3 h4 H1.b0 r1 q1 r2 q2 r3 q3 r4 q4 hN
      rw [← hex] at hcall
      have HSS := Lib.hid hs
      have HL := Lib.hid hlen
      clear hs hlen hex hrow E1 E2 E3 E4 e0 e5 r1 r2 r3 r4 q1 q2 q3 q4 hN
      go_wp2_with fail
      refine hcall.mono ?_
      clear hcall
      rintro e w3 ⟨v3, rfl, ho, hb3⟩
      have H3 := H1.next (hb3.mono (by simp))
      clear z0 z1 z2 z3 z4 z5 hal H1 hb3
      go_wp2_with (at_builtin; refine appF rfl (.tmp 18) (.tmp 21) rfl w0 (W.heap.size + 1) _ v v3 ((Dat.sl n8 10 f8).els ++ (Dat.sl j 6 f9).els.flatMap exprsOf) (exprsOf (f9 j)) w3 rfl rfl H3.b0 H3.own ho HL.out H3.sz ?_; intro v' w' hown' hb')
      have H4 := H3.app hown' hb' hz
      rw [← HSS.out] at H4
      go_roundw
      case rel => exact ⟨j + 1, _, by omega, by go_num, rfl, H4⟩
      case measure => simp [intOf]; omega
    · obtain rfl : n9 = j := by omega
      clear hlt hj
      go_wp2_with fail
      go_ret
      exact ⟨v, rfl, H.own, H.b⟩
end Go.Proofs.Ytfmgkinindkedaa

/- Two trees beside one another: what stands at the same places, and when they are the same. No program. -/
namespace Go.Proofs.Ytfmgkinindkedaa
open Go.RowKit

/-- two expressions as one element of twenty cells -/
def pairT (a b : Nd) : Nd := fun j => if j < 10 then a j else b (j - 10)
theorem pairT_a (a b : Nd) {j : Nat} (h : j < 10) : pairT a b j = a j := if_pos h
theorem pairT_b (a b : Nd) (j : Nat) : cut 10 (pairT a b) j = b j := by
  show (if 10 + j < 10 then _ else b (10 + j - 10)) = _
  rw [if_neg (by omega), show 10 + j - 10 = j by omega]
/-- what lies directly below an expression, the stars' expressions too -/
def slotParts (c : Nd) : List Nd := (c 8).els ++ (c 9).els.flatMap slotsOf
def partsT (t : Nd) : List Nd := List.zipWith pairT (slotParts t) (slotParts (cut 10 t))
/-- two leaves -/
def eqL (c c' : Nd) (j : Nat) (ty : Ty) : Bool := same (c j) (c' j) ty
def itemSame (c c' : Nd) : Bool := eqL c c' 0 .bool && (eqL c c' 1 .str && eqL c c' 12 .str)
def sourceSame (c c' : Nd) : Bool := eqL c c' 0 .str && (eqL c c' 1 .str && ((c 2).len == (c' 2).len))
def keySame (c c' : Nd) : Bool := eqL c c' 10 .bool
/-- all elements of two lists of one length, pair by pair -/
def allZ (p : Nd → Nd → Bool) (l r : List Nd) : Bool := (l.length == r.length) && (List.zipWith p l r).all id
/-- two queries, but for their expressions -/
def frameSame (q q' : Nd) : Bool :=
  eqL q q' 0 .bool && (eqL q q' 5 .int && (((q 3).len == (q' 3).len) && (allZ itemSame (q 1).els (q' 1).els && (allZ sourceSame (q 2).els (q' 2).els && allZ keySame (q 4).els (q' 4).els))))
def headSame (c c' : Nd) : Bool :=
  eqL c c' 0 .int && (eqL c c' 1 .int && (eqL c c' 2 .bool && (eqL c c' 3 .int && (eqL c c' 4 .int && (eqL c c' 5 .str && (eqL c c' 6 .str && eqL c c' 7 .str))))))
def aloneD (t : Nd) : Bool := headSame t (cut 10 t) && (((t 8).len == (t 18).len) && allZ frameSame (t 9).els (t 19).els)
theorem allZ_nil (p : Nd → Nd → Bool) : allZ p [] [] = true := rfl
theorem allZ_cons (p : Nd → Nd → Bool) (a b : Nd) (l r : List Nd) : allZ p (a :: l) (b :: r) = (p a b && allZ p l r) := by
  unfold allZ
  simp only [List.length_cons, List.zipWith_cons_cons, List.all_cons, id]
  have : (l.length + 1 == r.length + 1) = (l.length == r.length) := by
    by_cases h : l.length = r.length <;> simp [h]
  rw [this]
  cases l.length == r.length <;> cases p a b <;> rfl
theorem allZ_len {p : Nd → Nd → Bool} {l r : List Nd} (h : l.length ≠ r.length) : allZ p l r = false := by
  unfold allZ
  rw [show (l.length == r.length) = false by simpa using h]; rfl
theorem allZ_append (p : Nd → Nd → Bool) : ∀ {l l' r r' : List Nd}, l.length = l'.length → allZ p (l ++ r) (l' ++ r') = (allZ p l l' && allZ p r r')
  | [], [], r, r', _ => by show allZ p r r' = _; rw [allZ_nil]; rfl
  | a :: l, b :: l', r, r', h => by
    rw [List.cons_append, List.cons_append, allZ_cons, allZ_cons, allZ_append p (by simpa using h), Bool.and_assoc]
theorem allZ_map (p : Nd → Nd → Bool) (g g' : Nd → Nd) : ∀ l r : List Nd, allZ p (l.map g) (r.map g') = allZ (fun a b => p (g a) (g' b)) l r
  | [], [] => rfl
  | [], b :: r => by rw [allZ_len (by simp), allZ_len (by simp)]
  | a :: l, [] => by rw [allZ_len (by simp), allZ_len (by simp)]
  | a :: l, b :: r => by rw [List.map_cons, List.map_cons, allZ_cons, allZ_cons, allZ_map p g g' l r]
theorem allZ_and (p q : Nd → Nd → Bool) : ∀ l r : List Nd, allZ (fun a b => p a b && q a b) l r = (allZ p l r && allZ q l r)
  | [], [] => rfl
  | [], b :: r => by rw [allZ_len (by simp), allZ_len (by simp)]; rfl
  | a :: l, [] => by rw [allZ_len (by simp), allZ_len (by simp)]; rfl
  | a :: l, b :: r => by
    rw [allZ_cons, allZ_cons, allZ_cons, allZ_and p q l r]
    cases p a b <;> cases q a b <;> cases allZ p l r <;> cases allZ q l r <;> rfl
theorem allZ_congr {p q : Nd → Nd → Bool} : ∀ {l r : List Nd}, (∀ a ∈ l, ∀ b ∈ r, p a b = q a b) → allZ p l r = allZ q l r
  | [], [], _ => rfl
  | [], b :: r, _ => by rw [allZ_len (by simp), allZ_len (by simp)]
  | a :: l, [], _ => by rw [allZ_len (by simp), allZ_len (by simp)]
  | a :: l, b :: r, h => by
    rw [allZ_cons, allZ_cons, h a (List.mem_cons_self ..) b (List.mem_cons_self ..), allZ_congr fun x hx y hy => h x (List.mem_cons_of_mem _ hx) y (List.mem_cons_of_mem _ hy)]
/-- told of lists of lists: where each two are of one length -/
theorem allZ_flat (p : Nd → Nd → Bool) (g g' : Nd → List Nd) : ∀ {l r : List Nd}, allZ (fun a b => (g a).length == (g' b).length) l r = true → allZ p (l.flatMap g) (r.flatMap g') = allZ (fun a b => allZ p (g a) (g' b)) l r
  | [], [], _ => rfl
  | [], b :: r, h => by rw [allZ_len (by simp)] at h; cases h
  | a :: l, [], h => by rw [allZ_len (by simp)] at h; cases h
  | a :: l, b :: r, h => by
    rw [allZ_cons, Bool.and_eq_true] at h
    rw [List.flatMap_cons, List.flatMap_cons, allZ_append p (by simpa using h.1), allZ_cons, allZ_flat p g g' h.2]
theorem allZ_range (p : Nd → Nd → Bool) (f f' : Nat → Nd) (n : Nat) : allZ p ((List.range n).map f) ((List.range n).map f') = (List.range n).all fun i => p (f i) (f' i) := by
  induction n with
  | zero => rfl
  | succ n ih =>
    rw [List.range_succ, List.map_append, List.map_append, allZ_append p (by simp), ih]
    simp only [List.map_cons, List.map_nil, allZ_cons, allZ_nil, Bool.and_true, List.all_append, List.all_cons, List.all_nil]
/-- two slices of one type -/
theorem same_els {d d' : Dat} {ty : Ty} (h : Fits d ty) (h' : Fits d' ty) (hd : deep ty = true) : same d d' ty = allZ (sameC (rowTy ty)) d.els d'.els := by
  obtain ⟨n, k, f, rfl⟩ := h.deep hd
  obtain ⟨n', k', f', rfl⟩ := h'.deep hd
  rw [same_sl]
  by_cases e : n = n'
  · subst e
    rw [show (n == n) = true by simp, Bool.true_and]
    exact (allZ_range (sameC (rowTy ty)) f f' n).symm
  · rw [allZ_len (by rw [els_len, els_len]; exact e), show (n == n') = false by simpa using e]; rfl
theorem len_els (d : Dat) : d.els.length = d.len := by simp [Dat.els]
theorem cut_cut (c : Nd) : cut 0 c = c := by funext j; show c (0 + j) = c j; rw [Nat.zero_add]
theorem sameC_item (c c' : Nd) : sameC (rowTy .items) c c' = (itemSame c c' && sameC exprTy (cut 2 c) (cut 2 c')) := by
  unfold sameC itemSame eqL cut
  simp only [rowTy, exprTy, List.length_cons, List.length_nil, List.cons_append, List.nil_append, Nat.zero_add, Nat.reduceAdd, List.range_succ, List.range_zero, List.all_cons, List.all_nil, Bool.and_true, List.getD_cons_succ, List.getD_cons_zero]
  generalize same (c 0) (c' 0) .bool = u0
  generalize same (c 1) (c' 1) .str = u1
  generalize same (c 12) (c' 12) .str = u2
  generalize same (c 2) (c' 2) .int = v0
  cases u0 <;> cases u1 <;> cases u2 <;> cases v0 <;> simp
theorem sameC_source (c c' : Nd) : sameC (rowTy .sources) c c' = (eqL c c' 0 .str && (eqL c c' 1 .str && same (c 2) (c' 2) .exprs)) := by
  unfold sameC eqL
  simp only [rowTy, List.length_cons, List.length_nil, Nat.zero_add, Nat.reduceAdd, List.range_succ, List.range_zero, List.nil_append, List.cons_append, List.all_cons, List.all_nil, Bool.and_true, List.getD_cons_succ, List.getD_cons_zero]
theorem sameC_key (c c' : Nd) : sameC (rowTy .keys) c c' = (keySame c c' && sameC exprTy c c') := by
  unfold sameC keySame eqL
  simp only [rowTy, exprTy, List.length_cons, List.length_nil, List.cons_append, List.nil_append, Nat.zero_add, Nat.reduceAdd, List.range_succ, List.range_zero, List.all_cons, List.all_nil, Bool.and_true, List.getD_cons_succ, List.getD_cons_zero]
  generalize same (c 10) (c' 10) .bool = u0
  cases u0 <;> simp
theorem sameC_query (q q' : Nd) : sameC (rowTy .queries) q q' = (eqL q q' 0 .bool && (same (q 1) (q' 1) .items && (same (q 2) (q' 2) .sources && (same (q 3) (q' 3) .exprs && (same (q 4) (q' 4) .keys && eqL q q' 5 .int))))) := by
  unfold sameC eqL
  simp only [rowTy, List.length_cons, List.length_nil, Nat.zero_add, Nat.reduceAdd, List.range_succ, List.range_zero, List.nil_append, List.cons_append, List.all_cons, List.all_nil, Bool.and_true, List.getD_cons_succ, List.getD_cons_zero]
theorem sameC_head (c c' : Nd) : sameC exprTy c c' = (headSame c c' && (same (c 8) (c' 8) .exprs && same (c 9) (c' 9) .queries)) := by
  unfold sameC headSame eqL
  simp only [exprTy, List.length_cons, List.length_nil, Nat.zero_add, Nat.reduceAdd, List.range_succ, List.range_zero, List.nil_append, List.cons_append, List.all_cons, List.all_nil, Bool.and_true, List.getD_cons_succ, List.getD_cons_zero, Bool.and_assoc]
/-- a query is the frame and the expressions -/
def FitsQ (q : Nd) : Prop := Fits (q 1) .items ∧ Fits (q 2) .sources ∧ Fits (q 3) .exprs ∧ Fits (q 4) .keys
theorem fitsQ_of {d : Dat} (h : Fits d .queries) {q : Nd} (hq : q ∈ d.els) : FitsQ q := ⟨els_fits h hq 1 (by decide), els_fits h hq 2 (by decide), els_fits h hq 3 (by decide), els_fits h hq 4 (by decide)⟩
theorem source_len {c c' : Nd} (h : sourceSame c c' = true) : (c 2).els.length = (c' 2).els.length := by
  unfold sourceSame at h
  rw [Bool.and_eq_true, Bool.and_eq_true] at h
  rw [len_els, len_els]
  simpa using h.2.2
theorem allZ_true {p : Nd → Nd → Bool} {l r : List Nd} (h : allZ p l r = true) : l.length = r.length := by
  by_cases e : l.length = r.length
  · exact e
  · rw [allZ_len e] at h; cases h
theorem flat_len (g g' : Nd → List Nd) : ∀ {l r : List Nd}, allZ (fun a b => (g a).length == (g' b).length) l r = true → (l.flatMap g).length = (r.flatMap g').length
  | [], [], _ => rfl
  | [], b :: r, h => by rw [allZ_len (by simp)] at h; cases h
  | a :: l, [], h => by rw [allZ_len (by simp)] at h; cases h
  | a :: l, b :: r, h => by
    rw [allZ_cons, Bool.and_eq_true] at h
    rw [List.flatMap_cons, List.flatMap_cons, List.length_append, List.length_append, flat_len g g' h.2]
    have := h.1
    simp at this
    omega
theorem allZ_imp {p q : Nd → Nd → Bool} : ∀ {l r : List Nd}, (∀ a b, p a b = true → q a b = true) → allZ p l r = true → allZ q l r = true
  | [], [], _, _ => rfl
  | [], b :: r, _, h => by rw [allZ_len (by simp)] at h; cases h
  | a :: l, [], _, h => by rw [allZ_len (by simp)] at h; cases h
  | a :: l, b :: r, hi, h => by
    rw [allZ_cons, Bool.and_eq_true] at h ⊢
    exact ⟨hi a b h.1, allZ_imp hi h.2⟩
theorem frame_from {q q' : Nd} (h : frameSame q q' = true) : allZ (fun a b => ((a 2).els.length == (b 2).els.length)) (q 2).els (q' 2).els = true := by
  unfold frameSame at h
  simp only [Bool.and_eq_true] at h
  exact allZ_imp (fun a b hab => by simpa using source_len hab) h.2.2.2.2.1
theorem slots_len {q q' : Nd} (h : frameSame q q' = true) : (slotsOf q).length = (slotsOf q').length := by
  have hf := flat_len (fun c => (c 2).els) (fun c => (c 2).els) (frame_from h)
  unfold frameSame at h
  simp only [Bool.and_eq_true, beq_iff_eq] at h
  obtain ⟨_, _, h3, h1, _, h4⟩ := h
  have k1 := allZ_true h1
  have k4 := allZ_true h4
  unfold slotsOf exFrom
  simp only [List.length_append, List.length_map]
  rw [hf, k1, k4, len_els (q 3), len_els (q' 3), h3]
theorem query_same {q q' : Nd} (h : FitsQ q) (h' : FitsQ q') : sameC (rowTy .queries) q q' = (frameSame q q' && allZ (sameC exprTy) (slotsOf q) (slotsOf q')) := by
  rw [sameC_query, same_els h.1 h'.1 rfl, same_els h.2.1 h'.2.1 rfl, same_els h.2.2.1 h'.2.2.1 rfl, same_els h.2.2.2 h'.2.2.2 rfl]
  rw [allZ_congr (q := fun a b => itemSame a b && sameC exprTy (cut 2 a) (cut 2 b)) fun a _ b _ => sameC_item a b, allZ_and]
  rw [allZ_congr (p := sameC (rowTy .sources)) (q := fun a b => sourceSame a b && allZ (sameC exprTy) (a 2).els (b 2).els) fun a ha b hb => by
    rw [sameC_source, same_els (ty := .exprs) (els_fits h.2.1 ha 2 (by decide)) (els_fits h'.2.1 hb 2 (by decide)) rfl]
    unfold sourceSame
    by_cases e : (a 2).len = (b 2).len
    · rw [show ((a 2).len == (b 2).len) = true by simpa using e]
      show (_ && (_ && allZ (sameC exprTy) _ _)) = _
      rw [Bool.and_true, Bool.and_assoc]
    · rw [show ((a 2).len == (b 2).len) = false by simpa using e]
      show (_ && (_ && allZ (sameC exprTy) _ _)) = _
      rw [allZ_len (by rw [len_els, len_els]; exact e)]
      simp, allZ_and]
  rw [allZ_congr (p := sameC (rowTy .keys)) (q := fun a b => keySame a b && sameC exprTy a b) fun a _ b _ => sameC_key a b, allZ_and]
  by_cases hfr : frameSame q q' = true
  · have hfrom := frame_from hfr
    have e : allZ (sameC exprTy) (slotsOf q) (slotsOf q') = (((allZ (fun a b => sameC exprTy (cut 2 a) (cut 2 b)) (q 1).els (q' 1).els && allZ (fun a b => allZ (sameC exprTy) (a 2).els (b 2).els) (q 2).els (q' 2).els) && allZ (sameC exprTy) (q 3).els (q' 3).els) && allZ (sameC exprTy) (q 4).els (q' 4).els) := by
      have hl2 := flat_len (fun c => (c 2).els) (fun c => (c 2).els) hfrom
      have hfr2 := hfr
      unfold frameSame at hfr2
      simp only [Bool.and_eq_true, beq_iff_eq] at hfr2
      obtain ⟨_, _, h3, h1, _, _⟩ := hfr2
      have k1 := allZ_true h1
      unfold slotsOf exFrom
      have l3 : (q 3).els.length = (q' 3).els.length := by rw [len_els, len_els]; exact h3
      rw [allZ_append _ (by simp only [List.length_append, List.length_map]; rw [hl2, k1, l3]), allZ_append _ (by simp only [List.length_append, List.length_map]; rw [hl2, k1]), allZ_append _ (by simp only [List.length_map]; exact k1), allZ_map, allZ_flat _ _ _ hfrom]
    rw [e, hfr]
    unfold frameSame at hfr
    simp only [Bool.and_eq_true] at hfr
    obtain ⟨f0, f5, f3, f1, f2, f4⟩ := hfr
    rw [f0, f5, f1, f2, f4]
    show _ = _
    generalize allZ (fun a b => sameC exprTy (cut 2 a) (cut 2 b)) (q 1).els (q' 1).els = u1
    generalize allZ (fun a b => allZ (sameC exprTy) (a 2).els (b 2).els) (q 2).els (q' 2).els = u2
    generalize allZ (sameC exprTy) (q 4).els (q' 4).els = u4
    show (true && ((true && u1) && ((true && u2) && (allZ (sameC exprTy) (q 3).els (q' 3).els && ((true && u4) && true))))) = _
    generalize allZ (sameC exprTy) (q 3).els (q' 3).els = u3
    cases u1 <;> cases u2 <;> cases u3 <;> cases u4 <;> rfl
  · rw [show frameSame q q' = false by simpa using hfr, Bool.false_and]
    have : frameSame q q' = false := by simpa using hfr
    unfold frameSame at this
    by_cases e3 : (q 3).len = (q' 3).len
    · rw [show ((q 3).len == (q' 3).len) = true by simpa using e3] at this
      generalize eqL q q' 0 .bool = u0 at this ⊢
      generalize eqL q q' 5 .int = u5 at this ⊢
      generalize allZ itemSame (q 1).els (q' 1).els = u1 at this ⊢
      generalize allZ sourceSame (q 2).els (q' 2).els = u2 at this ⊢
      generalize allZ keySame (q 4).els (q' 4).els = u4 at this ⊢
      cases u0 <;> cases u5 <;> cases u1 <;> cases u2 <;> cases u4 <;> first | (simp at this; done) | simp
    · have : allZ (sameC (rowTy .exprs)) (q 3).els (q' 3).els = false := allZ_len (by rw [len_els, len_els]; exact e3)
      rw [this]
      simp
/-- an expression is what stands in it alone and what lies below -/
theorem expr_same {c c' : Nd} (h8 : Fits (c 8) .exprs) (h9 : Fits (c 9) .queries) (h8' : Fits (c' 8) .exprs) (h9' : Fits (c' 9) .queries) :
    sameC exprTy c c' = ((headSame c c' && (((c 8).len == (c' 8).len) && allZ frameSame (c 9).els (c' 9).els)) && allZ (sameC exprTy) (slotParts c) (slotParts c')) := by
  rw [sameC_head, same_els h8 h8' rfl, same_els h9 h9' rfl]
  rw [allZ_congr (p := sameC (rowTy .queries)) (q := fun a b => frameSame a b && allZ (sameC exprTy) (slotsOf a) (slotsOf b)) fun a ha b hb => query_same (fitsQ_of h9 ha) (fitsQ_of h9' hb), allZ_and]
  by_cases hf : allZ frameSame (c 9).els (c' 9).els = true
  · by_cases e : (c 8).len = (c' 8).len
    · unfold slotParts
      rw [allZ_append _ (by rw [len_els, len_els]; exact e), allZ_flat _ _ _ (allZ_imp (fun a b hab => by simpa using slots_len hab) hf), hf, show ((c 8).len == (c' 8).len) = true by simpa using e]
      show _ = _
      generalize headSame c c' = u0
      show (u0 && (allZ (sameC exprTy) (c 8).els (c' 8).els && (true && _))) = _
      generalize allZ (sameC exprTy) (c 8).els (c' 8).els = u1
      generalize allZ (fun a b => allZ (sameC exprTy) (slotsOf a) (slotsOf b)) (c 9).els (c' 9).els = u2
      cases u0 <;> cases u1 <;> cases u2 <;> rfl
    · rw [show ((c 8).len == (c' 8).len) = false by simpa using e]
      have : allZ (sameC (rowTy .exprs)) (c 8).els (c' 8).els = false := allZ_len (by rw [len_els, len_els]; exact e)
      rw [this]
      simp
  · rw [show allZ frameSame (c 9).els (c' 9).els = false by simpa using hf]
    simp
end Go.Proofs.Ytfmgkinindkedaa
