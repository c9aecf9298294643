
/- append onto a list that came in, without room, or onto one of the call's own; bounds on what lies below a node. -/
import Derived.Test.YtgihklohhjhjbaaDelG
import Derived.Test.YtgihklohhjhjbaaSzTree
namespace Go.Proofs.Ytgihklohhjhjbaa
open Go.RowKit

theorem run_append_zero {P : Program} {w : World} {t ty e : TypeId} {i : TypeInfo} (ht : P.underlying t = some (.slice e)) (hi : P.info? e = some i) (b : Addr) (n c : Nat) (ax : Option Addr) :
    (Builtin.append_ #[t, t] ty #[.slice (some b) n n, .slice ax 0 c]).run P w = .ok (.slice (some b) n n) w := by
  cases ax <;> simp [Builtin.append_, run_underlying ht, sizeOf, typeInfo, hi, Builtin.lenOf, Builtin.firstCells, loadCells, loadCellsFrom, storeCells, Sem.run_pure]
/-- the list v: as it came in, without room behind it, or one of the call's own -/
def PB (w0 wr : World) (B : Nat) (v : Value) (L : List Nd) : Prop :=
  (∃ b n, v = .slice (some b) n n ∧ LK exprTy w0 w0 (fun g => g < w0.heap.size) v L) ∨ OutE w0 wr B v L
theorem PB.slice {w0 wr : World} {B : Nat} {v : Value} {L : List Nd} (h : PB w0 wr B v L) : ∃ a cap, v = .slice a L.length cap := by
  rcases h with ⟨b, n, rfl, h⟩ | h
  · obtain ⟨a, cap, e⟩ := h.slice
    exact ⟨a, cap, e⟩
  · exact h.slice
theorem PB.later {w0 wr w' : World} {B : Nat} {v : Value} {L : List Nd} (h : PB w0 wr B v L) (hb : Below wr.heap.size wr w') : PB w0 w' B v L := h.imp id fun h => h.later hb
theorem PB.lk {w0 wr : World} {B : Nat} {v : Value} {L : List Nd} (h : PB w0 wr B v L) (hb : Below w0.heap.size w0 wr) : LK exprTy w0 wr (fun g => g < w0.heap.size ∨ B ≤ g) v L := by
  rcases h with ⟨_, _, _, h⟩ | h
  · exact h.keep hb.size (fun g hg _ => hb.block g hg) fun g hg _ => .inl hg
  · exact h.lk fun g hg _ => .inr hg
theorem appO {ops : Array Oper} {rest : List Oper} {o : Oper} {a : Act} {Q : Exit → Act → World → Prop}
    (hgd : o.guard = none) (s x : Operand) (ho : o.op = .call { callee := .builtin .append, args := #[s, x], argTypes := #[26, 26] })
    (w0 : World) (B B' : Nat) (v vx : Value) (L Lx : List Nd) (W : World) (hs : a.eval s = v) (hx : a.eval x = vx)
    (hown : OutE w0 W B v L) (hr : OutE w0 W B' vx Lx) (hl : L.length + Lx.length ≤ 4000000) (hB : B ≤ W.heap.size)
    (h : ∀ (v' : Value) (w' : World), OutE w0 w' B v' (L ++ Lx) → Below B W w' → wpList Try.prog ops Q rest (a.put o.dst v') w') :
    wpList Try.prog ops Q (o :: rest) a W := by
  obtain ⟨i, hi, hz, hsize, hby⟩ := info_parts Try.infoEx
  obtain ⟨C, hC, hP⟩ := hown
  obtain ⟨C', hC', hP'⟩ := hr
  rcases hC'.2 with ⟨e, h0⟩ | ⟨g, cap, cur, e, hg, hrow, hnc, hcm, hsz, hcur⟩
  · have hLx : Lx = [] := List.eq_nil_of_length_eq_zero h0
    subst hLx
    rw [List.append_nil] at h
    exact wpList_append_own_none hgd s x 26 ho B 29 i 10 Try.underlying26 hi v L.length C hs hC (hx.trans e) (h v W ⟨C, hC, hP⟩ (Below.refl B W))
  · subst e
    refine wpList_append_own _ hgd s x 26 ho B 29 i _ 10 136 Try.underlying26 hi hz hsize hby rfl (by decide) v L.length C hs hC ⟨g, 0, none⟩ Lx.length cap C' hx hP'.1 (fun j u hj => hC'.cells rfl j u hj) hP'.ones (by unfold maxLen; omega) (by omega) hB ?_
    intro v' w' hown' hgrow _
    have hb : Below B W w' := (Below.refl B W).grown hgrow hB (fun q hq => (World.ownsRow.lt hC q hq).1)
    exact h v' w' ⟨C ++ C', by rw [List.length_append]; exact hown', hP.append hP'⟩ hb
set_option maxRecDepth 100000 in
theorem appF {ops : Array Oper} {rest : List Oper} {o : Oper} {a : Act} {Q : Exit → Act → World → Prop}
    (hgd : o.guard = none) (s x : Operand) (ho : o.op = .call { callee := .builtin .append, args := #[s, x], argTypes := #[26, 26] })
    (w0 : World) (B B' : Nat) (v vx : Value) (L Lx : List Nd) (W : World) (hs : a.eval s = v) (hx : a.eval x = vx) (hb0 : Below w0.heap.size w0 W)
    (hown : PB w0 W B v L) (hr : OutE w0 W B' vx Lx) (hl : L.length + Lx.length ≤ 4000000) (hB : B ≤ W.heap.size)
    (h : ∀ (v' : Value) (w' : World), PB w0 w' B v' (L ++ Lx) → Below B W w' → wpList Try.prog ops Q rest (a.put o.dst v') w') :
    wpList Try.prog ops Q (o :: rest) a W := by
  rcases hown with ⟨b, n, rfl, hlk⟩ | hown
  · obtain ⟨i, hi, hz, hsize, hby⟩ := info_parts Try.infoEx
    have hlk2 := hlk
    obtain ⟨a', cap', C, e, hC, hcell⟩ := hlk
    injection e with e1 e2 e3
    subst e1; subst e2; subst e3
    obtain ⟨C', hC', hP'⟩ := hr
    by_cases h0 : Lx.length = 0
    · have hLx : Lx = [] := List.eq_nil_of_length_eq_zero h0
      subst hLx
      rw [List.append_nil] at h
      refine wpList_plain hgd fun K hK => ?_
      obtain ⟨ax, cx, hvx⟩ : ∃ ax cx, vx = .slice ax 0 cx := by
        rcases hC'.2 with ⟨e, _⟩ | ⟨g, cap, cur, e, _⟩
        · exact ⟨none, 0, e⟩
        · exact ⟨_, cap, e⟩
      have hrun := run_append_zero (P := Try.prog) (w := W) (ty := o.type) Try.underlying26 hi b L.length cx ax
      unfold Oper.wp execOp
      simp only [ho, resolve, invoke, builtin, Sem.run_bind, Sem.run_pure, Result.andThen_ok, List.map_toArray, List.map_cons, List.map_nil, hs, hx, hvx, hrun]
      exact hK _ _ (h _ _ (.inl ⟨b, L.length, rfl, hlk2⟩) (Below.refl _ _))
    · rcases hC'.2 with ⟨e, h0'⟩ | ⟨g, cap, cur, e, hg, hrow, hnc, hcm, hsz, hcur⟩
      · exact absurd h0' h0
      · subst e
        have holds : ∀ j u, C[j]? = some u → W.cell? (b.add j) = some u := by
          intro j u hj
          rcases hcell with rfl | ⟨g', o', e, _, hg', _, hc⟩
          · have h1 := hC.1
            rw [List.length_nil, Nat.zero_mul] at h1
            have := (List.getElem?_eq_some_iff.1 hj).1
            omega
          · injection e with e
            subst e
            have hadd : (⟨g', o', none⟩ : Addr).add j = ⟨g', o' + j, none⟩ := by unfold Addr.add; split <;> simp_all
            rw [hadd]
            exact (hb0.cell (p := ⟨g', o' + j, none⟩) hg').trans (hc j u hj)
        have hCl : C.length = L.length * i.size := by rw [hsize]; exact hC.1
        have hCl' : C'.length = Lx.length * i.size := by rw [hsize]; exact hP'.1
        have hrun := run_append_grow (P := Try.prog) W 26 o.type 29 i _ Try.underlying26 hi hz b L.length L.length C hCl holds ⟨g, 0, none⟩ Lx.length cap C' hCl' (fun j u hj => hC'.cells rfl j u hj) (by omega) (by omega) (growslice_fits (by omega) (by rw [hby]; omega))
        refine wpList_plain hgd fun K hK => ?_
        unfold Oper.wp execOp
        simp only [ho, resolve, invoke, builtin, Sem.run_bind, Sem.run_pure, Result.andThen_ok, List.map_toArray, List.map_cons, List.map_nil, hs, hx, hrun]
        refine hK _ _ (h _ _ (.inr ⟨C ++ C', ⟨?_, .inr ⟨W.heap.size, _, _, by rw [List.length_append], hB, heap_alloc_new W.drew _, ?_, ?_, ?_, ?_⟩⟩, OutP.append hC hP'⟩) ?_)
        · rw [List.length_append, List.length_append, Nat.add_mul, hCl, hCl', hsize]
        · rw [List.length_append]; exact grownCap_ge _ _ _ _
        · exact grownCap_le_maxLen _ _ _ _ (by unfold maxLen; omega)
        · simp only [Array.size_append, List.size_toArray, size_zeroCells]
          rw [hCl, hCl', hsize]
          have hge := grownCap_ge W (L.length + Lx.length) L.length 29
          generalize grownCap W (L.length + Lx.length) L.length 29 = N at hge ⊢
          show L.length * 10 + Lx.length * 10 + (N - (L.length + Lx.length)) * 10 = N * 10
          omega
        · have : (C ++ C').length = (L ++ Lx).length * 10 := by rw [List.length_append, List.length_append, Nat.add_mul, hCl, hCl', hsize]
          rw [← this]
          simp only [Array.toList_append, List.append_assoc]
          rw [← List.append_assoc]
          exact List.take_left
        · exact (((Below.refl B W).drew).alloc hB _)
  · exact appO hgd s x ho w0 B B' v vx L Lx W hs hx hown hr hl hB fun v' w' h1 h2 => h v' w' (.inr h1) h2
/-- what is told of the nodes below, by the bounds of the tree -/
theorem preA_flat : ∀ l : List (List (Nat × Nd)), preA.of l = l.flatten
  | [] => rfl
  | a :: l => by rw [preA_good.of_cons, preA_flat l]; rfl
theorem pre_bd : ∀ (d : Dat) (ty : Ty), Fits d ty → ∀ p ∈ fold preA d ty, msr (p.2 8) ≤ msr d ∧ msr (p.2 9) ≤ msr d ∧ Fits (p.2 8) .exprs ∧ Fits (p.2 9) .queries
  | .v _, ty, hf => by cases ty <;> first | exact hf.elim | (intro p hp; exact absurd hp (by simp [fold, preA]))
  | .sl n k f, ty, hf => by
    obtain ⟨hd, _, hk, hfit⟩ := hf
    have IH : ∀ i j ty, Fits (f i j) ty → ∀ p ∈ fold preA (f i j) ty, msr (p.2 8) ≤ msr (f i j) ∧ msr (p.2 9) ≤ msr (f i j) ∧ Fits (p.2 8) .exprs ∧ Fits (p.2 9) .queries := fun i j ty h => pre_bd (f i j) ty h
    have sub : ∀ i j ty, i < n → j < k → Fits (f i j) ty → ∀ p ∈ fold preA (f i j) ty, msr (p.2 8) ≤ msr (.sl n k f) ∧ msr (p.2 9) ≤ msr (.sl n k f) ∧ Fits (p.2 8) .exprs ∧ Fits (p.2 9) .queries := fun i j ty hi hj h p hp => by
      obtain ⟨h1, h2, h3, h4⟩ := IH i j ty h p hp
      have := msr_el (n := n) (k := k) (f := f) hi hj
      exact ⟨by omega, by omega, h3, h4⟩
    have nodeE : ∀ (c : Nd) i a b, i < n → a < k → b < k → c 8 = f i a → c 9 = f i b → Fits (f i a) .exprs → Fits (f i b) .queries → ∀ p ∈ preA.node c (preA.up (fold preA (f i a) .exprs) (fold preA (f i b) .queries)), msr (p.2 8) ≤ msr (.sl n k f) ∧ msr (p.2 9) ≤ msr (.sl n k f) ∧ Fits (p.2 8) .exprs ∧ Fits (p.2 9) .queries := by
      intro c i a b hi ha hb e8 e9 f8 f9 p hp
      simp only [preA, List.mem_cons, List.mem_map, List.mem_append] at hp
      rcases hp with rfl | ⟨p', hp', rfl⟩
      · show msr (c 8) ≤ _ ∧ msr (c 9) ≤ _ ∧ Fits (c 8) _ ∧ Fits (c 9) _
        rw [e8, e9]
        exact ⟨msr_el hi ha, msr_el hi hb, f8, f9⟩
      · rcases hp' with h | h
        · exact sub i a .exprs hi ha f8 p' h
        · exact sub i b .queries hi hb f9 p' h
    cases ty
    case int => cases hd
    case bool => cases hd
    case str => cases hd
    all_goals
      obtain rfl := hk
      intro p hp
      rw [fold, preA_flat, List.mem_flatten] at hp
      obtain ⟨l, hl, hp⟩ := hp
      rw [List.mem_map] at hl
      obtain ⟨i, hi, rfl⟩ := hl
      rw [List.mem_range] at hi
    case exprs => exact nodeE (f i) i 8 9 hi (by decide) (by decide) rfl rfl (hfit i hi 8 (by decide)) (hfit i hi 9 (by decide)) p hp
    case items =>
      by_cases ht : (f i 0).tru
      · rw [if_pos ht] at hp; exact absurd hp (by simp [preA])
      · rw [if_neg ht] at hp
        exact nodeE (cut 2 (f i)) i 10 11 hi (by decide) (by decide) rfl rfl (hfit i hi 10 (by decide)) (hfit i hi 11 (by decide)) p hp
    case sources => exact sub i 2 .exprs hi (by decide) (hfit i hi 2 (by decide)) p hp
    case keys => exact nodeE (f i) i 8 9 hi (by decide) (by decide) rfl rfl (hfit i hi 8 (by decide)) (hfit i hi 9 (by decide)) p hp
    case queries =>
      simp only [preA, List.mem_append] at hp
      rcases hp with ((h | h) | h) | h
      · exact sub i 1 .items hi (by decide) (hfit i hi 1 (by decide)) p h
      · exact sub i 2 .sources hi (by decide) (hfit i hi 2 (by decide)) p h
      · exact sub i 3 .exprs hi (by decide) (hfit i hi 3 (by decide)) p h
      · exact sub i 4 .keys hi (by decide) (hfit i hi 4 (by decide)) p h
/-- bounds of a node -/
structure Bd (c : Nd) : Prop where
  m8 : msr (c 8) ≤ 1048576
  m9 : msr (c 9) ≤ 1048576
  f8 : Fits (c 8) .exprs
  f9 : Fits (c 9) .queries
theorem Bd.pre {c : Nd} (h : Bd c) (d : Nat) : ∀ p ∈ pre d c, Bd p.2 := by
  intro p hp
  unfold Go.Proofs.Ytgihklohhjhjbaa.pre at hp
  rw [List.mem_map] at hp
  obtain ⟨p', hp', rfl⟩ := hp
  show Bd p'.2
  unfold foldE at hp'
  simp only [preA, List.mem_cons, List.mem_map, List.mem_append] at hp'
  rcases hp' with rfl | ⟨q, hq, rfl⟩
  · exact h
  · have h8 := h.m8
    have h9 := h.m9
    rcases hq with hq | hq
    · obtain ⟨a, b, c, d⟩ := pre_bd _ _ h.f8 q hq
      exact ⟨by show msr (q.2 8) ≤ _; omega, by show msr (q.2 9) ≤ _; omega, c, d⟩
    · obtain ⟨a, b, c, d⟩ := pre_bd _ _ h.f9 q hq
      exact ⟨by show msr (q.2 8) ≤ _; omega, by show msr (q.2 9) ≤ _; omega, c, d⟩
end Go.Proofs.Ytgihklohhjhjbaa
