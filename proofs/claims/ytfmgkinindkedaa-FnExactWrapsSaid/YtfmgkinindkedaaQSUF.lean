/- Joined texts: VisT. -/
import Derived.Test.YtfmgkinindkedaaQSUB
import Derived.OwnWalkIn
import Derived.TacticsInMore
import Derived.LoopIn
import Derived.Lib.Hide
import Derived.Laws.CopyRow
/- The program's walk over the expressions of a list and all that lies below them. -/
namespace Go.Proofs.Ytfmgkinindkedaa
open Go.RowKit
attribute [local go_sem] Oper.semAt_some

/-- the cells of two expressions -/
def twTy : List Ty := exprTy ++ exprTy
abbrev VT : FuncId := 168
/-- a node as the body of a range gets it -/
def okT (w0 : World) (p : Nat × Nd) (v : Array Value) : Prop := ∃ ys : List Value, OutK twTy w0 ys [p.2] ∧ v = #[.int .i64 (p.1 : Int), .agg ys.toArray]
/-- what the walk asks of the function that tells the parts -/
def PartsT (pf : FuncId) (pt : Nd → List Nd) (w0 : World) (c : Nd) : Prop := ∀ (ys : List Value) (W : World), OutK twTy w0 ys [c] → Below w0.heap.size w0 W →
  Calls Try.prog pf #[.agg ys.toArray] W fun e W' => ∃ v, e = .returned v ∧ LK twTy w0 W' (fun g => g < w0.heap.size ∨ W.heap.size ≤ g) v (pt c) ∧ Below W.heap.size W W'
theorem alloc_xT (A : Act) (w : World) (dst : Option Tmp) (ty : TypeId) (pos : String) (af) (g) :
    (execOp A.eval { dst := dst, op := .alloc 166, type := ty, pos := pos, after := af, guard := g }).run Try.prog w =
      .ok (.value (.pointer (some ⟨w.heap.size, 0, none⟩))) (w.alloc (.cells #[.int .i64 0, .int .i64 0, .bool false, .int .i64 0, .int .i64 0, .string ⟨#[]⟩, .string ⟨#[]⟩, .string ⟨#[]⟩, .slice none 0 0, .slice none 0 0, .int .i64 0, .int .i64 0, .bool false, .int .i64 0, .int .i64 0, .string ⟨#[]⟩, .string ⟨#[]⟩, .string ⟨#[]⟩, .slice none 0 0, .slice none 0 0] 166)) := by
  simp [go_sem]
def GoodT (u : Value) (cs : Array Value) : Prop := ∃ zs : List Value, u = .agg zs.toArray ∧ zs.length = 20 ∧ zs.all Value.oneCell' = true ∧ cs = zs.toArray
set_option maxHeartbeats 2000000 in
theorem store_xT (A : Act) (w : World) (b : Nat) (cs : Array Value) (d e : Tmp) (dst : Option Tmp) (ty : TypeId) (pos : String) (af) (g) (hp : A.eval (.tmp d) = .pointer (some ⟨b, 0, none⟩)) (hg : GoodT (A.eval (.tmp e)) cs)
    (hh : w.heap[b]? = some (.cells #[.int .i64 0, .int .i64 0, .bool false, .int .i64 0, .int .i64 0, .string ⟨#[]⟩, .string ⟨#[]⟩, .string ⟨#[]⟩, .slice none 0 0, .slice none 0 0, .int .i64 0, .int .i64 0, .bool false, .int .i64 0, .int .i64 0, .string ⟨#[]⟩, .string ⟨#[]⟩, .string ⟨#[]⟩, .slice none 0 0, .slice none 0 0] 166 (0, 0))) :
    ∃ w', (execOp A.eval { dst := dst, op := .store 166 (.tmp d) (.tmp e), type := ty, pos := pos, after := af, guard := g }).run Try.prog w = .ok .skip w' ∧
      w'.heap[b]? = some (.cells cs 166 (0, 0)) ∧ Below b w w' := by
  obtain ⟨zs, hu, hzl, hzo, rfl⟩ := hg
  have hst := storeAt_row (P := Try.prog) (zs := #[.int .i64 0, .int .i64 0, .bool false, .int .i64 0, .int .i64 0, .string ⟨#[]⟩, .string ⟨#[]⟩, .string ⟨#[]⟩, .slice none 0 0, .slice none 0 0, .int .i64 0, .int .i64 0, .bool false, .int .i64 0, .int .i64 0, .string ⟨#[]⟩, .string ⟨#[]⟩, .string ⟨#[]⟩, .slice none 0 0, .slice none 0 0]) zs (fun w => by rw [hzl]; exact Try.sizeOf166 w) hzl hzo hh
  refine ⟨_, ?_, setRow_heap w b _ _ _ _ hh, ⟨rfl, rfl, rfl, by simp, fun k hk => setRow_other w b k _ (by omega)⟩⟩
  rotate_left
  unfold execOp
  simp only [hp, hu, Sem.run_bind, hst, Result.andThen]
  rfl
/-- between two rounds of the walk: i nodes have come, the stack holds the rest -/
structure StT (pr : Nat → Nd → List (Nat × Nd)) (w0 W : World) (J : Nat → World → Prop) (Ew : Nat → Prop) (xs : List (Nat × Nd)) (bp : Nat) (s : Value) (wr : World) (m : Nat) : Prop where
  ex : ∃ (i : Nat) (S : List Ent) (g cap : Nat), s = .slice (some ⟨g, 0, none⟩) S.length cap ∧
    wr.ownsRow W.heap.size 209 2 s S.length (entCells S) ∧
    (∀ e ∈ S, LK twTy w0 wr (fun k => ¬ Ew k ∧ k ≠ g) e.v e.L ∧ 1 ≤ e.d) ∧ xs.drop i = left pr S ∧ i ≤ xs.length ∧ J i wr ∧ m = 2 * (xs.length - i) + S.length ∧ S.length ≤ i + 1 ∧ (∀ e ∈ S, e.d ≤ i + 1)
  box : wr.cell? ⟨bp, 0, none⟩ = some (.func (.func 135) #[] #[])
  b0 : Below w0.heap.size w0 wr
  sz : W.heap.size ≤ wr.heap.size
theorem StT.push {pr : Nat → Nd → List (Nat × Nd)} {pt : Nd → List Nd} {w0 W : World} {J : Nat → World → Prop} {Ew : Nat → Prop} {xs : List (Nat × Nd)} {bp i d g g' cap' : Nat} {r : List Ent} {t pv : Value} {L' : List Nd} {c : Nd} {wr W4 w5 : World}
    (hown : w5.ownsRow W.heap.size 209 2 (.slice (some ⟨g', 0, none⟩) (r.length + 1 + 1) cap') (r.length + 1 + 1) (entCells (⟨d, t, L'⟩ :: r) ++ [.int .i64 ((d : Int) + 1), pv]))
    (hch : ∀ q, ¬ Ew q → q ≠ g → q < wr.heap.size → W4.heap[q]? = wr.heap[q]?) (hsz : wr.heap.size ≤ W4.heap.size) (hg5 : ∀ q, q < W4.heap.size → q ≠ g → w5.heap[q]? = W4.heap[q]?) (s5 : W4.heap.size ≤ w5.heap.size)
    (hat : g' = g ∨ W4.heap.size ≤ g') (hL3 : LK twTy w0 wr (fun q => ¬ Ew q ∧ q ≠ g) t L') (hd : 1 ≤ d) (hr : ∀ e ∈ r, LK twTy w0 wr (fun q => ¬ Ew q ∧ q ≠ g) e.v e.L ∧ 1 ≤ e.d)
    (hL4 : LK twTy w0 W4 (fun q => ¬ Ew q ∧ q ≠ g) pv (pt c)) (hdr : xs.drop (i + 1) = ((pt c).flatMap (pr (d + 1)) ++ L'.flatMap (pr d)) ++ left pr r) (hil : i < xs.length)
    (hJ : J (i + 1) w5) (hSi : r.length ≤ i) (hdd : d ≤ i + 1) (hdr' : ∀ e ∈ r, e.d ≤ i + 1) (hp : w5.cell? ⟨bp, 0, none⟩ = some (.func (.func 135) #[] #[])) (hb : Below w0.heap.size w0 w5) (hz : W.heap.size ≤ w5.heap.size) :
    StT pr w0 W J Ew xs bp (.slice (some ⟨g', 0, none⟩) (r.length + 1 + 1) cap') w5 (2 * (xs.length - (i + 1)) + (r.length + 1 + 1)) := by
  have K : ∀ {v : Value} {L : List Nd}, LK twTy w0 wr (fun q => ¬ Ew q ∧ q ≠ g) v L → LK twTy w0 w5 (fun q => ¬ Ew q ∧ q ≠ g') v L := fun h =>
    h.keep (Nat.le_trans hsz s5) (fun q hq hlt => (hg5 q (Nat.lt_of_lt_of_le hlt hsz) hq.2).trans (hch q hq.1 hq.2 hlt)) fun q hq hlt => ⟨hq.1, by rcases hat with h | h <;> omega⟩
  refine ⟨⟨i + 1, ⟨d + 1, pv, pt c⟩ :: ⟨d, t, L'⟩ :: r, g', cap', rfl, hown, ?_, ?_, hil, hJ, rfl, by show r.length + 1 + 1 ≤ _; omega, ?_⟩, hp, hb, hz⟩
  · intro e he
    simp only [List.mem_cons] at he
    rcases he with rfl | rfl | he
    · exact ⟨hL4.keep s5 (fun q hq hlt => hg5 q hlt hq.2) fun q hq hlt => ⟨hq.1, by rcases hat with h | h <;> omega⟩, by show 1 ≤ d + 1; omega⟩
    · exact ⟨K hL3, hd⟩
    · exact ⟨K (hr e he).1, (hr e he).2⟩
  · rw [hdr, List.append_assoc]; rfl
  · intro e he
    simp only [List.mem_cons] at he
    rcases he with rfl | rfl | he
    · show d + 1 ≤ i + 1 + 1; omega
    · show d ≤ i + 1 + 1; omega
    · have := hdr' e he; omega
theorem execOp_ldT (ρ : Operand → Value) (dst : Option Tmp) (x : Operand) (ty : TypeId) (pos : String) (after : Array Edge) (guard : Option (Nat × Bool)) :
    execOp ρ { dst := dst, op := .load 166 x, type := ty, pos := pos, after := after, guard := guard } = ldX 166 (ρ x) := rfl
attribute [local go_sem ↓] execOp_ldT
theorem Try.infoBrT : (Try.prog.info? 209).map (fun i => (i.zero, i.size, i.bytes)) = some (some (.agg #[.int .i64 0, .slice none 0 0]), 2, 32) := by kernel_rfl
set_option maxRecDepth 100000 in
set_option maxHeartbeats 8000000 in
theorem visT_any (pr : Nat → Nd → List (Nat × Nd)) (pt : Nd → List Nd) (go : Nat × Nd → Prop) (w0 w : World) (L0 : List Nd) (v0 : Value) (bl bp : Nat) (E : Nat → Prop) (xs : List (Nat × Nd)) (n : Nat) (hxs : xs = L0.flatMap (pr 1)) (hlen : xs.length ≤ 2000000)
    (h0 : Below w0.heap.size w0 w) (hE : ∀ k, E k → w0.heap.size ≤ k ∧ k < w.heap.size) (hbl : w.cell? ⟨bl, 0, none⟩ = some v0) (hbp : w.cell? ⟨bp, 0, none⟩ = some (.func (.func 135) #[] #[])) (hbE : ¬ E bp)
    (hv : LK twTy w0 w (fun g => ¬ E g) v0 L0) (HP : ∀ d c, (d, c) ∈ xs → go (d, c) → PartsT 135 pt w0 c) (hhd : ∀ d c, ∃ l, pr d c = (d, c) :: l) (hpre : ∀ d c, (d, c) ∈ xs → go (d, c) → pr d c = (d, c) :: (pt c).flatMap (pr (d + 1))) :
    SeqV Fence.wide n Try.prog VT #[.pointer (some ⟨bl, 0, none⟩), .pointer (some ⟨bp, 0, none⟩)] xs (okT w0) go E w := by
  intro l J Jx Ew W hW hEw hJ hJx hY hJ0
  refine callsIn_wide.2 ?_
  obtain ⟨a0, cap0, rfl⟩ := hv.slice
  have kl := (hW.cell (cell_block hbl)).trans hbl
  have hwW : w.heap.size ≤ W.heap.size := hW.size
  have hv1 : LK twTy w0 W (fun g => ¬ Ew g ∧ g < w.heap.size) (.slice a0 L0.length cap0) L0 := hv.keep hW.size (fun g _ hlt => hW.block g hlt) fun g hg hlt => ⟨fun he => (hEw g he).elim hg fun h => by omega, hlt⟩
  have hb0 : Below w0.heap.size w0 W := h0.trans (hW.mono h0.size)
  go_enter Try.func168, Try.ntmps168
  go_wp2_with fail
  have hown : (W.alloc (.cells #[.int .i64 1, .slice a0 L0.length cap0] 209)).ownsRow W.heap.size 209 2 (.slice (some ⟨W.heap.size, 0, none⟩) 1 1) 1 (entCells [⟨1, .slice a0 L0.length cap0, L0⟩]) :=
    World.ownsRow_lit W #[.int .i64 1, .slice a0 L0.length cap0] 1 (Nat.le_refl _) (by decide) rfl
  have hsE : StT pr w0 W J Ew xs bp (.slice (some ⟨W.heap.size, 0, none⟩) 1 1) (W.alloc (.cells #[.int .i64 1, .slice a0 L0.length cap0] 209)) (2 * xs.length + 1) := by
    have hal : Below W.heap.size W (W.alloc (.cells #[.int .i64 1, .slice a0 L0.length cap0] 209)) := (Below.refl _ _).alloc (Nat.le_refl _) _
    refine ⟨⟨0, [⟨1, .slice a0 L0.length cap0, L0⟩], W.heap.size, 1, rfl, hown, ?_, ?_, Nat.zero_le _, hJ _ _ _ hJ0 hal, rfl, Nat.le_refl _, ?_⟩, ?_, hb0.trans (hal.mono hb0.size), hal.size⟩
    · intro e he
      obtain rfl : e = _ := by simpa using he
      exact ⟨hv1.keep hal.size (fun g _ hlt => hal.block g hlt) fun g hg hlt => ⟨hg.1, by omega⟩, Nat.le_refl _⟩
    · rw [List.drop_zero, hxs]; show _ = _ ++ []; rw [List.append_nil]
    · intro e he
      obtain rfl : e = _ := by simpa using he
      exact Nat.le_refl _
    · have h1 := (hW.cell (cell_block hbp)).trans hbp
      exact (hal.cell (cell_block h1)).trans h1
  clear hown
  generalize W.alloc (.cells #[.int .i64 1, .slice a0 L0.length cap0] 209) = W1 at hsE ⊢
  go_loopw [4] (fun s wr => ∃ m, StT pr w0 W J Ew xs bp s wr m) (fun s wr => least (StT pr w0 W J Ew xs bp s wr))
  case atStart => exact ⟨_, hsE⟩
  case round =>
    have hm := least_is hrel.choose_spec
    obtain ⟨M, hM⟩ : ∃ M, least (StT pr w0 W J Ew xs bp u4 wr) = M := ⟨_, rfl⟩
    rw [hM] at hm
    clear hrel
    obtain ⟨⟨i, S, g, cap, hu, hown, hS, hdrop, hile, hJi, hmeq, hSi, hdi⟩, hparts, hb, hsz⟩ := hm
    have HM : Hid (least (StT pr w0 W J Ew xs bp u4 wr) = M) := hM
    clear hM
    cases S with
    | nil =>
      subst hu
      go_wp2_with fail
      go_end0
      have : i = xs.length := by
        have h1 : xs.drop i = [] := hdrop
        have := List.drop_eq_nil_iff.1 h1
        omega
      exact ⟨⟨_, rfl⟩, .inl (this ▸ hJi)⟩
    | cons e r =>
      obtain ⟨hLe, hde⟩ := hS e (List.mem_cons_self ..)
      obtain ⟨d, v, L⟩ := e
      obtain ⟨k, hk⟩ : ∃ k, r.length = k := ⟨_, rfl⟩
      have hkk : k ≤ 2000000 := by simp at hSi; omega
      replace hu : u4 = .slice (some ⟨g, 0, none⟩) (r.length + 1) cap := hu
      replace hown : wr.ownsRow W.heap.size 209 2 (.slice (some ⟨g, 0, none⟩) (r.length + 1) cap) (r.length + 1) (entCells (⟨d, v, L⟩ :: r)) := by rw [hu] at hown; exact hown
      replace hmeq : M = 2 * (xs.length - i) + (r.length + 1) := hmeq
      replace hSi : r.length + 1 ≤ i + 1 := hSi
      obtain ⟨hcap, hgW⟩ := ownsRow_facts hown
      obtain ⟨k0, k1, k2⟩ := ent_cells hown
      rw [hk] at hu hown hmeq hSi k0 k1 k2 hcap
      subst hu
      obtain ⟨a, cp, rfl⟩ : ∃ a cp, v = .slice a L.length cp := hLe.slice
      cases L with
      | nil =>
        simp only [List.length_nil] at k1
        have HH : StT pr w0 W J Ew xs bp (.slice (some ⟨g, 0, none⟩) k cap) wr (2 * (xs.length - i) + k) := by
          subst hk
          exact ⟨⟨i, r, g, cap, rfl, ent_pop hown, fun e he => hS e (List.mem_cons_of_mem _ he), hdrop, hile, hJi, rfl, by omega, fun e he => hdi e (List.mem_cons_of_mem _ he)⟩, hparts, hb, hsz⟩
        go_wp2_with fail
        refine ⟨⟨_, HH⟩, ?_⟩
        rw [HM.out]
        have h1 := least_le HH
        omega
      | cons c L' =>
        obtain ⟨ga, oa, cp', ys, hv1, hcp, hys, hGa, hga, hcell, htl⟩ := hLe.head
        injection hv1 with e1 e2 e3
        subst e1; subst e3
        have hyl : ys.length = 20 := hys.1
        have hyo : ys.all Value.oneCell' = true := List.all_eq_true.2 hys.ones
        have ld0 := run_ldX (P := Try.prog) hyl Try.isAgg166 Try.sizeOf166 hcell
        simp only [List.length_cons] at k1
        go_wp2_with fail
        refine' region_float (Qf := fun a' => a' = _) 10 12 9 7 39 rfl rfl (by kernel_rfl) (by kernel_rfl) (by kernel_rfl) (by simp) (fun A w => alloc_xT A w _ _ _ _ _) (fun A w b cs hp hg hh => store_xT A w b cs _ _ _ _ _ _ _ hp hg hh) ?hG ?hW ?hQ
        case hW =>
          intro X hX
          have g0 := lat_cell ((hX.cell (cell_block k0)).trans k0)
          have g1 := lat_cell ((hX.cell (cell_block k1)).trans k1)
          have X0 : ∀ n, (ldX 166 (.pointer (some ⟨ga, oa, none⟩))).run Try.prog (lat X n) = .ok (.value (.agg ys.toArray)) (lat X n) := fun n => run_ldX hyl Try.isAgg166 Try.sizeOf166 fun j u hj => lat_cell ((hX.cell (cell_block (hcell j u hj))).trans (hcell j u hj)) n
          clear hX
          simp only [idle]
          iterate 13 go_big_quiet_step (fail)
          refine wpQuiet_nil ?_
          exact rfl
        case hG =>
          rintro _ rfl
          exact ⟨_, ys, rfl, hyl, hyo, rfl⟩
        case hQ =>
          rintro _ w2 b2 cs rfl hb2 hlt2 ⟨zs, hu2, -, -, rfl⟩ hh2
          obtain rfl : ys = zs := by simpa [Act.eval] using hu2
          clear hu2
          have K1 := (hb2.cell (cell_block k1)).trans k1
          have K2 := (hb2.frozen (cell_block k1)).trans k2
          simp only [Act.put, List.setIfInBounds_toArray, List.set_cons_zero, List.set_cons_succ]
          rename_i hK
          refine hK _ _ ((wpIn_wide (n := n)).1 ?_)
          clear hK
          have hbg : b2 ≠ g := by omega
          have HX : ∀ t, RowAt (w2.setCell ⟨g, k * 2 + 1, none⟩ t) b2 166 ys.toArray := fun t => RowAt.other (hh2 : RowAt _ _ _ _) hbg
          have hcp1 : 1 ≤ cp := by omega
          obtain ⟨lpre, hlpre⟩ := hhd d c
          have hdr : xs.drop i = (d, c) :: ((lpre ++ L'.flatMap (pr d)) ++ left pr r) := by
            rw [hdrop]
            show (c :: L').flatMap (pr d) ++ left pr r = _
            rw [List.flatMap_cons, hlpre]
            rfl
          have hxi : xs[i]? = some (d, c) := by
            have h1 : (xs.drop i)[0]? = some (d, c) := by rw [hdr]; rfl
            rw [List.getElem?_drop] at h1
            exact h1
          have hil : i < xs.length := (List.getElem?_eq_some_iff.1 hxi).1
          have hmem : (d, c) ∈ xs := List.mem_of_getElem? hxi
          have hb2s : b2 < w2.heap.size := (Array.getElem?_eq_some_iff.1 hh2).1
          have hWw2 : W.heap.size ≤ w2.heap.size := Nat.le_trans hsz hb2.size
          have hJ3 : ∀ t, J (i) (w2.setCell ⟨g, k * 2 + 1, none⟩ t) := fun t => hJ _ _ _ hJi ((hb2.mono hsz).setCell (p := ⟨g, k * 2 + 1, none⟩) hgW.1 _)
          have hEwW : ∀ q, Ew q → q < W.heap.size := fun q hq => (hEw q hq).elim (fun h => Nat.lt_of_lt_of_le (hE q h).2 hwW) fun h => h.2
          have hEw0 : ∀ q, Ew q → w0.heap.size ≤ q := fun q hq => (hEw q hq).elim (fun h => (hE q h).1) fun h => Nat.le_trans h0.size h.1
          have hg0 : w0.heap.size ≤ g := Nat.le_trans (Nat.le_trans h0.size hwW) hgW.1
          have hown2 : ∀ t, (w2.setCell ⟨g, k * 2 + 1, none⟩ t).ownsRow W.heap.size 209 2 (.slice (some ⟨g, 0, none⟩) (k + 1) cap) (k + 1) (entCells (⟨d, t, L'⟩ :: r)) := fun t => by
            subst hk
            exact ent_set (ownsRow_same hown (hb2.block g hgW.2)) t L'
          have hpb : bp < W.heap.size ∧ ¬ Ew bp := ⟨Nat.lt_of_lt_of_le (cell_block hbp) hwW, fun h => (hEw bp h).elim hbE fun h => by have := cell_block hbp; simp at this; omega⟩
          have hdb : d ≤ 2000001 := by have := hdi _ (List.mem_cons_self ..); simp at this; omega
          obtain ⟨z, hz, hzz⟩ : ∃ z : Nat, z = d + 1 ∧ ((z : Nat) : Int) = (d : Int) + 1 := ⟨_, rfl, by omega⟩
          obtain ⟨ib, hi1, hi2, hi3, hi4⟩ := info_parts Try.infoBrT
          have HLs : ∀ e ∈ (⟨d, .slice (some ⟨ga, oa, none⟩) (L'.length + 1) cp, c :: L'⟩ :: r : List Ent), LK twTy w0 wr (fun q => ¬ Ew q ∧ q ≠ g) e.v e.L ∧ 1 ≤ e.d := hS
          have hcase : cp = 1 ∨ ¬ cp = 1 := Classical.em _
          rcases hcase with h1 | h1
          · have hY3 := hY i (d, c) _ _ hxi ⟨_, hys, rfl⟩ (hJ3 (.slice (some ⟨ga, oa, none⟩) L'.length 0))
            have R3 := HX (.slice (some ⟨ga, oa, none⟩) L'.length 0)
            have hown3 := hown2 (.slice (some ⟨ga, oa, none⟩) L'.length 0)
            have hL3 : LK twTy w0 wr (fun q => ¬ Ew q ∧ q ≠ g) (.slice (some ⟨ga, oa, none⟩) L'.length 0) L' := htl _ _ (.inl (by have := hcp; rw [h1] at this; exact List.eq_nil_of_length_eq_zero (by omega)))
            have y0 := run_ldX (P := Try.prog) (o := 0) hyl Try.isAgg166 Try.sizeOf166 fun j u hj => by rw [Nat.zero_add]; exact R3.cell (i := j) (by simpa using hj)
            have Hb3 : Below g w2 (w2.setCell ⟨g, k * 2 + 1, none⟩ (.slice (some ⟨ga, oa, none⟩) L'.length 0)) := (Below.refl _ _).setCell (p := ⟨g, k * 2 + 1, none⟩) (Nat.le_refl _) _
            obtain ⟨fn, tmps, assign, body, hy, hR⟩ := hY3
            gi_wp2
            refine ⟨fun h => (by cases h), hR.mono ?_⟩
            rintro e W3 (⟨rfl, hgo, hJ4, hk4⟩ | ⟨rfl, hJx4⟩)
            · have hdr2 : xs.drop (i + 1) = ((pt c).flatMap (pr (d + 1)) ++ L'.flatMap (pr d)) ++ left pr r := by
                have h1 := hpre d c hmem hgo
                rw [hlpre] at h1
                injection h1 with _ h1
                rw [← List.drop_drop, hdr, h1]; rfl
              have q2 : (w2.setCell ⟨g, k * 2 + 1, none⟩ (.slice (some ⟨ga, oa, none⟩) L'.length 0)).heap.size = w2.heap.size := by simp
              have R4 : RowAt W3 b2 166 _ := (hk4.block b2 (by omega) (fun h => by have := hEwW _ h; omega)).trans R3
              have v0 := run_ldX (P := Try.prog) (o := 0) hyl Try.isAgg166 Try.sizeOf166 fun j u hj => by rw [Nat.zero_add]; exact R4.cell (i := j) (by simpa using hj)
              have B3 : Below w0.heap.size w0 (w2.setCell ⟨g, k * 2 + 1, none⟩ (.slice (some ⟨ga, oa, none⟩) L'.length 0)) := (hb.trans (hb2.mono hb.size)).setCell (p := ⟨g, k * 2 + 1, none⟩) hg0 _
              have B4 : Below w0.heap.size w0 W3 := B3.trans (hk4.low B3.size fun q hq h => by have := hEw0 q h; omega)
              have P4 : W3.cell? ⟨bp, 0, none⟩ = some (.func (.func 135) #[] #[]) := by
                refine (World.cell?_of_block (w := wr) (a := ⟨bp, 0, none⟩) ?_).trans hparts
                exact (hk4.block bp (by omega) hpb.2).trans (((heap_setCell_other w2 ⟨g, k * 2 + 1, none⟩ bp _ (by show bp ≠ g; omega))).trans (hb2.block bp (by omega)))
              have hown4 := ownsRow_same hown3 (hk4.block g (by omega) (fun h => by have := hEwW _ h; omega))
              have s4 : W.heap.size ≤ W3.heap.size := by have := hk4.size; omega
              have s5 : g < W3.heap.size := by have := hk4.size; omega
              have hpart := HP d c hmem hgo _ W3 hys B4
              clear hy hR R3 hY HX hown2 hJ3 k0 k1 k2 ld0 y0 K1 K2
              gi_wp2
              refine ⟨trivial, fun h => (by cases h), (callsIn_wide.2 hpart).mono ?_⟩
              clear hpart
              rintro e W4 ⟨pv, rfl, hL4, hb4⟩
              obtain ⟨pa, pcap, rfl⟩ := hL4.slice
              have hown5 := ownsRow_same hown4 (hb4.block g s5)
              gi_wp2_with (gi_at_builtin; go_loud ( refine wpListIn_append_own_at _ rfl _ _ 210 rfl W.heap.size 209 ib _ 2 32 Try.underlying210 hi1 hi2 hi3 hi4 rfl (by decide) (.slice (some ⟨g, 0, none⟩) (k + 1) cap) (k + 1) _ rfl (World.ownsRow.alloc hown5 _) ⟨W4.heap.size, 0, none⟩ 1 1 [.int .i64 ((d : Int) + 1), .slice pa (pt c).length pcap] rfl rfl (cells_new2 _ _ _ _) (by intro u hu; simp only [List.mem_cons, List.not_mem_nil, or_false] at hu; rcases hu with rfl | rfl <;> rfl) (by unfold maxLen; omega) (by omega) (by have := hb4.size; simp; omega) ?_; intro v' w5 hown6 hgrow hat; obtain ⟨g', cap', rfl⟩ := slice_of_owns hown6; have hs45 : W4.heap.size ≤ w5.heap.size := (by have := hgrow.size; simp at this; omega); have hg5 : ∀ q, q < W4.heap.size → q ≠ g → w5.heap[q]? = W4.heap[q]? := (fun q hq hne => (hgrow.block q (by simp; omega) (by intro e; apply hne; injection e)).trans (Below.heap_alloc _ _ _ hq)); have HH := StT.push (J := J) (Ew := Ew) (xs := xs) (bp := bp) (i := i) (wr := wr) (g := g) (by rw [← hk] at hown6; exact hown6) (fun q h1 h2 h3 => (hb4.block q (by have := hk4.size; have := hb2.size; omega)).trans ((hk4.block q (by have := hb2.size; omega) h1).trans ((heap_setCell_other w2 ⟨g, k * 2 + 1, none⟩ q _ h2).trans (hb2.block q h3)))) (by have := hb4.size; have := hk4.size; have := hb2.size; omega) hg5 hs45 (by rcases hat with h | h; exact .inl (by simpa [Value.ownBlock] using h); exact .inr (by simp [Value.ownBlock] at h; omega)) hL3 hde (fun e he => HLs e (List.mem_cons_of_mem _ he)) (hL4.keep (Nat.le_refl _) (fun _ _ _ => rfl) (fun q hq _ => ⟨fun h => by have := hEw0 q h; have := hEwW q h; omega, by omega⟩)) hdr2 hil (hJ _ _ _ hJ4 (((hb4.mono s4).alloc (by have := hb4.size; omega) _).grown hgrow (by have := hb4.size; simp; omega) (fun q e => by cases e; exact hgW.1))) (by omega) (hdi _ (List.mem_cons_self ..)) (fun e he => hdi e (List.mem_cons_of_mem _ he)) ((World.cell?_of_block (w := W4) (a := ⟨bp, 0, none⟩) (hg5 bp (by have := hb4.size; omega) (by omega))).trans ((hb4.cell (cell_block P4)).trans P4)) (((B4.trans (hb4.mono B4.size)).alloc (by have := B4.size; have := hb4.size; omega) _).grown hgrow (by have := B4.size; have := hb4.size; simp; omega) (fun q e => by cases e; exact hg0)) (by have := hb4.size; omega); rw [hk] at HH; have HHH := Lib.hid HH; clear HH hgrow hat hg5 hown6 hown5 hown4))
              refine ⟨⟨_, HHH.out⟩, ?_⟩
              rw [HM.out]
              have h1 := least_le HHH.out
              omega
            · gi_wp2
              refine bodyPost_ret (results_none rfl _ _ _) rfl ?_
              exact ⟨⟨_, rfl⟩, .inr ⟨i + 1, hil, hJx4⟩⟩
          · have hY3 := hY i (d, c) _ _ hxi ⟨_, hys, rfl⟩ (hJ3 (.slice (some ⟨ga, oa + 20, none⟩) L'.length (cp - 1)))
            have R3 := HX (.slice (some ⟨ga, oa + 20, none⟩) L'.length (cp - 1))
            have hown3 := hown2 (.slice (some ⟨ga, oa + 20, none⟩) L'.length (cp - 1))
            have hL3 : LK twTy w0 wr (fun q => ¬ Ew q ∧ q ≠ g) (.slice (some ⟨ga, oa + 20, none⟩) L'.length (cp - 1)) L' := htl _ _ (.inr ⟨rfl, by omega⟩)
            have y0 := run_ldX (P := Try.prog) (o := 0) hyl Try.isAgg166 Try.sizeOf166 fun j u hj => by rw [Nat.zero_add]; exact R3.cell (i := j) (by simpa using hj)
            have Hb3 : Below g w2 (w2.setCell ⟨g, k * 2 + 1, none⟩ (.slice (some ⟨ga, oa + 20, none⟩) L'.length (cp - 1))) := (Below.refl _ _).setCell (p := ⟨g, k * 2 + 1, none⟩) (Nat.le_refl _) _
            obtain ⟨fn, tmps, assign, body, hy, hR⟩ := hY3
            gi_wp2
            refine ⟨fun h => (by cases h), hR.mono ?_⟩
            rintro e W3 (⟨rfl, hgo, hJ4, hk4⟩ | ⟨rfl, hJx4⟩)
            · have hdr2 : xs.drop (i + 1) = ((pt c).flatMap (pr (d + 1)) ++ L'.flatMap (pr d)) ++ left pr r := by
                have h1 := hpre d c hmem hgo
                rw [hlpre] at h1
                injection h1 with _ h1
                rw [← List.drop_drop, hdr, h1]; rfl
              have q2 : (w2.setCell ⟨g, k * 2 + 1, none⟩ (.slice (some ⟨ga, oa + 20, none⟩) L'.length (cp - 1))).heap.size = w2.heap.size := by simp
              have R4 : RowAt W3 b2 166 _ := (hk4.block b2 (by omega) (fun h => by have := hEwW _ h; omega)).trans R3
              have v0 := run_ldX (P := Try.prog) (o := 0) hyl Try.isAgg166 Try.sizeOf166 fun j u hj => by rw [Nat.zero_add]; exact R4.cell (i := j) (by simpa using hj)
              have B3 : Below w0.heap.size w0 (w2.setCell ⟨g, k * 2 + 1, none⟩ (.slice (some ⟨ga, oa + 20, none⟩) L'.length (cp - 1))) := (hb.trans (hb2.mono hb.size)).setCell (p := ⟨g, k * 2 + 1, none⟩) hg0 _
              have B4 : Below w0.heap.size w0 W3 := B3.trans (hk4.low B3.size fun q hq h => by have := hEw0 q h; omega)
              have P4 : W3.cell? ⟨bp, 0, none⟩ = some (.func (.func 135) #[] #[]) := by
                refine (World.cell?_of_block (w := wr) (a := ⟨bp, 0, none⟩) ?_).trans hparts
                exact (hk4.block bp (by omega) hpb.2).trans (((heap_setCell_other w2 ⟨g, k * 2 + 1, none⟩ bp _ (by show bp ≠ g; omega))).trans (hb2.block bp (by omega)))
              have hown4 := ownsRow_same hown3 (hk4.block g (by omega) (fun h => by have := hEwW _ h; omega))
              have s4 : W.heap.size ≤ W3.heap.size := by have := hk4.size; omega
              have s5 : g < W3.heap.size := by have := hk4.size; omega
              have hpart := HP d c hmem hgo _ W3 hys B4
              clear hy hR R3 hY HX hown2 hJ3 k0 k1 k2 ld0 y0 K1 K2
              gi_wp2
              refine ⟨trivial, fun h => (by cases h), (callsIn_wide.2 hpart).mono ?_⟩
              clear hpart
              rintro e W4 ⟨pv, rfl, hL4, hb4⟩
              obtain ⟨pa, pcap, rfl⟩ := hL4.slice
              have hown5 := ownsRow_same hown4 (hb4.block g s5)
              gi_wp2_with (gi_at_builtin; go_loud ( refine wpListIn_append_own_at _ rfl _ _ 210 rfl W.heap.size 209 ib _ 2 32 Try.underlying210 hi1 hi2 hi3 hi4 rfl (by decide) (.slice (some ⟨g, 0, none⟩) (k + 1) cap) (k + 1) _ rfl (World.ownsRow.alloc hown5 _) ⟨W4.heap.size, 0, none⟩ 1 1 [.int .i64 ((d : Int) + 1), .slice pa (pt c).length pcap] rfl rfl (cells_new2 _ _ _ _) (by intro u hu; simp only [List.mem_cons, List.not_mem_nil, or_false] at hu; rcases hu with rfl | rfl <;> rfl) (by unfold maxLen; omega) (by omega) (by have := hb4.size; simp; omega) ?_; intro v' w5 hown6 hgrow hat; obtain ⟨g', cap', rfl⟩ := slice_of_owns hown6; have hs45 : W4.heap.size ≤ w5.heap.size := (by have := hgrow.size; simp at this; omega); have hg5 : ∀ q, q < W4.heap.size → q ≠ g → w5.heap[q]? = W4.heap[q]? := (fun q hq hne => (hgrow.block q (by simp; omega) (by intro e; apply hne; injection e)).trans (Below.heap_alloc _ _ _ hq)); have HH := StT.push (J := J) (Ew := Ew) (xs := xs) (bp := bp) (i := i) (wr := wr) (g := g) (by rw [← hk] at hown6; exact hown6) (fun q h1 h2 h3 => (hb4.block q (by have := hk4.size; have := hb2.size; omega)).trans ((hk4.block q (by have := hb2.size; omega) h1).trans ((heap_setCell_other w2 ⟨g, k * 2 + 1, none⟩ q _ h2).trans (hb2.block q h3)))) (by have := hb4.size; have := hk4.size; have := hb2.size; omega) hg5 hs45 (by rcases hat with h | h; exact .inl (by simpa [Value.ownBlock] using h); exact .inr (by simp [Value.ownBlock] at h; omega)) hL3 hde (fun e he => HLs e (List.mem_cons_of_mem _ he)) (hL4.keep (Nat.le_refl _) (fun _ _ _ => rfl) (fun q hq _ => ⟨fun h => by have := hEw0 q h; have := hEwW q h; omega, by omega⟩)) hdr2 hil (hJ _ _ _ hJ4 (((hb4.mono s4).alloc (by have := hb4.size; omega) _).grown hgrow (by have := hb4.size; simp; omega) (fun q e => by cases e; exact hgW.1))) (by omega) (hdi _ (List.mem_cons_self ..)) (fun e he => hdi e (List.mem_cons_of_mem _ he)) ((World.cell?_of_block (w := W4) (a := ⟨bp, 0, none⟩) (hg5 bp (by have := hb4.size; omega) (by omega))).trans ((hb4.cell (cell_block P4)).trans P4)) (((B4.trans (hb4.mono B4.size)).alloc (by have := B4.size; have := hb4.size; omega) _).grown hgrow (by have := B4.size; have := hb4.size; simp; omega) (fun q e => by cases e; exact hg0)) (by have := hb4.size; omega); rw [hk] at HH; have HHH := Lib.hid HH; clear HH hgrow hat hg5 hown6 hown5 hown4))
              refine ⟨⟨_, HHH.out⟩, ?_⟩
              rw [HM.out]
              have h1 := least_le HHH.out
              omega
            · gi_wp2
              refine bodyPost_ret (results_none rfl _ _ _) rfl ?_
              exact ⟨⟨_, rfl⟩, .inr ⟨i + 1, hil, hJx4⟩⟩
end Go.Proofs.Ytfmgkinindkedaa
