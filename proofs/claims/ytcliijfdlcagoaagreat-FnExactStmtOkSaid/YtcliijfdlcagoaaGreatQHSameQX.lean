/- Joined texts: SameQX. -/
import Derived.Test.YtcliijfdlcagoaaGreatQZAN
import Derived.Deep.RegionWith
namespace Go.Proofs.YtcliijfdlcagoaaGreat
set_option linter.unusedVariables false
set_option linter.unusedSimpArgs false
open Go.RowKit
structure BdQ (q : Nd) : Prop where
  f : FitsQ q
  m : msr (q 1) + msr (q 2) + msr (q 3) + msr (q 4) ≤ 1048576
theorem BdQ.slots {q : Nd} (h : BdQ q) : ∀ x ∈ slotsOf q, Bd x := by
  intro x hx
  have hm := h.m
  have el : ∀ {d : Dat} {ty : Ty} {M : Nat}, Fits d ty → deep ty = true → msr d ≤ M → M ≤ 1048576 → ∀ a b, a < (rowTy ty).length → b < (rowTy ty).length → (∀ e ∈ d.els, msr (e a) ≤ M ∧ msr (e b) ≤ M) := by
    intro d ty M hf hd hm hM a b ha hb e he
    obtain ⟨n, k, f, rfl⟩ := hf.deep hd
    have hk : k = (rowTy ty).length := hf.2.2.1
    subst hk
    obtain ⟨i, hi, rfl⟩ := List.mem_map.1 he
    rw [List.mem_range] at hi
    exact ⟨Nat.le_trans (msr_el hi ha) hm, Nat.le_trans (msr_el hi hb) hm⟩
  have ofE : ∀ {d : Dat} {M : Nat}, Fits d .exprs → msr d ≤ M → M ≤ 1048576 → ∀ e ∈ d.els, Bd e := fun hf hm hM e he => by
    obtain ⟨h1, h2⟩ := el hf rfl hm hM 8 9 (by decide) (by decide) e he
    exact ⟨by omega, by omega, els_fits hf he 8 (by decide), els_fits hf he 9 (by decide)⟩
  unfold slotsOf at hx
  rw [List.mem_append, List.mem_append, List.mem_append] at hx
  rcases hx with ((hx | hx) | hx) | hx
  · obtain ⟨it, hit, rfl⟩ := List.mem_map.1 hx
    obtain ⟨h1, h2⟩ := el h.f.1 rfl (show msr (q 1) ≤ 1048576 by omega) (Nat.le_refl _) 10 11 (by decide) (by decide) it hit
    exact ⟨h1, h2, els_fits h.f.1 hit 10 (by decide), els_fits h.f.1 hit 11 (by decide)⟩
  · unfold exFrom at hx
    rw [List.mem_flatMap] at hx
    obtain ⟨s, hs, hx⟩ := hx
    obtain ⟨h1, _⟩ := el h.f.2.1 rfl (show msr (q 2) ≤ 1048576 by omega) (Nat.le_refl _) 2 2 (by decide) (by decide) s hs
    exact ofE (els_fits h.f.2.1 hs 2 (by decide)) h1 (Nat.le_refl _) x hx
  · exact ofE h.f.2.2.1 (show msr (q 3) ≤ 1048576 by omega) (Nat.le_refl _) x hx
  · obtain ⟨h1, h2⟩ := el h.f.2.2.2 rfl (show msr (q 4) ≤ 1048576 by omega) (Nat.le_refl _) 8 9 (by decide) (by decide) x hx
    exact ⟨h1, h2, els_fits h.f.2.2.2 hx 8 (by decide), els_fits h.f.2.2.2 hx 9 (by decide)⟩
theorem BdQ.lens {q : Nd} (h : BdQ q) : (q 1).els.length ≤ 1048576 ∧ (q 2).els.length ≤ 1048576 ∧ (q 4).els.length ≤ 1048576 := by
  have := h.m
  exact ⟨Nat.le_trans els_msr (by omega), Nat.le_trans els_msr (by omega), Nat.le_trans els_msr (by omega)⟩
theorem slotsIn_any (w0 W : World) (q : Nd) (ys : List Value) (hys : OutK (rowTy .queries) w0 ys [q]) (hb0 : Below w0.heap.size w0 W) (hq : BdQ q) :
    Calls Tryz.prog 85 #[.agg ys.toArray] W fun e w' => ∃ v, e = .returned v ∧ OutE w0 w' (W.heap.size + 1) v (slotsOf q) ∧ Below W.heap.size W w' := by
  obtain ⟨c0, a1, n1, p1, a2, n2, p2, a3, n3, p3, a4, n4, p4, c5, rfl, -, ⟨r1, q1⟩, ⟨r2, q2⟩, ⟨r3, q3⟩, ⟨r4, q4⟩, -⟩ := hys.queryRow
  obtain ⟨hl1, h1⟩ := r1.lkE q1 rfl hb0
  have hm := hq.m
  obtain ⟨f2, e2, r2, q2⟩ := r2.openS q2 rfl
  obtain ⟨f3, e3, r3, q3⟩ := r3.openS q3 rfl
  obtain ⟨f4, e4, r4, q4⟩ := r4.openS q4 rfl
  have hs : slotsOf q = (((q 1).els.map (cut 2) ++ exFrom (.sl n2 3 f2)) ++ (Dat.sl n3 10 f3).els) ++ (Dat.sl n4 11 f4).els := by
    unfold slotsOf; rw [e2, e3, e4]; rfl
  have hN : (q 1).els.length + (exFrom (.sl n2 3 f2)).length + n3 + n4 ≤ 1048576 := by
    rw [e2, e3, e4] at hm
    replace hm : msr (q 1) + msr (.sl n2 3 f2) + msr (.sl n3 10 f3) + msr (.sl n4 11 f4) ≤ 1048576 := hm
    have k1 := els_msr (d := q 1)
    have k2 := exFrom_msr q2
    have k3 := msr_n n3 10 f3
    have k4 := msr_n n4 11 f4
    omega
  have h := slots_any w0 W c0 a1 p1 (q 1).els a2 n2 p2 a3 n3 p3 a4 n4 p4 c5 f2 f3 f4 hb0 h1 r2 q2 r3 q3 r4 q4 hN
  rw [← hs, hl1] at h
  exact h
set_option maxRecDepth 100000 in
set_option maxHeartbeats 8000000 in
theorem SameQuery_any (w0 : World) (q q' : Nd) (ys ys' : List Value) (W : World) (hys : OutK (rowTy .queries) w0 ys [q]) (hys' : OutK (rowTy .queries) w0 ys' [q']) (hb0 : Below w0.heap.size w0 W) (hq : BdQ q) (hq' : BdQ q') :
    Calls Tryz.prog 47 #[.agg ys.toArray, .agg ys'.toArray] W (BoolE (sameC (rowTy .queries) q q') W) := by
  have CF := fun w' h => sameFrame_any w0 q q' ys ys' w' hys hys' h hq.lens.1 hq.lens.2.1 hq.lens.2.2 hq'.lens.1 hq'.lens.2.1 hq'.lens.2.2
  have CA := fun w' h => slotsIn_any w0 w' q ys hys h hq
  have CB := fun w' h => slotsIn_any w0 w' q' ys' hys' h hq'
  have hv := query_same hq.f hq'.f
  have hsl : frameSame q q' = true → (slotsOf q).length = (slotsOf q').length := slots_len
  have hle : (slotsOf q).length ≤ 1048576 := by
    have h1 := hq.m
    have h2 := wsum_slots hq.f
    have : ∀ l : List Nd, l.length ≤ wsum l := fun l => by
      induction l with
      | nil => exact Nat.le_refl _
      | cons a l ih => rw [wsum_cons, List.length_cons]; show _ ≤ (msr (a 8) + msr (a 9) + 1) + _; omega
    have := this (slotsOf q)
    omega
  have hws : wsum (List.zipWith pairT (slotsOf q) (slotsOf q')) ≤ 2000000 := by
    have h1 := hq.m
    have h2 := wsum_slots hq.f
    have := wsum_zip (slotsOf q) (slotsOf q')
    omega
  have hbd : ∀ t ∈ List.zipWith pairT (slotsOf q) (slotsOf q'), BdT t := fun t ht => by
    obtain ⟨a, ha, b, hb, rfl⟩ := mem_zip ht
    exact bdT_pair (hq.slots a ha) (hq'.slots b hb)
  obtain ⟨x0, ax1, nx1, px1, ax2, nx2, px2, ax3, nx3, px3, ax4, nx4, px4, x5, rfl, -⟩ := hys.queryRow
  obtain ⟨y0, ay1, ny1, py1, ay2, ny2, py2, ay3, ny3, py3, ay4, ny4, py4, y5, rfl, -⟩ := hys'.queryRow
  have hB : Below W.heap.size W ((W.alloc (.cells #[.bool x0, .slice ax1 nx1 px1, .slice ax2 nx2 px2, .slice ax3 nx3 px3, .slice ax4 nx4 px4, .int .i64 x5] 39)).alloc (.cells #[.bool y0, .slice ay1 ny1 py1, .slice ay2 ny2 py2, .slice ay3 ny3 py3, .slice ay4 ny4 py4, .int .i64 y5] 39)) := ((Below.refl _ _).alloc (Nat.le_refl _) _).alloc (by simp) _
  have R1 : RowAt ((W.alloc (.cells #[.bool x0, .slice ax1 nx1 px1, .slice ax2 nx2 px2, .slice ax3 nx3 px3, .slice ax4 nx4 px4, .int .i64 x5] 39)).alloc (.cells #[.bool y0, .slice ay1 ny1 py1, .slice ay2 ny2 py2, .slice ay3 ny3 py3, .slice ay4 ny4 py4, .int .i64 y5] 39)) W.heap.size 39 #[.bool x0, .slice ax1 nx1 px1, .slice ax2 nx2 px2, .slice ax3 nx3 px3, .slice ax4 nx4 px4, .int .i64 x5] := (RowAt.new W _ _).alloc _
  have R2 : RowAt ((W.alloc (.cells #[.bool x0, .slice ax1 nx1 px1, .slice ax2 nx2 px2, .slice ax3 nx3 px3, .slice ax4 nx4 px4, .int .i64 x5] 39)).alloc (.cells #[.bool y0, .slice ay1 ny1 py1, .slice ay2 ny2 py2, .slice ay3 ny3 py3, .slice ay4 ny4 py4, .int .i64 y5] 39)) (W.heap.size + 1) 39 #[.bool y0, .slice ay1 ny1 py1, .slice ay2 ny2 py2, .slice ay3 ny3 py3, .slice ay4 ny4 py4, .int .i64 y5] := RowAt.new1 W _ _ _
  rw [hv]
  clear hys hys' hq hq' hv
  have hz0 : frameSame q q' = true → allZ (sameC exprTy) (slotsOf q) (slotsOf q') = (List.zipWith pairT (slotsOf q) (slotsOf q')).all fun x => sameC exprTy x (cut 10 x) := fun h => by
    unfold allZ
    rw [all_zip, show ((slotsOf q).length == (slotsOf q').length) = true by simpa using hsl h, Bool.true_and]
  obtain ⟨Z, hZ⟩ : ∃ Z, Z = (frameSame q q' && allZ (sameC exprTy) (slotsOf q) (slotsOf q')) := ⟨_, rfl⟩
  rw [← hZ]
  go_enter Tryz.func47, Tryz.ntmps47
  go_wp2_with fail
  generalize ((W.alloc (.cells #[.bool x0, .slice ax1 nx1 px1, .slice ax2 nx2 px2, .slice ax3 nx3 px3, .slice ax4 nx4 px4, .int .i64 x5] 39)).alloc (.cells #[.bool y0, .slice ay1 ny1 py1, .slice ay2 ny2 py2, .slice ay3 ny3 py3, .slice ay4 ny4 py4, .int .i64 y5] 39)) = w1 at hB R1 R2 ⊢
  have hz := hb0.trans (hB.mono hb0.size)
  have X0 := R1.cell (i := 0) (v := .bool x0) rfl
  have X1 := R1.cell (i := 1) (v := .slice ax1 nx1 px1) rfl
  have X2 := R1.cell (i := 2) (v := .slice ax2 nx2 px2) rfl
  have X3 := R1.cell (i := 3) (v := .slice ax3 nx3 px3) rfl
  have X4 := R1.cell (i := 4) (v := .slice ax4 nx4 px4) rfl
  have X5 := R1.cell (i := 5) (v := .int .i64 x5) rfl
  have Y0 := R2.cell (i := 0) (v := .bool y0) rfl
  have Y1 := R2.cell (i := 1) (v := .slice ay1 ny1 py1) rfl
  have Y2 := R2.cell (i := 2) (v := .slice ay2 ny2 py2) rfl
  have Y3 := R2.cell (i := 3) (v := .slice ay3 ny3 py3) rfl
  have Y4 := R2.cell (i := 4) (v := .slice ay4 ny4 py4) rfl
  have Y5 := R2.cell (i := 5) (v := .int .i64 y5) rfl
  have HR1 := Lib.hid R1
  have HR2 := Lib.hid R2
  have HB := Lib.hid hB
  have HLE := Lib.hid hle
  clear hle R1 R2 hB
  generalize hV : frameSame q q' = V at hsl hz0 CF
  cases V
  case false =>
    have HZ := Lib.hid (show Z = false by rw [hZ, hV]; rfl)
    clear hsl CA CB hws hbd HLE hZ hz0 hV
    go_region_with (first
      | (go_at_call 84; refine (CF _ (by first | exact hz | exact hz.drew)).mono ?_; clear CF; rintro e w2 ⟨rfl, hb2⟩; have hb2' : Below w1.heap.size w1 w2 := (by first | exact hb2 | exact (Below.refl _ _).drew.trans hb2); clear X0 X1 X2 X3 X4 X5 Y0 Y1 Y2 Y3 Y4 Y5))
    all_goals
      have hf := HB.out.trans (hb2'.mono HB.out.size)
      go_wp2_with fail
      go_ret
      exact ⟨by rw [HZ.out]; rfl, hf⟩
  case true =>
    have hl := hsl rfl
    have HL := Lib.hid hl
    have HZ := Lib.hid (show Z = (List.zipWith pairT (slotsOf q) (slotsOf q')).all fun x => sameC exprTy x (cut 10 x) by rw [hZ, hV, hz0 rfl]; rfl)
    clear hsl hl hV hz0 hZ
    generalize slotsOf q = LA at *
    generalize slotsOf q' = LB at *
    go_region_with (first
      | (go_at_call 84; refine (CF _ (by first | exact hz | exact hz.drew)).mono ?_; clear CF; rintro e w2 ⟨rfl, hb2⟩; have hb2' : Below w1.heap.size w1 w2 := (by first | exact hb2 | exact (Below.refl _ _).drew.trans hb2); have RA := HR1.out.later hb2'; have RB := HR2.out.later hb2'; have hz2 := hz.trans (hb2'.mono hz.size); clear X0 X1 X2 X3 X4 X5 Y0 Y1 Y2 Y3 Y4 Y5; have X0 := RA.cell (i := 0) (v := .bool x0) rfl; have X1 := RA.cell (i := 1) (v := .slice ax1 nx1 px1) rfl; have X2 := RA.cell (i := 2) (v := .slice ax2 nx2 px2) rfl; have X3 := RA.cell (i := 3) (v := .slice ax3 nx3 px3) rfl; have X4 := RA.cell (i := 4) (v := .slice ax4 nx4 px4) rfl; have X5 := RA.cell (i := 5) (v := .int .i64 x5) rfl; have Y0 := RB.cell (i := 0) (v := .bool y0) rfl; have Y1 := RB.cell (i := 1) (v := .slice ay1 ny1 py1) rfl; have Y2 := RB.cell (i := 2) (v := .slice ay2 ny2 py2) rfl; have Y3 := RB.cell (i := 3) (v := .slice ay3 ny3 py3) rfl; have Y4 := RB.cell (i := 4) (v := .slice ay4 ny4 py4) rfl; have Y5 := RB.cell (i := 5) (v := .int .i64 y5) rfl; have HRA := Lib.hid RA; have HRB := Lib.hid RB; clear RA RB)
      | (go_at_call 85; refine (CA _ (by first | exact hz2 | exact hz2.drew)).mono ?_; clear CA; rintro e w3 ⟨va, rfl, hpa, hb3⟩; have hb3' : Below w2.heap.size w2 w3 := (by first | exact hb3 | exact (Below.refl _ _).drew.trans hb3); have RB := HRB.out.later hb3'; have hz3 := hz2.trans (hb3'.mono hz2.size); clear X0 X1 X2 X3 X4 X5 Y0 Y1 Y2 Y3 Y4 Y5; have Y0 := RB.cell (i := 0) (v := .bool y0) rfl; have Y1 := RB.cell (i := 1) (v := .slice ay1 ny1 py1) rfl; have Y2 := RB.cell (i := 2) (v := .slice ay2 ny2 py2) rfl; have Y3 := RB.cell (i := 3) (v := .slice ay3 ny3 py3) rfl; have Y4 := RB.cell (i := 4) (v := .slice ay4 ny4 py4) rfl; have Y5 := RB.cell (i := 5) (v := .int .i64 y5) rfl; obtain ⟨xa, pa, rfl⟩ := hpa.slice; clear RB)
      | (go_at_call 85; refine (CB _ (by first | exact hz3 | exact hz3.drew)).mono ?_; clear CB; rintro e w4 ⟨vb, rfl, hpb, hb4⟩; have hb4' : Below w3.heap.size w3 w4 := (by first | exact hb4 | exact (Below.refl _ _).drew.trans hb4); have hz4 := hz3.trans (hb4'.mono hz3.size); clear Y0 Y1 Y2 Y3 Y4 Y5; obtain ⟨xb, pb, rfl⟩ := hpb.slice; have CP := paired_any w0 w4 xa pa xb pb LA LB ((hpa.later hb4').lk fun _ _ _ => trivial) (hpb.lk fun _ _ _ => trivial) HL.out (by have := HLE.out; omega))
      | (go_at_call 49; refine CP.mono ?_; clear CP; rintro e w5 ⟨v5, rfl, hl5, hb5⟩; have hz5 := hz4.trans (hb5.mono hz4.size); have CS := allSame_any w0 w5 _ v5 hz5 (hl5.keep (Nat.le_refl _) (fun _ _ _ => rfl) fun _ _ _ => trivial) hbd hws)
      | (go_at_call 48; refine CS.mono ?_; clear CS; rintro e w6 ⟨rfl, hb6⟩))
    all_goals
      have hf : Below W.heap.size W w6 := HB.out.trans (((((hb2'.trans (hb3'.mono hb2'.size)).trans (hb4'.mono (Nat.le_trans hb2'.size hb3'.size))).trans (hb5.mono (Nat.le_trans hb2'.size (Nat.le_trans hb3'.size hb4'.size)))).trans (hb6.mono (Nat.le_trans hb2'.size (Nat.le_trans hb3'.size (Nat.le_trans hb4'.size hb5.size))))).mono HB.out.size)
      go_wp2_with fail
      go_ret
      exact ⟨by rw [HZ.out]; rfl, hf⟩
end Go.Proofs.YtcliijfdlcagoaaGreat
