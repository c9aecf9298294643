/- Joined texts: StOkS. -/
import Derived.Test.YtcliijfdlcagoaaGreatQZAV
import Derived.Test.YtcliijfdlcagoaaGreatQZAZ
import Derived.Test.YtcliijfdlcagoaaGreatQZAY
import Derived.Test.YtcliijfdlcagoaaGreatQZAW
import Derived.Test.YtcliijfdlcagoaaGreatQZAE
namespace Go.Proofs.YtcliijfdlcagoaaGreat
set_option linter.unusedVariables false
set_option linter.unusedSimpArgs false
open Go.RowKit

theorem OutK.later {tys : List Ty} {w0 w1 : World} {C : List Value} {L : List Nd} (h : OutK tys w0 C L) (hb : Below w0.heap.size w0 w1) : OutK tys w1 C L :=
  ⟨h.1, fun i c hc j hj => by
    obtain ⟨y, h1, h2, h3⟩ := h.2 i c hc j hj
    exact ⟨y, h1, h2.later hb, h3⟩⟩
set_option maxRecDepth 100000 in
set_option maxHeartbeats 8000000 in
theorem l8All_spec (w0 W : World) (a : Option Addr) (n p : Nat) (f : Nat → Nat → Dat) (r : Rd w0 0 (.slice a n p) (.sl n 10 f)) (q : Fits (.sl n 10 f) .exprs) (hb0 : Below w0.heap.size w0 W) (hBd : ∀ i, i < n → Bd (f i)) :
    Calls Tryz.prog 37 #[.slice a n p] W (BoolE (eachOk (Dat.sl n 10 f).els) W) := by
  have hn : n ≤ 9223372036854775807 := q.2.1
  have hB0 := Below.refl W.heap.size W
  unfold eachOk
  rw [els_all]
  go_enter Tryz.func37, Tryz.ntmps37
  go_wp2_with fail
  go_loopw [3] (fun i wr => ∃ j : Nat, j ≤ n ∧ i = .int .i64 (j : Int) ∧ Below W.heap.size W wr ∧ Hid ((List.range j).all (fun i => listOk [f i]) = true)) (fun i _ => n - (intOf i).toNat)
  case atStart => exact ⟨0, by omega, rfl, hB0, rfl⟩
  case round =>
    obtain ⟨j, hj, rfl, hB, HA⟩ := hrel
    by_cases hlt : j < n
    · have hlt2 : (j : Int) < (n : Int) := by omega
      have hbw := hb0.trans (hB.mono hb0.size)
      obtain ⟨g, o, rfl, -, hg, y0, y1, y2, y3, y4, y5, y6, y7, y8, y9, ⟨z0, z1, z2, z3, z4, z5, z6, z7, z8, z9⟩, ⟨e0, -⟩, ⟨e1, -⟩, e2, ⟨e3, -⟩, ⟨e4, -⟩, ⟨e5, b5⟩, ⟨e6, b6⟩, ⟨e7, b7⟩, ⟨r8, q8⟩, ⟨r9, q9⟩⟩ := row_exprs r q hlt
      obtain ⟨b8, m8, d8, rfl⟩ := r8.slice_of q8 rfl
      obtain ⟨b9, m9, d9, rfl⟩ := r9.slice_of q9 rfl
      have HC := exprOk_spec (f j) y0 y1 y2 y3 y4 y5 y6 y7 _ _ wr e0 e1 e2 e3 e4 e5 e6 e7 b5 b6 b7 (r8.later hbw) (r9.later hbw) (hBd j hlt)
      replace z0 := (hbw.cell (p := ⟨g, o + j * 10, none⟩) hg).trans z0
      replace z1 := (hbw.cell (p := ⟨g, o + j * 10 + 1, none⟩) hg).trans z1
      replace z2 := (hbw.cell (p := ⟨g, o + j * 10 + 2, none⟩) hg).trans z2
      replace z3 := (hbw.cell (p := ⟨g, o + j * 10 + 3, none⟩) hg).trans z3
      replace z4 := (hbw.cell (p := ⟨g, o + j * 10 + 4, none⟩) hg).trans z4
      replace z5 := (hbw.cell (p := ⟨g, o + j * 10 + 5, none⟩) hg).trans z5
      replace z6 := (hbw.cell (p := ⟨g, o + j * 10 + 6, none⟩) hg).trans z6
      replace z7 := (hbw.cell (p := ⟨g, o + j * 10 + 7, none⟩) hg).trans z7
      replace z8 := (hbw.cell (p := ⟨g, o + j * 10 + 8, none⟩) hg).trans z8
      replace z9 := (hbw.cell (p := ⟨g, o + j * 10 + 9, none⟩) hg).trans z9
      have HS := Lib.hid (all_succ j (fun i => listOk [f i]))
      have HF := Lib.hid (fun h => range_false (p := fun i => listOk [f i]) hlt h)
      clear e0 e1 e2 e3 e4 e5 e6 e7 r8 q8 r9 q9 hbw
      generalize listOk [f j] = pv at HC HS HF
      cases pv
      case true =>
        have HS2 : Hid ((List.range (j + 1)).all (fun i => listOk [f i]) = true) := by show _ = true; rw [HS.out, HA.out]; rfl
        go_wp2_with fail
        refine HC.mono ?_
        clear HC
        rintro e w2 ⟨rfl, hb⟩
        have hB3 := hB.trans (hb.mono hB.size)
        clear hb z0 z1 z2 z3 z4 z5 z6 z7 z8 z9
        go_wp2_with fail
        go_roundw
        case rel => exact ⟨j + 1, by omega, by go_num, hB3, HS2⟩
        case measure => simp [intOf]; omega
      case false =>
        have HS2 : Hid ((List.range n).all (fun i => listOk [f i]) = false) := HF.out rfl
        go_wp2_with fail
        refine HC.mono ?_
        clear HC
        rintro e w2 ⟨rfl, hb⟩
        have hB3 := hB.trans (hb.mono hB.size)
        clear hb z0 z1 z2 z3 z4 z5 z6 z7 z8 z9
        go_wp2_with fail
        go_ret
        exact ⟨by rw [HS2.out]; rfl, hB3⟩
    · have hlt2 : ¬ (j : Int) < (n : Int) := by omega
      obtain rfl : n = j := by omega
      go_wp2_with fail
      go_ret
      exact ⟨by rw [HA.out]; rfl, hB⟩
set_option maxRecDepth 100000 in
set_option maxHeartbeats 8000000 in
theorem l8Shape_spec (c : Nd) (us : List Value) (W : World) (hx : OutK stTy W us [c]) (hs : BdS c) :
    Calls Tryz.prog 13 #[.agg us.toArray] W (BoolE (shapeSt c) W) := by
  obtain ⟨c0, c1, a2, n2, p2, a3, n3, p3, a4, n4, p4, a5, n5, p5, c6, c7, a8, n8, p8, a9, n9, p9, a10, n10, p10, a11, n11, p11, rfl, ⟨e0, b0⟩, e1, ⟨r2, q2⟩, ⟨r3, q3⟩, ⟨r4, q4⟩, ⟨r5, q5⟩, ⟨e6, b6⟩, ⟨e7, b7⟩, ⟨r8, q8⟩, ⟨r9, q9⟩, ⟨r10, q10⟩, ⟨r11, q11⟩⟩ := hx.stmtRow
  have hk : (c 0).num = c0 := by rw [e0]; rfl
  have f1 : Fits (c 1) .bool := by rw [e1]; exact ⟨_, rfl⟩
  have f6 : Fits (c 6) .int := by rw [e6]; exact ⟨_, rfl, b6⟩
  have hQ := fun v (h : Below W.heap.size W v) => sameQ_of (cut 1 c) (cut 1 zeroSt) (sameAll (c 2)).i (sameAll (c 3)).f (sameAll (c 4)).s (sameAll (c 5)).e c1 _ _ _ _ c6 false (.slice none 0 0) (.slice none 0 0) (.slice none 0 0) (.slice none 0 0) 0 v e1 rfl e6 rfl (r2.later h) q2 (r3.later h) q3 (r4.later h) q4 (r5.later h) q5 (zd_rd v .items) (zd_fits rfl) (zd_rd v .sources) (zd_fits rfl) (zd_rd v .exprs) (zd_fits rfl) (zd_rd v .keys) (zd_fits rfl)
  rw [sameC_zero hs.q f1 f6] at hQ
  have hT := fun v => nameOk_spec c7 v b7
  have hQO := fun v (h : Below W.heap.size W v) => queryOk_spec (cut 1 c) c1 _ _ _ _ c6 v e6 (r2.later h) (r3.later h) (r4.later h) (r5.later h) hs.query
  have hbd := hs.bd
  have hm := hs.m
  have hL8 := rowsOf_le hs.f8
  have h10l : (c 10).els.length ≤ msr (c 10) := els_msr
  have h11l : (c 11).els.length ≤ msr (c 11) := els_msr
  have hB10 : ∀ e ∈ (c 10).els, Bd e := fun e he => hbd e (List.mem_append_right _ (List.mem_append_left _ (List.mem_append_right _ he)))
  have hB11 : ∀ e ∈ (c 11).els, Bd e := fun e he => hbd e (List.mem_append_right _ (List.mem_append_right _ he))
  have hB8r : ∀ r ∈ (c 8).els, ∀ e ∈ (r 0).els, Bd e := fun r hr e he => hbd e (List.mem_append_right _ (List.mem_append_left _ (List.mem_append_left _ (List.mem_flatMap.2 ⟨r, hr, he⟩))))
  obtain ⟨f8, e8, r8, q8⟩ := r8.openS q8 rfl
  obtain ⟨f9, e9, r9, q9⟩ := r9.openS q9 rfl
  obtain ⟨f10, e10, r10, q10⟩ := r10.openS q10 rfl
  obtain ⟨f11, e11, r11, q11⟩ := r11.openS q11 rfl
  replace e8 : c 8 = .sl n8 1 f8 := e8
  replace e9 : c 9 = .sl n9 1 f9 := e9
  replace e10 : c 10 = .sl n10 10 f10 := e10
  replace e11 : c 11 = .sl n11 10 f11 := e11
  replace r8 : Rd W 0 (.slice a8 n8 p8) (.sl n8 1 f8) := r8
  replace r9 : Rd W 0 (.slice a9 n9 p9) (.sl n9 1 f9) := r9
  replace r10 : Rd W 0 (.slice a10 n10 p10) (.sl n10 10 f10) := r10
  replace r11 : Rd W 0 (.slice a11 n11 p11) (.sl n11 10 f11) := r11
  replace q8 : Fits (.sl n8 1 f8) .rows := q8
  replace q9 : Fits (.sl n9 1 f9) .names := q9
  replace q10 : Fits (.sl n10 10 f10) .exprs := q10
  replace q11 : Fits (.sl n11 10 f11) .exprs := q11
  rw [e10] at hB10 h10l
  rw [e11] at hB11 h11l
  rw [e8] at hB8r hL8
  have hn9m : n9 ≤ msr (c 9) := by rw [e9]; have h := els_msr (d := .sl n9 1 f9); rw [els_len] at h; exact h
  rw [els_len] at h10l h11l hL8
  have hN8 : n8 ≤ 1048576 := by rw [e8] at hm; omega
  have hN9 : n9 ≤ 1048576 := by omega
  have hN10 : n10 ≤ 1048576 := by rw [e10] at hm; omega
  have hN11 : n11 ≤ 1048576 := by rw [e11] at hm; omega
  have mem : ∀ (n k : Nat) (f : Nat → Nat → Dat) (i : Nat), i < n → f i ∈ (Dat.sl n k f).els := fun n k f i hi => List.mem_map.2 ⟨i, List.mem_range.2 hi, rfl⟩
  have hA10 := fun v (h : Below W.heap.size W v) => l8All_spec W v a10 n10 p10 f10 r10 q10 h (fun i hi => hB10 _ (mem n10 10 f10 i hi))
  have hA11 := fun v (h : Below W.heap.size W v) => l8All_spec W v a11 n11 p11 f11 r11 q11 h (fun i hi => hB11 _ (mem n11 10 f11 i hi))
  have hB8 : ∀ j, j < n8 → ∀ (g : Nat → Nat → Dat) (m k : Nat), f8 j 0 = .sl m k g → ∀ i, i < m → Bd (g i) := fun j hj g m k e i hi => hB8r (f8 j) (mem n8 1 f8 j hj) (g i) (by rw [e]; exact mem m k g i hi)
  have hEM := empty_eq c7
  have l8 : (c 8).len = n8 := by rw [e8]; rfl
  have l9 : (c 9).len = n9 := by rw [e9]; rfl
  have l10 : (c 10).len = n10 := by rw [e10]; rfl
  have l11 : (c 11).len = n11 := by rw [e11]; rfl
  have ht : (c 7).txt = c7 := by rw [e7]; rfl
  have hI5 : ∀ w', Calls Tryz.prog 36 #[.int .i64 (n8 : Int), .int .i64 1, .int .i64 5] w' (PureE (.bool (decide (1 ≤ n8) && decide (n8 ≤ 5))) w') := fun w' => in_any _ _ _ _ w' (by rw [← Bool.decide_and, decide_eq_decide]; omega)
  have hI12 : ∀ w', Calls Tryz.prog 36 #[.int .i64 (n9 : Int), .int .i64 1, .int .i64 12] w' (PureE (.bool (decide (1 ≤ n9) && decide (n9 ≤ 12))) w') := fun w' => in_any _ _ _ _ w' (by rw [← Bool.decide_and, decide_eq_decide]; omega)
  unfold shapeSt
  rw [l8, l9, l10, l11, e8, e9, e10, e11, ht, hk, els_all n8 1 f8, els_all n9 1 f9]
  have H8 := Lib.hid (And.intro r8 q8)
  have H9 := Lib.hid (And.intro r9 q9)
  have HB8 := Lib.hid hB8
  clear hx hs r2 q2 r3 q3 r4 q4 r5 q5 r10 q10 r11 q11 e0 e1 e6 e7 e8 e9 e10 e11 l8 l9 l10 l11 ht hk b0 b6 b7 hbd hB10 hB11 hB8r hL8 h10l h11l hn9m hm mem f1 f6
  generalize zeroQB (cut 1 c) = SQ at hQ ⊢
  generalize queryOk (cut 1 c) = QO at hQO ⊢
  generalize okLen c7.size = NM at hT ⊢
  generalize emptyB c7 = EM at hEM ⊢
  generalize eachOk (Dat.sl n10 10 f10).els = E10 at hA10 ⊢
  generalize eachOk (Dat.sl n11 10 f11).els = E11 at hA11 ⊢
  generalize (decide (1 ≤ n8) && decide (n8 ≤ 5)) = I5 at hI5 ⊢
  generalize (decide (1 ≤ n9) && decide (n9 ≤ 12)) = I12 at hI12 ⊢
  by_cases k1 : c0 = 1
  · subst k1
    rw [if_pos rfl]
    clear r8 q8 r9 q9 hB8 hA10 hA11 hI5 hI12 H8 H9 HB8
    cases QO
    · rw [Bool.false_and]
      have RA := RowAt.new W 42 #[.int .i64 1, .bool c1, .slice a2 n2 p2, .slice a3 n3 p3, .slice a4 n4 p4, .slice a5 n5 p5, .int .i64 c6, .string c7, .slice a8 n8 p8, .slice a9 n9 p9, .slice a10 n10 p10, .slice a11 n11 p11]
      have hal : Below W.heap.size W (W.alloc (.cells #[.int .i64 1, .bool c1, .slice a2 n2 p2, .slice a3 n3 p3, .slice a4 n4 p4, .slice a5 n5 p5, .int .i64 c6, .string c7, .slice a8 n8 p8, .slice a9 n9 p9, .slice a10 n10 p10, .slice a11 n11 p11] 42)) := (Below.refl _ _).alloc (Nat.le_refl _) _
      go_enter Tryz.func13, Tryz.ntmps13
      go_upto_region 1 with fail
      generalize W.alloc (.cells #[.int .i64 1, .bool c1, .slice a2 n2 p2, .slice a3 n3 p3, .slice a4 n4 p4, .slice a5 n5 p5, .int .i64 c6, .string c7, .slice a8 n8 p8, .slice a9 n9 p9, .slice a10 n10 p10, .slice a11 n11 p11] 42) = w1 at RA hal ⊢
      have x0 := RA.cell (i := 0) (v := .int .i64 1) rfl
      have x1 := RA.cell (i := 1) (v := .bool c1) rfl
      have x2 := RA.cell (i := 2) (v := .slice a2 n2 p2) rfl
      have x3 := RA.cell (i := 3) (v := .slice a3 n3 p3) rfl
      have x4 := RA.cell (i := 4) (v := .slice a4 n4 p4) rfl
      have x5 := RA.cell (i := 5) (v := .slice a5 n5 p5) rfl
      have x6 := RA.cell (i := 6) (v := .int .i64 c6) rfl
      have x7 := RA.cell (i := 7) (v := .string c7) rfl
      have x8 := RA.cell (i := 8) (v := .slice a8 n8 p8) rfl
      have x9 := RA.cell (i := 9) (v := .slice a9 n9 p9) rfl
      have x10 := RA.cell (i := 10) (v := .slice a10 n10 p10) rfl
      have x11 := RA.cell (i := 11) (v := .slice a11 n11 p11) rfl
      go_wp2_with fail
      refine (hQ w1 hal).mono ?_
      rintro e w2 ⟨rfl, hb⟩
      replace RA := RA.later hb
      replace hal := hal.trans (hb.mono hal.size)
      clear hb
      clear x0 x1 x2 x3 x4 x5 x6 x7 x8 x9 x10 x11
      have x0 := RA.cell (i := 0) (v := .int .i64 1) rfl
      have x1 := RA.cell (i := 1) (v := .bool c1) rfl
      have x2 := RA.cell (i := 2) (v := .slice a2 n2 p2) rfl
      have x3 := RA.cell (i := 3) (v := .slice a3 n3 p3) rfl
      have x4 := RA.cell (i := 4) (v := .slice a4 n4 p4) rfl
      have x5 := RA.cell (i := 5) (v := .slice a5 n5 p5) rfl
      have x6 := RA.cell (i := 6) (v := .int .i64 c6) rfl
      have x7 := RA.cell (i := 7) (v := .string c7) rfl
      have x8 := RA.cell (i := 8) (v := .slice a8 n8 p8) rfl
      have x9 := RA.cell (i := 9) (v := .slice a9 n9 p9) rfl
      have x10 := RA.cell (i := 10) (v := .slice a10 n10 p10) rfl
      have x11 := RA.cell (i := 11) (v := .slice a11 n11 p11) rfl
      go_wp2_with fail
      refine (hT _).mono ?_
      rintro e w3 ⟨rfl, hw3⟩
      subst hw3
      go_upto_region 3 with fail
      have X3 := lat_cell x3
      have X4 := lat_cell x4
      have X5 := lat_cell x5
      have X6 := lat_cell x6
      have X8 := lat_cell x8
      have X9 := lat_cell x9
      have X10 := lat_cell x10
      have X11 := lat_cell x11
      refine region_lat (by kernel_rfl) (by kernel_rfl) ?_
      iterate 16 (go_big_quiet_step (fail))
      refine wpQuiet_nil ?_
      rintro _ ⟨nq, rfl⟩
      replace RA := RA.later (lat_below w3 nq)
      replace hal := hal.trans ((lat_below w3 nq).mono hal.size)
      clear X3 X4 X5 X6 X8 X9 X10 X11 hQ hT
      clear x0 x1 x2 x3 x4 x5 x6 x7 x8 x9 x10 x11
      generalize lat w3 nq = w4 at RA hal ⊢
      have x0 := RA.cell (i := 0) (v := .int .i64 1) rfl
      have x1 := RA.cell (i := 1) (v := .bool c1) rfl
      have x2 := RA.cell (i := 2) (v := .slice a2 n2 p2) rfl
      have x3 := RA.cell (i := 3) (v := .slice a3 n3 p3) rfl
      have x4 := RA.cell (i := 4) (v := .slice a4 n4 p4) rfl
      have x5 := RA.cell (i := 5) (v := .slice a5 n5 p5) rfl
      have x6 := RA.cell (i := 6) (v := .int .i64 c6) rfl
      have x7 := RA.cell (i := 7) (v := .string c7) rfl
      have x8 := RA.cell (i := 8) (v := .slice a8 n8 p8) rfl
      have x9 := RA.cell (i := 9) (v := .slice a9 n9 p9) rfl
      have x10 := RA.cell (i := 10) (v := .slice a10 n10 p10) rfl
      have x11 := RA.cell (i := 11) (v := .slice a11 n11 p11) rfl
      go_wp2_with fail
      refine (hQO _ hal).mono ?_
      rintro e w9 ⟨rfl, hb⟩
      replace RA := RA.later hb
      replace hal := hal.trans (hb.mono hal.size)
      clear hb
      clear x0 x1 x2 x3 x4 x5 x6 x7 x8 x9 x10 x11
      have x0 := RA.cell (i := 0) (v := .int .i64 1) rfl
      have x1 := RA.cell (i := 1) (v := .bool c1) rfl
      have x2 := RA.cell (i := 2) (v := .slice a2 n2 p2) rfl
      have x3 := RA.cell (i := 3) (v := .slice a3 n3 p3) rfl
      have x4 := RA.cell (i := 4) (v := .slice a4 n4 p4) rfl
      have x5 := RA.cell (i := 5) (v := .slice a5 n5 p5) rfl
      have x6 := RA.cell (i := 6) (v := .int .i64 c6) rfl
      have x7 := RA.cell (i := 7) (v := .string c7) rfl
      have x8 := RA.cell (i := 8) (v := .slice a8 n8 p8) rfl
      have x9 := RA.cell (i := 9) (v := .slice a9 n9 p9) rfl
      have x10 := RA.cell (i := 10) (v := .slice a10 n10 p10) rfl
      have x11 := RA.cell (i := 11) (v := .slice a11 n11 p11) rfl
      go_wp2_with fail
      go_ret
      exact ⟨rfl, hal⟩
    · rw [Bool.true_and]
      cases EM
      · rw [Bool.false_and]
        have RA := RowAt.new W 42 #[.int .i64 1, .bool c1, .slice a2 n2 p2, .slice a3 n3 p3, .slice a4 n4 p4, .slice a5 n5 p5, .int .i64 c6, .string c7, .slice a8 n8 p8, .slice a9 n9 p9, .slice a10 n10 p10, .slice a11 n11 p11]
        have hal : Below W.heap.size W (W.alloc (.cells #[.int .i64 1, .bool c1, .slice a2 n2 p2, .slice a3 n3 p3, .slice a4 n4 p4, .slice a5 n5 p5, .int .i64 c6, .string c7, .slice a8 n8 p8, .slice a9 n9 p9, .slice a10 n10 p10, .slice a11 n11 p11] 42)) := (Below.refl _ _).alloc (Nat.le_refl _) _
        go_enter Tryz.func13, Tryz.ntmps13
        go_upto_region 1 with fail
        generalize W.alloc (.cells #[.int .i64 1, .bool c1, .slice a2 n2 p2, .slice a3 n3 p3, .slice a4 n4 p4, .slice a5 n5 p5, .int .i64 c6, .string c7, .slice a8 n8 p8, .slice a9 n9 p9, .slice a10 n10 p10, .slice a11 n11 p11] 42) = w1 at RA hal ⊢
        have x0 := RA.cell (i := 0) (v := .int .i64 1) rfl
        have x1 := RA.cell (i := 1) (v := .bool c1) rfl
        have x2 := RA.cell (i := 2) (v := .slice a2 n2 p2) rfl
        have x3 := RA.cell (i := 3) (v := .slice a3 n3 p3) rfl
        have x4 := RA.cell (i := 4) (v := .slice a4 n4 p4) rfl
        have x5 := RA.cell (i := 5) (v := .slice a5 n5 p5) rfl
        have x6 := RA.cell (i := 6) (v := .int .i64 c6) rfl
        have x7 := RA.cell (i := 7) (v := .string c7) rfl
        have x8 := RA.cell (i := 8) (v := .slice a8 n8 p8) rfl
        have x9 := RA.cell (i := 9) (v := .slice a9 n9 p9) rfl
        have x10 := RA.cell (i := 10) (v := .slice a10 n10 p10) rfl
        have x11 := RA.cell (i := 11) (v := .slice a11 n11 p11) rfl
        go_wp2_with fail
        refine (hQ w1 hal).mono ?_
        rintro e w2 ⟨rfl, hb⟩
        replace RA := RA.later hb
        replace hal := hal.trans (hb.mono hal.size)
        clear hb
        clear x0 x1 x2 x3 x4 x5 x6 x7 x8 x9 x10 x11
        have x0 := RA.cell (i := 0) (v := .int .i64 1) rfl
        have x1 := RA.cell (i := 1) (v := .bool c1) rfl
        have x2 := RA.cell (i := 2) (v := .slice a2 n2 p2) rfl
        have x3 := RA.cell (i := 3) (v := .slice a3 n3 p3) rfl
        have x4 := RA.cell (i := 4) (v := .slice a4 n4 p4) rfl
        have x5 := RA.cell (i := 5) (v := .slice a5 n5 p5) rfl
        have x6 := RA.cell (i := 6) (v := .int .i64 c6) rfl
        have x7 := RA.cell (i := 7) (v := .string c7) rfl
        have x8 := RA.cell (i := 8) (v := .slice a8 n8 p8) rfl
        have x9 := RA.cell (i := 9) (v := .slice a9 n9 p9) rfl
        have x10 := RA.cell (i := 10) (v := .slice a10 n10 p10) rfl
        have x11 := RA.cell (i := 11) (v := .slice a11 n11 p11) rfl
        go_wp2_with fail
        refine (hT _).mono ?_
        rintro e w3 ⟨rfl, hw3⟩
        subst hw3
        go_upto_region 3 with fail
        have X3 := lat_cell x3
        have X4 := lat_cell x4
        have X5 := lat_cell x5
        have X6 := lat_cell x6
        have X8 := lat_cell x8
        have X9 := lat_cell x9
        have X10 := lat_cell x10
        have X11 := lat_cell x11
        refine region_lat (by kernel_rfl) (by kernel_rfl) ?_
        iterate 16 (go_big_quiet_step (fail))
        refine wpQuiet_nil ?_
        rintro _ ⟨nq, rfl⟩
        replace RA := RA.later (lat_below w3 nq)
        replace hal := hal.trans ((lat_below w3 nq).mono hal.size)
        clear X3 X4 X5 X6 X8 X9 X10 X11 hQ hT
        clear x0 x1 x2 x3 x4 x5 x6 x7 x8 x9 x10 x11
        generalize lat w3 nq = w4 at RA hal ⊢
        have x0 := RA.cell (i := 0) (v := .int .i64 1) rfl
        have x1 := RA.cell (i := 1) (v := .bool c1) rfl
        have x2 := RA.cell (i := 2) (v := .slice a2 n2 p2) rfl
        have x3 := RA.cell (i := 3) (v := .slice a3 n3 p3) rfl
        have x4 := RA.cell (i := 4) (v := .slice a4 n4 p4) rfl
        have x5 := RA.cell (i := 5) (v := .slice a5 n5 p5) rfl
        have x6 := RA.cell (i := 6) (v := .int .i64 c6) rfl
        have x7 := RA.cell (i := 7) (v := .string c7) rfl
        have x8 := RA.cell (i := 8) (v := .slice a8 n8 p8) rfl
        have x9 := RA.cell (i := 9) (v := .slice a9 n9 p9) rfl
        have x10 := RA.cell (i := 10) (v := .slice a10 n10 p10) rfl
        have x11 := RA.cell (i := 11) (v := .slice a11 n11 p11) rfl
        go_wp2_with fail
        refine (hQO _ hal).mono ?_
        rintro e w9 ⟨rfl, hb⟩
        replace RA := RA.later hb
        replace hal := hal.trans (hb.mono hal.size)
        clear hb
        clear x0 x1 x2 x3 x4 x5 x6 x7 x8 x9 x10 x11
        have x0 := RA.cell (i := 0) (v := .int .i64 1) rfl
        have x1 := RA.cell (i := 1) (v := .bool c1) rfl
        have x2 := RA.cell (i := 2) (v := .slice a2 n2 p2) rfl
        have x3 := RA.cell (i := 3) (v := .slice a3 n3 p3) rfl
        have x4 := RA.cell (i := 4) (v := .slice a4 n4 p4) rfl
        have x5 := RA.cell (i := 5) (v := .slice a5 n5 p5) rfl
        have x6 := RA.cell (i := 6) (v := .int .i64 c6) rfl
        have x7 := RA.cell (i := 7) (v := .string c7) rfl
        have x8 := RA.cell (i := 8) (v := .slice a8 n8 p8) rfl
        have x9 := RA.cell (i := 9) (v := .slice a9 n9 p9) rfl
        have x10 := RA.cell (i := 10) (v := .slice a10 n10 p10) rfl
        have x11 := RA.cell (i := 11) (v := .slice a11 n11 p11) rfl
        go_wp2_with fail
        go_ret
        exact ⟨rfl, hal⟩
      · rw [Bool.true_and]
        by_cases gz : n8 + n9 + n10 + n11 = 0
        · obtain rfl : n8 = 0 := by omega
          obtain rfl : n9 = 0 := by omega
          obtain rfl : n10 = 0 := by omega
          obtain rfl : n11 = 0 := by omega
          clear gz
          have RA := RowAt.new W 42 #[.int .i64 1, .bool c1, .slice a2 n2 p2, .slice a3 n3 p3, .slice a4 n4 p4, .slice a5 n5 p5, .int .i64 c6, .string c7, .slice a8 0 p8, .slice a9 0 p9, .slice a10 0 p10, .slice a11 0 p11]
          have hal : Below W.heap.size W (W.alloc (.cells #[.int .i64 1, .bool c1, .slice a2 n2 p2, .slice a3 n3 p3, .slice a4 n4 p4, .slice a5 n5 p5, .int .i64 c6, .string c7, .slice a8 0 p8, .slice a9 0 p9, .slice a10 0 p10, .slice a11 0 p11] 42)) := (Below.refl _ _).alloc (Nat.le_refl _) _
          go_enter Tryz.func13, Tryz.ntmps13
          go_upto_region 1 with fail
          generalize W.alloc (.cells #[.int .i64 1, .bool c1, .slice a2 n2 p2, .slice a3 n3 p3, .slice a4 n4 p4, .slice a5 n5 p5, .int .i64 c6, .string c7, .slice a8 0 p8, .slice a9 0 p9, .slice a10 0 p10, .slice a11 0 p11] 42) = w1 at RA hal ⊢
          have x0 := RA.cell (i := 0) (v := .int .i64 1) rfl
          have x1 := RA.cell (i := 1) (v := .bool c1) rfl
          have x2 := RA.cell (i := 2) (v := .slice a2 n2 p2) rfl
          have x3 := RA.cell (i := 3) (v := .slice a3 n3 p3) rfl
          have x4 := RA.cell (i := 4) (v := .slice a4 n4 p4) rfl
          have x5 := RA.cell (i := 5) (v := .slice a5 n5 p5) rfl
          have x6 := RA.cell (i := 6) (v := .int .i64 c6) rfl
          have x7 := RA.cell (i := 7) (v := .string c7) rfl
          have x8 := RA.cell (i := 8) (v := .slice a8 0 p8) rfl
          have x9 := RA.cell (i := 9) (v := .slice a9 0 p9) rfl
          have x10 := RA.cell (i := 10) (v := .slice a10 0 p10) rfl
          have x11 := RA.cell (i := 11) (v := .slice a11 0 p11) rfl
          go_wp2_with fail
          refine (hQ w1 hal).mono ?_
          rintro e w2 ⟨rfl, hb⟩
          replace RA := RA.later hb
          replace hal := hal.trans (hb.mono hal.size)
          clear hb
          clear x0 x1 x2 x3 x4 x5 x6 x7 x8 x9 x10 x11
          have x0 := RA.cell (i := 0) (v := .int .i64 1) rfl
          have x1 := RA.cell (i := 1) (v := .bool c1) rfl
          have x2 := RA.cell (i := 2) (v := .slice a2 n2 p2) rfl
          have x3 := RA.cell (i := 3) (v := .slice a3 n3 p3) rfl
          have x4 := RA.cell (i := 4) (v := .slice a4 n4 p4) rfl
          have x5 := RA.cell (i := 5) (v := .slice a5 n5 p5) rfl
          have x6 := RA.cell (i := 6) (v := .int .i64 c6) rfl
          have x7 := RA.cell (i := 7) (v := .string c7) rfl
          have x8 := RA.cell (i := 8) (v := .slice a8 0 p8) rfl
          have x9 := RA.cell (i := 9) (v := .slice a9 0 p9) rfl
          have x10 := RA.cell (i := 10) (v := .slice a10 0 p10) rfl
          have x11 := RA.cell (i := 11) (v := .slice a11 0 p11) rfl
          go_wp2_with fail
          refine (hT _).mono ?_
          rintro e w3 ⟨rfl, hw3⟩
          subst hw3
          go_upto_region 3 with fail
          have X3 := lat_cell x3
          have X4 := lat_cell x4
          have X5 := lat_cell x5
          have X6 := lat_cell x6
          have X8 := lat_cell x8
          have X9 := lat_cell x9
          have X10 := lat_cell x10
          have X11 := lat_cell x11
          refine region_lat (by kernel_rfl) (by kernel_rfl) ?_
          iterate 16 (go_big_quiet_step (fail))
          refine wpQuiet_nil ?_
          rintro _ ⟨nq, rfl⟩
          replace RA := RA.later (lat_below w3 nq)
          replace hal := hal.trans ((lat_below w3 nq).mono hal.size)
          clear X3 X4 X5 X6 X8 X9 X10 X11 hQ hT
          clear x0 x1 x2 x3 x4 x5 x6 x7 x8 x9 x10 x11
          generalize lat w3 nq = w4 at RA hal ⊢
          have x0 := RA.cell (i := 0) (v := .int .i64 1) rfl
          have x1 := RA.cell (i := 1) (v := .bool c1) rfl
          have x2 := RA.cell (i := 2) (v := .slice a2 n2 p2) rfl
          have x3 := RA.cell (i := 3) (v := .slice a3 n3 p3) rfl
          have x4 := RA.cell (i := 4) (v := .slice a4 n4 p4) rfl
          have x5 := RA.cell (i := 5) (v := .slice a5 n5 p5) rfl
          have x6 := RA.cell (i := 6) (v := .int .i64 c6) rfl
          have x7 := RA.cell (i := 7) (v := .string c7) rfl
          have x8 := RA.cell (i := 8) (v := .slice a8 0 p8) rfl
          have x9 := RA.cell (i := 9) (v := .slice a9 0 p9) rfl
          have x10 := RA.cell (i := 10) (v := .slice a10 0 p10) rfl
          have x11 := RA.cell (i := 11) (v := .slice a11 0 p11) rfl
          go_wp2_with fail
          refine (hQO _ hal).mono ?_
          rintro e w9 ⟨rfl, hb⟩
          replace RA := RA.later hb
          replace hal := hal.trans (hb.mono hal.size)
          clear hb
          clear x0 x1 x2 x3 x4 x5 x6 x7 x8 x9 x10 x11
          have x0 := RA.cell (i := 0) (v := .int .i64 1) rfl
          have x1 := RA.cell (i := 1) (v := .bool c1) rfl
          have x2 := RA.cell (i := 2) (v := .slice a2 n2 p2) rfl
          have x3 := RA.cell (i := 3) (v := .slice a3 n3 p3) rfl
          have x4 := RA.cell (i := 4) (v := .slice a4 n4 p4) rfl
          have x5 := RA.cell (i := 5) (v := .slice a5 n5 p5) rfl
          have x6 := RA.cell (i := 6) (v := .int .i64 c6) rfl
          have x7 := RA.cell (i := 7) (v := .string c7) rfl
          have x8 := RA.cell (i := 8) (v := .slice a8 0 p8) rfl
          have x9 := RA.cell (i := 9) (v := .slice a9 0 p9) rfl
          have x10 := RA.cell (i := 10) (v := .slice a10 0 p10) rfl
          have x11 := RA.cell (i := 11) (v := .slice a11 0 p11) rfl
          go_wp2_with fail
          go_ret
          exact ⟨rfl, hal⟩
        · have s0 : (((n8 : Int) + (n9 : Int) + (n10 : Int) + (n11 : Int)) == 0) = false := by simp; omega
          have s1 : ((n8 + n9 + n10 + n11) == 0) = false := by simp; omega
          have s2 : ¬ ((n8 : Int) + (n9 : Int) + (n10 : Int) + (n11 : Int)) = 0 := by omega
          have s3 : decide (((n8 : Int) + (n9 : Int) + (n10 : Int) + (n11 : Int)) = 0) = false := by simp; omega
          have s4 : ¬ (n8 + n9 + n10 + n11) = 0 := by omega
          rw [s1]
          clear gz
          have RA := RowAt.new W 42 #[.int .i64 1, .bool c1, .slice a2 n2 p2, .slice a3 n3 p3, .slice a4 n4 p4, .slice a5 n5 p5, .int .i64 c6, .string c7, .slice a8 n8 p8, .slice a9 n9 p9, .slice a10 n10 p10, .slice a11 n11 p11]
          have hal : Below W.heap.size W (W.alloc (.cells #[.int .i64 1, .bool c1, .slice a2 n2 p2, .slice a3 n3 p3, .slice a4 n4 p4, .slice a5 n5 p5, .int .i64 c6, .string c7, .slice a8 n8 p8, .slice a9 n9 p9, .slice a10 n10 p10, .slice a11 n11 p11] 42)) := (Below.refl _ _).alloc (Nat.le_refl _) _
          go_enter Tryz.func13, Tryz.ntmps13
          go_upto_region 1 with fail
          generalize W.alloc (.cells #[.int .i64 1, .bool c1, .slice a2 n2 p2, .slice a3 n3 p3, .slice a4 n4 p4, .slice a5 n5 p5, .int .i64 c6, .string c7, .slice a8 n8 p8, .slice a9 n9 p9, .slice a10 n10 p10, .slice a11 n11 p11] 42) = w1 at RA hal ⊢
          have x0 := RA.cell (i := 0) (v := .int .i64 1) rfl
          have x1 := RA.cell (i := 1) (v := .bool c1) rfl
          have x2 := RA.cell (i := 2) (v := .slice a2 n2 p2) rfl
          have x3 := RA.cell (i := 3) (v := .slice a3 n3 p3) rfl
          have x4 := RA.cell (i := 4) (v := .slice a4 n4 p4) rfl
          have x5 := RA.cell (i := 5) (v := .slice a5 n5 p5) rfl
          have x6 := RA.cell (i := 6) (v := .int .i64 c6) rfl
          have x7 := RA.cell (i := 7) (v := .string c7) rfl
          have x8 := RA.cell (i := 8) (v := .slice a8 n8 p8) rfl
          have x9 := RA.cell (i := 9) (v := .slice a9 n9 p9) rfl
          have x10 := RA.cell (i := 10) (v := .slice a10 n10 p10) rfl
          have x11 := RA.cell (i := 11) (v := .slice a11 n11 p11) rfl
          go_wp2_with fail
          refine (hQ w1 hal).mono ?_
          rintro e w2 ⟨rfl, hb⟩
          replace RA := RA.later hb
          replace hal := hal.trans (hb.mono hal.size)
          clear hb
          clear x0 x1 x2 x3 x4 x5 x6 x7 x8 x9 x10 x11
          have x0 := RA.cell (i := 0) (v := .int .i64 1) rfl
          have x1 := RA.cell (i := 1) (v := .bool c1) rfl
          have x2 := RA.cell (i := 2) (v := .slice a2 n2 p2) rfl
          have x3 := RA.cell (i := 3) (v := .slice a3 n3 p3) rfl
          have x4 := RA.cell (i := 4) (v := .slice a4 n4 p4) rfl
          have x5 := RA.cell (i := 5) (v := .slice a5 n5 p5) rfl
          have x6 := RA.cell (i := 6) (v := .int .i64 c6) rfl
          have x7 := RA.cell (i := 7) (v := .string c7) rfl
          have x8 := RA.cell (i := 8) (v := .slice a8 n8 p8) rfl
          have x9 := RA.cell (i := 9) (v := .slice a9 n9 p9) rfl
          have x10 := RA.cell (i := 10) (v := .slice a10 n10 p10) rfl
          have x11 := RA.cell (i := 11) (v := .slice a11 n11 p11) rfl
          go_wp2_with fail
          refine (hT _).mono ?_
          rintro e w3 ⟨rfl, hw3⟩
          subst hw3
          go_upto_region 3 with fail
          have X3 := lat_cell x3
          have X4 := lat_cell x4
          have X5 := lat_cell x5
          have X6 := lat_cell x6
          have X8 := lat_cell x8
          have X9 := lat_cell x9
          have X10 := lat_cell x10
          have X11 := lat_cell x11
          refine region_lat (by kernel_rfl) (by kernel_rfl) ?_
          iterate 16 (go_big_quiet_step (fail))
          refine wpQuiet_nil ?_
          rintro _ ⟨nq, rfl⟩
          replace RA := RA.later (lat_below w3 nq)
          replace hal := hal.trans ((lat_below w3 nq).mono hal.size)
          clear X3 X4 X5 X6 X8 X9 X10 X11 hQ hT
          clear x0 x1 x2 x3 x4 x5 x6 x7 x8 x9 x10 x11
          generalize lat w3 nq = w4 at RA hal ⊢
          have x0 := RA.cell (i := 0) (v := .int .i64 1) rfl
          have x1 := RA.cell (i := 1) (v := .bool c1) rfl
          have x2 := RA.cell (i := 2) (v := .slice a2 n2 p2) rfl
          have x3 := RA.cell (i := 3) (v := .slice a3 n3 p3) rfl
          have x4 := RA.cell (i := 4) (v := .slice a4 n4 p4) rfl
          have x5 := RA.cell (i := 5) (v := .slice a5 n5 p5) rfl
          have x6 := RA.cell (i := 6) (v := .int .i64 c6) rfl
          have x7 := RA.cell (i := 7) (v := .string c7) rfl
          have x8 := RA.cell (i := 8) (v := .slice a8 n8 p8) rfl
          have x9 := RA.cell (i := 9) (v := .slice a9 n9 p9) rfl
          have x10 := RA.cell (i := 10) (v := .slice a10 n10 p10) rfl
          have x11 := RA.cell (i := 11) (v := .slice a11 n11 p11) rfl
          go_wp2_with fail
          refine (hQO _ hal).mono ?_
          rintro e w9 ⟨rfl, hb⟩
          replace RA := RA.later hb
          replace hal := hal.trans (hb.mono hal.size)
          clear hb
          clear x0 x1 x2 x3 x4 x5 x6 x7 x8 x9 x10 x11
          have x0 := RA.cell (i := 0) (v := .int .i64 1) rfl
          have x1 := RA.cell (i := 1) (v := .bool c1) rfl
          have x2 := RA.cell (i := 2) (v := .slice a2 n2 p2) rfl
          have x3 := RA.cell (i := 3) (v := .slice a3 n3 p3) rfl
          have x4 := RA.cell (i := 4) (v := .slice a4 n4 p4) rfl
          have x5 := RA.cell (i := 5) (v := .slice a5 n5 p5) rfl
          have x6 := RA.cell (i := 6) (v := .int .i64 c6) rfl
          have x7 := RA.cell (i := 7) (v := .string c7) rfl
          have x8 := RA.cell (i := 8) (v := .slice a8 n8 p8) rfl
          have x9 := RA.cell (i := 9) (v := .slice a9 n9 p9) rfl
          have x10 := RA.cell (i := 10) (v := .slice a10 n10 p10) rfl
          have x11 := RA.cell (i := 11) (v := .slice a11 n11 p11) rfl
          go_wp2_with fail
          go_ret
          exact ⟨rfl, hal⟩
  by_cases k2 : c0 = 2
  · subst k2
    rw [if_neg (by decide), if_pos rfl]
    clear hQO hEM hA10 hA11 hI12 r9 q9 H9
    have RA := RowAt.new W 42 #[.int .i64 2, .bool c1, .slice a2 n2 p2, .slice a3 n3 p3, .slice a4 n4 p4, .slice a5 n5 p5, .int .i64 c6, .string c7, .slice a8 n8 p8, .slice a9 n9 p9, .slice a10 n10 p10, .slice a11 n11 p11]
    have hal : Below W.heap.size W (W.alloc (.cells #[.int .i64 2, .bool c1, .slice a2 n2 p2, .slice a3 n3 p3, .slice a4 n4 p4, .slice a5 n5 p5, .int .i64 c6, .string c7, .slice a8 n8 p8, .slice a9 n9 p9, .slice a10 n10 p10, .slice a11 n11 p11] 42)) := (Below.refl _ _).alloc (Nat.le_refl _) _
    go_enter Tryz.func13, Tryz.ntmps13
    go_upto_region 1 with fail
    generalize W.alloc (.cells #[.int .i64 2, .bool c1, .slice a2 n2 p2, .slice a3 n3 p3, .slice a4 n4 p4, .slice a5 n5 p5, .int .i64 c6, .string c7, .slice a8 n8 p8, .slice a9 n9 p9, .slice a10 n10 p10, .slice a11 n11 p11] 42) = w1 at RA hal ⊢
    have x0 := RA.cell (i := 0) (v := .int .i64 2) rfl
    have x1 := RA.cell (i := 1) (v := .bool c1) rfl
    have x2 := RA.cell (i := 2) (v := .slice a2 n2 p2) rfl
    have x3 := RA.cell (i := 3) (v := .slice a3 n3 p3) rfl
    have x4 := RA.cell (i := 4) (v := .slice a4 n4 p4) rfl
    have x5 := RA.cell (i := 5) (v := .slice a5 n5 p5) rfl
    have x6 := RA.cell (i := 6) (v := .int .i64 c6) rfl
    have x7 := RA.cell (i := 7) (v := .string c7) rfl
    have x8 := RA.cell (i := 8) (v := .slice a8 n8 p8) rfl
    have x9 := RA.cell (i := 9) (v := .slice a9 n9 p9) rfl
    have x10 := RA.cell (i := 10) (v := .slice a10 n10 p10) rfl
    have x11 := RA.cell (i := 11) (v := .slice a11 n11 p11) rfl
    go_wp2_with fail
    refine (hQ w1 hal).mono ?_
    rintro e w2 ⟨rfl, hb⟩
    replace RA := RA.later hb
    replace hal := hal.trans (hb.mono hal.size)
    clear hb
    clear x0 x1 x2 x3 x4 x5 x6 x7 x8 x9 x10 x11
    have x0 := RA.cell (i := 0) (v := .int .i64 2) rfl
    have x1 := RA.cell (i := 1) (v := .bool c1) rfl
    have x2 := RA.cell (i := 2) (v := .slice a2 n2 p2) rfl
    have x3 := RA.cell (i := 3) (v := .slice a3 n3 p3) rfl
    have x4 := RA.cell (i := 4) (v := .slice a4 n4 p4) rfl
    have x5 := RA.cell (i := 5) (v := .slice a5 n5 p5) rfl
    have x6 := RA.cell (i := 6) (v := .int .i64 c6) rfl
    have x7 := RA.cell (i := 7) (v := .string c7) rfl
    have x8 := RA.cell (i := 8) (v := .slice a8 n8 p8) rfl
    have x9 := RA.cell (i := 9) (v := .slice a9 n9 p9) rfl
    have x10 := RA.cell (i := 10) (v := .slice a10 n10 p10) rfl
    have x11 := RA.cell (i := 11) (v := .slice a11 n11 p11) rfl
    go_wp2_with fail
    refine (hT _).mono ?_
    rintro e w3 ⟨rfl, hw3⟩
    subst hw3
    go_upto_region 3 with fail
    have X3 := lat_cell x3
    have X4 := lat_cell x4
    have X5 := lat_cell x5
    have X6 := lat_cell x6
    have X8 := lat_cell x8
    have X9 := lat_cell x9
    have X10 := lat_cell x10
    have X11 := lat_cell x11
    refine region_lat (by kernel_rfl) (by kernel_rfl) ?_
    iterate 16 (go_big_quiet_step (fail))
    refine wpQuiet_nil ?_
    rintro _ ⟨nq, rfl⟩
    replace RA := RA.later (lat_below w3 nq)
    replace hal := hal.trans ((lat_below w3 nq).mono hal.size)
    clear X3 X4 X5 X6 X8 X9 X10 X11 hQ hT
    clear x0 x1 x2 x3 x4 x5 x6 x7 x8 x9 x10 x11
    generalize lat w3 nq = w4 at RA hal ⊢
    have x0 := RA.cell (i := 0) (v := .int .i64 2) rfl
    have x1 := RA.cell (i := 1) (v := .bool c1) rfl
    have x2 := RA.cell (i := 2) (v := .slice a2 n2 p2) rfl
    have x3 := RA.cell (i := 3) (v := .slice a3 n3 p3) rfl
    have x4 := RA.cell (i := 4) (v := .slice a4 n4 p4) rfl
    have x5 := RA.cell (i := 5) (v := .slice a5 n5 p5) rfl
    have x6 := RA.cell (i := 6) (v := .int .i64 c6) rfl
    have x7 := RA.cell (i := 7) (v := .string c7) rfl
    have x8 := RA.cell (i := 8) (v := .slice a8 n8 p8) rfl
    have x9 := RA.cell (i := 9) (v := .slice a9 n9 p9) rfl
    have x10 := RA.cell (i := 10) (v := .slice a10 n10 p10) rfl
    have x11 := RA.cell (i := 11) (v := .slice a11 n11 p11) rfl
    go_wp2_with fail
    clear x0 x1 x2 x3 x4 x5 x6 x7 x8 x9 x10 x11
    go_loopw [9] (fun i wr => ∃ j : Nat, j ≤ n8 ∧ i = .int .i64 (j : Int) ∧ RowAt wr W.heap.size 42 #[.int .i64 2, .bool c1, .slice a2 n2 p2, .slice a3 n3 p3, .slice a4 n4 p4, .slice a5 n5 p5, .int .i64 c6, .string c7, .slice a8 n8 p8, .slice a9 n9 p9, .slice a10 n10 p10, .slice a11 n11 p11] ∧ Below W.heap.size W wr ∧ Hid ((List.range j).all (fun i => rowB (f8 i) && eachOk (f8 i 0).els) = true)) (fun i _ => n8 - (intOf i).toNat)
    case atStart => exact ⟨0, by omega, rfl, RA, hal, rfl⟩
    case round =>
      clear RA hal
      obtain ⟨j, hj, rfl, RA, hal, HA⟩ := hrel
      have x0 := RA.cell (i := 0) (v := .int .i64 2) rfl
      have x1 := RA.cell (i := 1) (v := .bool c1) rfl
      have x2 := RA.cell (i := 2) (v := .slice a2 n2 p2) rfl
      have x3 := RA.cell (i := 3) (v := .slice a3 n3 p3) rfl
      have x4 := RA.cell (i := 4) (v := .slice a4 n4 p4) rfl
      have x5 := RA.cell (i := 5) (v := .slice a5 n5 p5) rfl
      have x6 := RA.cell (i := 6) (v := .int .i64 c6) rfl
      have x7 := RA.cell (i := 7) (v := .string c7) rfl
      have x8 := RA.cell (i := 8) (v := .slice a8 n8 p8) rfl
      have x9 := RA.cell (i := 9) (v := .slice a9 n9 p9) rfl
      have x10 := RA.cell (i := 10) (v := .slice a10 n10 p10) rfl
      have x11 := RA.cell (i := 11) (v := .slice a11 n11 p11) rfl
      by_cases hlt : j < n8
      · have hlt2 : (j : Int) < (n8 : Int) := by omega
        obtain ⟨g, o, rfl, -, hg, y0, z0, r0, q0⟩ := row_rows r8 q8 hlt
        replace z0 := (hal.cell (p := ⟨g, o + j, none⟩) hg).trans z0
        obtain ⟨ya, yn, yp, rfl⟩ := r0.slice_of q0 rfl
        obtain ⟨g0, e0, r1, q1⟩ := r0.openS q0 rfl
        replace e0 : f8 j 0 = .sl yn 10 g0 := e0
        replace r1 : Rd W 0 (.slice ya yn yp) (.sl yn 10 g0) := r1
        replace q1 : Fits (.sl yn 10 g0) .exprs := q1
        have HI : ∀ w', Calls Tryz.prog 36 #[.int .i64 (yn : Int), .int .i64 1, .int .i64 12] w' (PureE (.bool (rowB (f8 j))) w') := fun w' => in_any _ _ _ _ w' (by
          unfold rowB
          rw [e0]
          show (decide (1 ≤ yn) && decide (yn ≤ 12)) = _
          rw [← Bool.decide_and, decide_eq_decide]
          omega)
        have HE : ∀ w', Below W.heap.size W w' → Calls Tryz.prog 37 #[.slice ya yn yp] w' (BoolE (eachOk (f8 j 0).els) w') := fun w' h => by
          rw [e0]
          exact l8All_spec W w' ya yn yp g0 r1 q1 h (fun i hi => hB8 j hlt g0 yn 10 e0 i hi)
        have HS := Lib.hid (all_succ j (fun i => rowB (f8 i) && eachOk (f8 i 0).els))
        have HF := Lib.hid (fun h => range_false (p := fun i => rowB (f8 i) && eachOk (f8 i 0).els) hlt h)
        clear e0 r1 q1 r0 q0 hg
        generalize rowB (f8 j) = RB at HI HS HF
        generalize eachOk (f8 j 0).els = EB at HE HS HF
        cases RB
        · have HS2 := Lib.hid (HF.out rfl)
          clear HE
          go_wp2_with fail
          refine (HI _).mono ?_
          rintro e w9 ⟨rfl, hw9⟩
          subst hw9
          go_wp2_with fail
          go_ret
          exact ⟨by rw [HS2.out, Bool.false_and] <;> rfl, hal⟩
        · cases EB
          · have HS2 := Lib.hid (HF.out rfl)
            go_wp2_with fail
            refine (HI _).mono ?_
            rintro e w9 ⟨rfl, hw9⟩
            subst hw9
            go_wp2_with fail
            refine (HE _ hal).mono ?_
            rintro e w9 ⟨rfl, hb⟩
            replace hal := hal.trans (hb.mono hal.size)
            go_wp2_with fail
            go_ret
            exact ⟨by rw [HS2.out, Bool.false_and] <;> rfl, hal⟩
          · have HS2 : Hid ((List.range (j + 1)).all (fun i => rowB (f8 i) && eachOk (f8 i 0).els) = true) := by show _ = true; rw [HS.out, HA.out]; rfl
            go_wp2_with fail
            refine (HI _).mono ?_
            rintro e w9 ⟨rfl, hw9⟩
            subst hw9
            go_wp2_with fail
            refine (HE _ hal).mono ?_
            rintro e w9 ⟨rfl, hb⟩
            replace RA := RA.later hb
            replace hal := hal.trans (hb.mono hal.size)
            clear hb HE HI z0 x0 x1 x2 x3 x4 x5 x6 x7 x8 x9 x10 x11
            go_wp2_with fail
            go_roundw
            case rel => exact ⟨j + 1, by omega, by go_num, RA, hal, HS2⟩
            case measure => simp [intOf]; omega
      · have hlt2 : ¬ (j : Int) < (n8 : Int) := by omega
        obtain rfl : n8 = j := by omega
        clear hj hlt
        cases SQ
        · go_wp2_with fail
          go_ret
          exact ⟨by first | (rw [HA.out, Bool.true_and, Bool.false_and] <;> rfl) | rfl, hal⟩
        · cases NM
          · go_wp2_with fail
            go_ret
            exact ⟨by first | (rw [HA.out, Bool.true_and, Bool.true_and, Bool.false_and] <;> rfl) | rfl, hal⟩
          · cases I5
            · go_wp2_with fail
              refine (hI5 _).mono ?_
              rintro e w9 ⟨rfl, hw9⟩
              subst hw9
              go_wp2_with fail
              go_ret
              exact ⟨by first | (rw [HA.out, Bool.true_and, Bool.true_and, Bool.true_and, Bool.false_and] <;> rfl) | rfl, hal⟩
            · go_wp2_with fail
              refine (hI5 _).mono ?_
              rintro e w9 ⟨rfl, hw9⟩
              subst hw9
              by_cases g3 : n9 + n10 + n11 = 0
              · obtain rfl : n9 = 0 := by omega
                obtain rfl : n10 = 0 := by omega
                obtain rfl : n11 = 0 := by omega
                clear g3
                go_wp2_with fail
                go_ret
                exact ⟨by first | (rw [HA.out, Bool.true_and, Bool.true_and, Bool.true_and, Bool.true_and] <;> rfl) | rfl, hal⟩
              · have s0 : (((n9 : Int) + (n10 : Int) + (n11 : Int)) == 0) = false := by simp; omega
                have s1 : ((n9 + n10 + n11) == 0) = false := by simp; omega
                have s2 : ¬ ((n9 : Int) + (n10 : Int) + (n11 : Int)) = 0 := by omega
                have s3 : decide (((n9 : Int) + (n10 : Int) + (n11 : Int)) = 0) = false := by simp; omega
                have s4 : ¬ (n9 + n10 + n11) = 0 := by omega
                clear g3
                go_wp2_with fail
                go_ret
                exact ⟨by first | (rw [HA.out, Bool.true_and, Bool.true_and, Bool.true_and, Bool.true_and, s1] <;> rfl) | rfl, hal⟩
  by_cases k3 : c0 = 3
  · subst k3
    rw [if_neg (by decide), if_neg (by decide), if_pos rfl]
    clear hQO hEM hI5 r8 q8 hB8 H8 HB8
    have RA := RowAt.new W 42 #[.int .i64 3, .bool c1, .slice a2 n2 p2, .slice a3 n3 p3, .slice a4 n4 p4, .slice a5 n5 p5, .int .i64 c6, .string c7, .slice a8 n8 p8, .slice a9 n9 p9, .slice a10 n10 p10, .slice a11 n11 p11]
    have hal : Below W.heap.size W (W.alloc (.cells #[.int .i64 3, .bool c1, .slice a2 n2 p2, .slice a3 n3 p3, .slice a4 n4 p4, .slice a5 n5 p5, .int .i64 c6, .string c7, .slice a8 n8 p8, .slice a9 n9 p9, .slice a10 n10 p10, .slice a11 n11 p11] 42)) := (Below.refl _ _).alloc (Nat.le_refl _) _
    go_enter Tryz.func13, Tryz.ntmps13
    go_upto_region 1 with fail
    generalize W.alloc (.cells #[.int .i64 3, .bool c1, .slice a2 n2 p2, .slice a3 n3 p3, .slice a4 n4 p4, .slice a5 n5 p5, .int .i64 c6, .string c7, .slice a8 n8 p8, .slice a9 n9 p9, .slice a10 n10 p10, .slice a11 n11 p11] 42) = w1 at RA hal ⊢
    have x0 := RA.cell (i := 0) (v := .int .i64 3) rfl
    have x1 := RA.cell (i := 1) (v := .bool c1) rfl
    have x2 := RA.cell (i := 2) (v := .slice a2 n2 p2) rfl
    have x3 := RA.cell (i := 3) (v := .slice a3 n3 p3) rfl
    have x4 := RA.cell (i := 4) (v := .slice a4 n4 p4) rfl
    have x5 := RA.cell (i := 5) (v := .slice a5 n5 p5) rfl
    have x6 := RA.cell (i := 6) (v := .int .i64 c6) rfl
    have x7 := RA.cell (i := 7) (v := .string c7) rfl
    have x8 := RA.cell (i := 8) (v := .slice a8 n8 p8) rfl
    have x9 := RA.cell (i := 9) (v := .slice a9 n9 p9) rfl
    have x10 := RA.cell (i := 10) (v := .slice a10 n10 p10) rfl
    have x11 := RA.cell (i := 11) (v := .slice a11 n11 p11) rfl
    go_wp2_with fail
    refine (hQ w1 hal).mono ?_
    rintro e w2 ⟨rfl, hb⟩
    replace RA := RA.later hb
    replace hal := hal.trans (hb.mono hal.size)
    clear hb
    clear x0 x1 x2 x3 x4 x5 x6 x7 x8 x9 x10 x11
    have x0 := RA.cell (i := 0) (v := .int .i64 3) rfl
    have x1 := RA.cell (i := 1) (v := .bool c1) rfl
    have x2 := RA.cell (i := 2) (v := .slice a2 n2 p2) rfl
    have x3 := RA.cell (i := 3) (v := .slice a3 n3 p3) rfl
    have x4 := RA.cell (i := 4) (v := .slice a4 n4 p4) rfl
    have x5 := RA.cell (i := 5) (v := .slice a5 n5 p5) rfl
    have x6 := RA.cell (i := 6) (v := .int .i64 c6) rfl
    have x7 := RA.cell (i := 7) (v := .string c7) rfl
    have x8 := RA.cell (i := 8) (v := .slice a8 n8 p8) rfl
    have x9 := RA.cell (i := 9) (v := .slice a9 n9 p9) rfl
    have x10 := RA.cell (i := 10) (v := .slice a10 n10 p10) rfl
    have x11 := RA.cell (i := 11) (v := .slice a11 n11 p11) rfl
    go_wp2_with fail
    refine (hT _).mono ?_
    rintro e w3 ⟨rfl, hw3⟩
    subst hw3
    go_upto_region 3 with fail
    have X3 := lat_cell x3
    have X4 := lat_cell x4
    have X5 := lat_cell x5
    have X6 := lat_cell x6
    have X8 := lat_cell x8
    have X9 := lat_cell x9
    have X10 := lat_cell x10
    have X11 := lat_cell x11
    refine region_lat (by kernel_rfl) (by kernel_rfl) ?_
    iterate 16 (go_big_quiet_step (fail))
    refine wpQuiet_nil ?_
    rintro _ ⟨nq, rfl⟩
    replace RA := RA.later (lat_below w3 nq)
    replace hal := hal.trans ((lat_below w3 nq).mono hal.size)
    clear X3 X4 X5 X6 X8 X9 X10 X11 hQ hT
    clear x0 x1 x2 x3 x4 x5 x6 x7 x8 x9 x10 x11
    generalize lat w3 nq = w4 at RA hal ⊢
    have x0 := RA.cell (i := 0) (v := .int .i64 3) rfl
    have x1 := RA.cell (i := 1) (v := .bool c1) rfl
    have x2 := RA.cell (i := 2) (v := .slice a2 n2 p2) rfl
    have x3 := RA.cell (i := 3) (v := .slice a3 n3 p3) rfl
    have x4 := RA.cell (i := 4) (v := .slice a4 n4 p4) rfl
    have x5 := RA.cell (i := 5) (v := .slice a5 n5 p5) rfl
    have x6 := RA.cell (i := 6) (v := .int .i64 c6) rfl
    have x7 := RA.cell (i := 7) (v := .string c7) rfl
    have x8 := RA.cell (i := 8) (v := .slice a8 n8 p8) rfl
    have x9 := RA.cell (i := 9) (v := .slice a9 n9 p9) rfl
    have x10 := RA.cell (i := 10) (v := .slice a10 n10 p10) rfl
    have x11 := RA.cell (i := 11) (v := .slice a11 n11 p11) rfl
    go_wp2_with fail
    clear x0 x1 x2 x3 x4 x5 x6 x7 x8 x9 x10 x11
    go_loopw [10] (fun i wr => ∃ j : Nat, j ≤ n9 ∧ i = .int .i64 (j : Int) ∧ RowAt wr W.heap.size 42 #[.int .i64 3, .bool c1, .slice a2 n2 p2, .slice a3 n3 p3, .slice a4 n4 p4, .slice a5 n5 p5, .int .i64 c6, .string c7, .slice a8 n8 p8, .slice a9 n9 p9, .slice a10 n10 p10, .slice a11 n11 p11] ∧ Below W.heap.size W wr ∧ Hid ((List.range j).all (fun i => nameB' (f9 i)) = true)) (fun i _ => n9 - (intOf i).toNat)
    case atStart => exact ⟨0, by omega, rfl, RA, hal, rfl⟩
    case round =>
      clear RA hal
      obtain ⟨j, hj, rfl, RA, hal, HA⟩ := hrel
      have x0 := RA.cell (i := 0) (v := .int .i64 3) rfl
      have x1 := RA.cell (i := 1) (v := .bool c1) rfl
      have x2 := RA.cell (i := 2) (v := .slice a2 n2 p2) rfl
      have x3 := RA.cell (i := 3) (v := .slice a3 n3 p3) rfl
      have x4 := RA.cell (i := 4) (v := .slice a4 n4 p4) rfl
      have x5 := RA.cell (i := 5) (v := .slice a5 n5 p5) rfl
      have x6 := RA.cell (i := 6) (v := .int .i64 c6) rfl
      have x7 := RA.cell (i := 7) (v := .string c7) rfl
      have x8 := RA.cell (i := 8) (v := .slice a8 n8 p8) rfl
      have x9 := RA.cell (i := 9) (v := .slice a9 n9 p9) rfl
      have x10 := RA.cell (i := 10) (v := .slice a10 n10 p10) rfl
      have x11 := RA.cell (i := 11) (v := .slice a11 n11 p11) rfl
      by_cases hlt : j < n9
      · have hlt2 : (j : Int) < (n9 : Int) := by omega
        obtain ⟨g, o, rfl, -, hg, s, z0, e0, hs⟩ := row_names r9 q9 hlt
        replace z0 := (hal.cell (p := ⟨g, o + j, none⟩) hg).trans z0
        have HC : ∀ w', Calls Tryz.prog 34 #[.string s] w' (PureE (.bool (nameB' (f9 j))) w') := fun w' => by
          have h := nameOk_spec s w' hs
          unfold nameB'
          rw [e0]
          exact h
        have HS := Lib.hid (all_succ j (fun i => nameB' (f9 i)))
        have HF := Lib.hid (fun h => range_false (p := fun i => nameB' (f9 i)) hlt h)
        clear e0 hs hg
        generalize nameB' (f9 j) = NB at HC HS HF
        cases NB
        · have HS2 := Lib.hid (HF.out rfl)
          go_wp2_with fail
          refine (HC _).mono ?_
          rintro e w9 ⟨rfl, hw9⟩
          subst hw9
          go_wp2_with fail
          go_ret
          exact ⟨by rw [HS2.out, Bool.false_and] <;> rfl, hal⟩
        · have HS2 : Hid ((List.range (j + 1)).all (fun i => nameB' (f9 i)) = true) := by show _ = true; rw [HS.out, HA.out]; rfl
          go_wp2_with fail
          refine (HC _).mono ?_
          rintro e w9 ⟨rfl, hw9⟩
          subst hw9
          clear HC z0 x0 x1 x2 x3 x4 x5 x6 x7 x8 x9 x10 x11
          go_wp2_with fail
          go_roundw
          case rel => exact ⟨j + 1, by omega, by go_num, RA, hal, HS2⟩
          case measure => simp [intOf]; omega
      · have hlt2 : ¬ (j : Int) < (n9 : Int) := by omega
        obtain rfl : n9 = j := by omega
        clear hj hlt
        cases SQ
        · go_wp2_with fail
          go_ret
          exact ⟨by first | (rw [HA.out, Bool.true_and, Bool.false_and] <;> rfl) | rfl, hal⟩
        · cases NM
          · go_wp2_with fail
            go_ret
            exact ⟨by first | (rw [HA.out, Bool.true_and, Bool.true_and, Bool.false_and] <;> rfl) | rfl, hal⟩
          · by_cases g2 : n8 = 0
            · have f2_0 : ((n8 : Int) == (0 : Int)) = true := by simp; omega
              have f2_1 : (n8 == 0) = true := by simp; omega
              have f2_2 : decide ((n8 : Int) = (0 : Int)) = true := by simp; omega
              clear g2
              cases I12
              · go_wp2_with fail
                refine (hI12 _).mono ?_
                rintro e w9 ⟨rfl, hw9⟩
                subst hw9
                go_wp2_with fail
                go_ret
                exact ⟨by first | (rw [HA.out, Bool.true_and, Bool.true_and, Bool.true_and, f2_1, Bool.true_and, Bool.false_and] <;> rfl) | rfl, hal⟩
              · go_wp2_with fail
                refine (hI12 _).mono ?_
                rintro e w9 ⟨rfl, hw9⟩
                subst hw9
                by_cases g4 : n10 = n9
                · have f4_0 : ((n10 : Int) == (n9 : Int)) = true := by simp; omega
                  have f4_1 : (n10 == n9) = true := by simp; omega
                  have f4_2 : decide ((n10 : Int) = (n9 : Int)) = true := by simp; omega
                  clear g4
                  by_cases g5 : n11 ≤ 1
                  · have f5_0 : decide ((n11 : Int) ≤ (1 : Int)) = true := by simp; omega
                    have f5_1 : decide (n11 ≤ 1) = true := by simp; omega
                    clear g5
                    cases E10
                    · go_wp2_with fail
                      refine (hA10 _ hal).mono ?_
                      rintro e w9 ⟨rfl, hb⟩
                      replace RA := RA.later hb
                      replace hal := hal.trans (hb.mono hal.size)
                      clear hb
                      clear x0 x1 x2 x3 x4 x5 x6 x7 x8 x9 x10 x11
                      have x0 := RA.cell (i := 0) (v := .int .i64 3) rfl
                      have x1 := RA.cell (i := 1) (v := .bool c1) rfl
                      have x2 := RA.cell (i := 2) (v := .slice a2 n2 p2) rfl
                      have x3 := RA.cell (i := 3) (v := .slice a3 n3 p3) rfl
                      have x4 := RA.cell (i := 4) (v := .slice a4 n4 p4) rfl
                      have x5 := RA.cell (i := 5) (v := .slice a5 n5 p5) rfl
                      have x6 := RA.cell (i := 6) (v := .int .i64 c6) rfl
                      have x7 := RA.cell (i := 7) (v := .string c7) rfl
                      have x8 := RA.cell (i := 8) (v := .slice a8 n8 p8) rfl
                      have x9 := RA.cell (i := 9) (v := .slice a9 n9 p9) rfl
                      have x10 := RA.cell (i := 10) (v := .slice a10 n10 p10) rfl
                      have x11 := RA.cell (i := 11) (v := .slice a11 n11 p11) rfl
                      go_wp2_with fail
                      go_ret
                      exact ⟨by first | (rw [HA.out, Bool.true_and, Bool.true_and, Bool.true_and, f2_1, Bool.true_and, Bool.true_and, f4_1, Bool.true_and, f5_1, Bool.true_and, Bool.false_and] <;> rfl) | rfl, hal⟩
                    · go_wp2_with fail
                      refine (hA10 _ hal).mono ?_
                      rintro e w9 ⟨rfl, hb⟩
                      replace RA := RA.later hb
                      replace hal := hal.trans (hb.mono hal.size)
                      clear hb
                      clear x0 x1 x2 x3 x4 x5 x6 x7 x8 x9 x10 x11
                      have x0 := RA.cell (i := 0) (v := .int .i64 3) rfl
                      have x1 := RA.cell (i := 1) (v := .bool c1) rfl
                      have x2 := RA.cell (i := 2) (v := .slice a2 n2 p2) rfl
                      have x3 := RA.cell (i := 3) (v := .slice a3 n3 p3) rfl
                      have x4 := RA.cell (i := 4) (v := .slice a4 n4 p4) rfl
                      have x5 := RA.cell (i := 5) (v := .slice a5 n5 p5) rfl
                      have x6 := RA.cell (i := 6) (v := .int .i64 c6) rfl
                      have x7 := RA.cell (i := 7) (v := .string c7) rfl
                      have x8 := RA.cell (i := 8) (v := .slice a8 n8 p8) rfl
                      have x9 := RA.cell (i := 9) (v := .slice a9 n9 p9) rfl
                      have x10 := RA.cell (i := 10) (v := .slice a10 n10 p10) rfl
                      have x11 := RA.cell (i := 11) (v := .slice a11 n11 p11) rfl
                      go_wp2_with fail
                      refine (hA11 _ hal).mono ?_
                      rintro e w9 ⟨rfl, hb⟩
                      replace RA := RA.later hb
                      replace hal := hal.trans (hb.mono hal.size)
                      clear hb
                      clear x0 x1 x2 x3 x4 x5 x6 x7 x8 x9 x10 x11
                      have x0 := RA.cell (i := 0) (v := .int .i64 3) rfl
                      have x1 := RA.cell (i := 1) (v := .bool c1) rfl
                      have x2 := RA.cell (i := 2) (v := .slice a2 n2 p2) rfl
                      have x3 := RA.cell (i := 3) (v := .slice a3 n3 p3) rfl
                      have x4 := RA.cell (i := 4) (v := .slice a4 n4 p4) rfl
                      have x5 := RA.cell (i := 5) (v := .slice a5 n5 p5) rfl
                      have x6 := RA.cell (i := 6) (v := .int .i64 c6) rfl
                      have x7 := RA.cell (i := 7) (v := .string c7) rfl
                      have x8 := RA.cell (i := 8) (v := .slice a8 n8 p8) rfl
                      have x9 := RA.cell (i := 9) (v := .slice a9 n9 p9) rfl
                      have x10 := RA.cell (i := 10) (v := .slice a10 n10 p10) rfl
                      have x11 := RA.cell (i := 11) (v := .slice a11 n11 p11) rfl
                      go_wp2_with fail
                      go_ret
                      exact ⟨by first | (rw [HA.out, Bool.true_and, Bool.true_and, Bool.true_and, f2_1, Bool.true_and, Bool.true_and, f4_1, Bool.true_and, f5_1, Bool.true_and, Bool.true_and] <;> rfl) | rfl, hal⟩
                  · have f5_0 : decide ((n11 : Int) ≤ (1 : Int)) = false := by simp; omega
                    have f5_1 : decide (n11 ≤ 1) = false := by simp; omega
                    clear g5
                    go_wp2_with fail
                    go_ret
                    exact ⟨by first | (rw [HA.out, Bool.true_and, Bool.true_and, Bool.true_and, f2_1, Bool.true_and, Bool.true_and, f4_1, Bool.true_and, f5_1, Bool.false_and] <;> rfl) | rfl, hal⟩
                · have f4_0 : ((n10 : Int) == (n9 : Int)) = false := by simp; omega
                  have f4_1 : (n10 == n9) = false := by simp; omega
                  have f4_2 : decide ((n10 : Int) = (n9 : Int)) = false := by simp; omega
                  have f4_3 : ¬ (n10 : Int) = (n9 : Int) := by omega
                  clear g4
                  go_wp2_with fail
                  go_ret
                  exact ⟨by first | (rw [HA.out, Bool.true_and, Bool.true_and, Bool.true_and, f2_1, Bool.true_and, Bool.true_and, f4_1, Bool.false_and] <;> rfl) | rfl, hal⟩
            · have f2_0 : ((n8 : Int) == (0 : Int)) = false := by simp; omega
              have f2_1 : (n8 == 0) = false := by simp; omega
              have f2_2 : decide ((n8 : Int) = (0 : Int)) = false := by simp; omega
              have f2_3 : ¬ (n8 : Int) = (0 : Int) := by omega
              clear g2
              go_wp2_with fail
              go_ret
              exact ⟨by first | (rw [HA.out, Bool.true_and, Bool.true_and, Bool.true_and, f2_1, Bool.false_and] <;> rfl) | rfl, hal⟩
  by_cases k4 : c0 = 4
  · subst k4
    rw [if_neg (by decide), if_neg (by decide), if_neg (by decide), if_pos rfl]
    clear hQO hEM hI5 hI12 r8 q8 r9 q9 hB8 hA10 H8 H9 HB8
    cases SQ
    · rw [Bool.false_and]
      have RA := RowAt.new W 42 #[.int .i64 4, .bool c1, .slice a2 n2 p2, .slice a3 n3 p3, .slice a4 n4 p4, .slice a5 n5 p5, .int .i64 c6, .string c7, .slice a8 n8 p8, .slice a9 n9 p9, .slice a10 n10 p10, .slice a11 n11 p11]
      have hal : Below W.heap.size W (W.alloc (.cells #[.int .i64 4, .bool c1, .slice a2 n2 p2, .slice a3 n3 p3, .slice a4 n4 p4, .slice a5 n5 p5, .int .i64 c6, .string c7, .slice a8 n8 p8, .slice a9 n9 p9, .slice a10 n10 p10, .slice a11 n11 p11] 42)) := (Below.refl _ _).alloc (Nat.le_refl _) _
      go_enter Tryz.func13, Tryz.ntmps13
      go_upto_region 1 with fail
      generalize W.alloc (.cells #[.int .i64 4, .bool c1, .slice a2 n2 p2, .slice a3 n3 p3, .slice a4 n4 p4, .slice a5 n5 p5, .int .i64 c6, .string c7, .slice a8 n8 p8, .slice a9 n9 p9, .slice a10 n10 p10, .slice a11 n11 p11] 42) = w1 at RA hal ⊢
      have x0 := RA.cell (i := 0) (v := .int .i64 4) rfl
      have x1 := RA.cell (i := 1) (v := .bool c1) rfl
      have x2 := RA.cell (i := 2) (v := .slice a2 n2 p2) rfl
      have x3 := RA.cell (i := 3) (v := .slice a3 n3 p3) rfl
      have x4 := RA.cell (i := 4) (v := .slice a4 n4 p4) rfl
      have x5 := RA.cell (i := 5) (v := .slice a5 n5 p5) rfl
      have x6 := RA.cell (i := 6) (v := .int .i64 c6) rfl
      have x7 := RA.cell (i := 7) (v := .string c7) rfl
      have x8 := RA.cell (i := 8) (v := .slice a8 n8 p8) rfl
      have x9 := RA.cell (i := 9) (v := .slice a9 n9 p9) rfl
      have x10 := RA.cell (i := 10) (v := .slice a10 n10 p10) rfl
      have x11 := RA.cell (i := 11) (v := .slice a11 n11 p11) rfl
      go_wp2_with fail
      refine (hQ w1 hal).mono ?_
      rintro e w2 ⟨rfl, hb⟩
      replace RA := RA.later hb
      replace hal := hal.trans (hb.mono hal.size)
      clear hb
      clear x0 x1 x2 x3 x4 x5 x6 x7 x8 x9 x10 x11
      have x0 := RA.cell (i := 0) (v := .int .i64 4) rfl
      have x1 := RA.cell (i := 1) (v := .bool c1) rfl
      have x2 := RA.cell (i := 2) (v := .slice a2 n2 p2) rfl
      have x3 := RA.cell (i := 3) (v := .slice a3 n3 p3) rfl
      have x4 := RA.cell (i := 4) (v := .slice a4 n4 p4) rfl
      have x5 := RA.cell (i := 5) (v := .slice a5 n5 p5) rfl
      have x6 := RA.cell (i := 6) (v := .int .i64 c6) rfl
      have x7 := RA.cell (i := 7) (v := .string c7) rfl
      have x8 := RA.cell (i := 8) (v := .slice a8 n8 p8) rfl
      have x9 := RA.cell (i := 9) (v := .slice a9 n9 p9) rfl
      have x10 := RA.cell (i := 10) (v := .slice a10 n10 p10) rfl
      have x11 := RA.cell (i := 11) (v := .slice a11 n11 p11) rfl
      go_wp2_with fail
      refine (hT _).mono ?_
      rintro e w3 ⟨rfl, hw3⟩
      subst hw3
      go_upto_region 3 with fail
      have X3 := lat_cell x3
      have X4 := lat_cell x4
      have X5 := lat_cell x5
      have X6 := lat_cell x6
      have X8 := lat_cell x8
      have X9 := lat_cell x9
      have X10 := lat_cell x10
      have X11 := lat_cell x11
      refine region_lat (by kernel_rfl) (by kernel_rfl) ?_
      iterate 16 (go_big_quiet_step (fail))
      refine wpQuiet_nil ?_
      rintro _ ⟨nq, rfl⟩
      replace RA := RA.later (lat_below w3 nq)
      replace hal := hal.trans ((lat_below w3 nq).mono hal.size)
      clear X3 X4 X5 X6 X8 X9 X10 X11 hQ hT
      clear x0 x1 x2 x3 x4 x5 x6 x7 x8 x9 x10 x11
      generalize lat w3 nq = w4 at RA hal ⊢
      have x0 := RA.cell (i := 0) (v := .int .i64 4) rfl
      have x1 := RA.cell (i := 1) (v := .bool c1) rfl
      have x2 := RA.cell (i := 2) (v := .slice a2 n2 p2) rfl
      have x3 := RA.cell (i := 3) (v := .slice a3 n3 p3) rfl
      have x4 := RA.cell (i := 4) (v := .slice a4 n4 p4) rfl
      have x5 := RA.cell (i := 5) (v := .slice a5 n5 p5) rfl
      have x6 := RA.cell (i := 6) (v := .int .i64 c6) rfl
      have x7 := RA.cell (i := 7) (v := .string c7) rfl
      have x8 := RA.cell (i := 8) (v := .slice a8 n8 p8) rfl
      have x9 := RA.cell (i := 9) (v := .slice a9 n9 p9) rfl
      have x10 := RA.cell (i := 10) (v := .slice a10 n10 p10) rfl
      have x11 := RA.cell (i := 11) (v := .slice a11 n11 p11) rfl
      go_wp2_with fail
      go_ret
      exact ⟨rfl, hal⟩
    · rw [Bool.true_and]
      cases NM
      · rw [Bool.false_and]
        have RA := RowAt.new W 42 #[.int .i64 4, .bool c1, .slice a2 n2 p2, .slice a3 n3 p3, .slice a4 n4 p4, .slice a5 n5 p5, .int .i64 c6, .string c7, .slice a8 n8 p8, .slice a9 n9 p9, .slice a10 n10 p10, .slice a11 n11 p11]
        have hal : Below W.heap.size W (W.alloc (.cells #[.int .i64 4, .bool c1, .slice a2 n2 p2, .slice a3 n3 p3, .slice a4 n4 p4, .slice a5 n5 p5, .int .i64 c6, .string c7, .slice a8 n8 p8, .slice a9 n9 p9, .slice a10 n10 p10, .slice a11 n11 p11] 42)) := (Below.refl _ _).alloc (Nat.le_refl _) _
        go_enter Tryz.func13, Tryz.ntmps13
        go_upto_region 1 with fail
        generalize W.alloc (.cells #[.int .i64 4, .bool c1, .slice a2 n2 p2, .slice a3 n3 p3, .slice a4 n4 p4, .slice a5 n5 p5, .int .i64 c6, .string c7, .slice a8 n8 p8, .slice a9 n9 p9, .slice a10 n10 p10, .slice a11 n11 p11] 42) = w1 at RA hal ⊢
        have x0 := RA.cell (i := 0) (v := .int .i64 4) rfl
        have x1 := RA.cell (i := 1) (v := .bool c1) rfl
        have x2 := RA.cell (i := 2) (v := .slice a2 n2 p2) rfl
        have x3 := RA.cell (i := 3) (v := .slice a3 n3 p3) rfl
        have x4 := RA.cell (i := 4) (v := .slice a4 n4 p4) rfl
        have x5 := RA.cell (i := 5) (v := .slice a5 n5 p5) rfl
        have x6 := RA.cell (i := 6) (v := .int .i64 c6) rfl
        have x7 := RA.cell (i := 7) (v := .string c7) rfl
        have x8 := RA.cell (i := 8) (v := .slice a8 n8 p8) rfl
        have x9 := RA.cell (i := 9) (v := .slice a9 n9 p9) rfl
        have x10 := RA.cell (i := 10) (v := .slice a10 n10 p10) rfl
        have x11 := RA.cell (i := 11) (v := .slice a11 n11 p11) rfl
        go_wp2_with fail
        refine (hQ w1 hal).mono ?_
        rintro e w2 ⟨rfl, hb⟩
        replace RA := RA.later hb
        replace hal := hal.trans (hb.mono hal.size)
        clear hb
        clear x0 x1 x2 x3 x4 x5 x6 x7 x8 x9 x10 x11
        have x0 := RA.cell (i := 0) (v := .int .i64 4) rfl
        have x1 := RA.cell (i := 1) (v := .bool c1) rfl
        have x2 := RA.cell (i := 2) (v := .slice a2 n2 p2) rfl
        have x3 := RA.cell (i := 3) (v := .slice a3 n3 p3) rfl
        have x4 := RA.cell (i := 4) (v := .slice a4 n4 p4) rfl
        have x5 := RA.cell (i := 5) (v := .slice a5 n5 p5) rfl
        have x6 := RA.cell (i := 6) (v := .int .i64 c6) rfl
        have x7 := RA.cell (i := 7) (v := .string c7) rfl
        have x8 := RA.cell (i := 8) (v := .slice a8 n8 p8) rfl
        have x9 := RA.cell (i := 9) (v := .slice a9 n9 p9) rfl
        have x10 := RA.cell (i := 10) (v := .slice a10 n10 p10) rfl
        have x11 := RA.cell (i := 11) (v := .slice a11 n11 p11) rfl
        go_wp2_with fail
        refine (hT _).mono ?_
        rintro e w3 ⟨rfl, hw3⟩
        subst hw3
        go_upto_region 3 with fail
        have X3 := lat_cell x3
        have X4 := lat_cell x4
        have X5 := lat_cell x5
        have X6 := lat_cell x6
        have X8 := lat_cell x8
        have X9 := lat_cell x9
        have X10 := lat_cell x10
        have X11 := lat_cell x11
        refine region_lat (by kernel_rfl) (by kernel_rfl) ?_
        iterate 16 (go_big_quiet_step (fail))
        refine wpQuiet_nil ?_
        rintro _ ⟨nq, rfl⟩
        replace RA := RA.later (lat_below w3 nq)
        replace hal := hal.trans ((lat_below w3 nq).mono hal.size)
        clear X3 X4 X5 X6 X8 X9 X10 X11 hQ hT
        clear x0 x1 x2 x3 x4 x5 x6 x7 x8 x9 x10 x11
        generalize lat w3 nq = w4 at RA hal ⊢
        have x0 := RA.cell (i := 0) (v := .int .i64 4) rfl
        have x1 := RA.cell (i := 1) (v := .bool c1) rfl
        have x2 := RA.cell (i := 2) (v := .slice a2 n2 p2) rfl
        have x3 := RA.cell (i := 3) (v := .slice a3 n3 p3) rfl
        have x4 := RA.cell (i := 4) (v := .slice a4 n4 p4) rfl
        have x5 := RA.cell (i := 5) (v := .slice a5 n5 p5) rfl
        have x6 := RA.cell (i := 6) (v := .int .i64 c6) rfl
        have x7 := RA.cell (i := 7) (v := .string c7) rfl
        have x8 := RA.cell (i := 8) (v := .slice a8 n8 p8) rfl
        have x9 := RA.cell (i := 9) (v := .slice a9 n9 p9) rfl
        have x10 := RA.cell (i := 10) (v := .slice a10 n10 p10) rfl
        have x11 := RA.cell (i := 11) (v := .slice a11 n11 p11) rfl
        go_wp2_with fail
        go_ret
        exact ⟨rfl, hal⟩
      · rw [Bool.true_and]
        by_cases g2 : n8 + n9 + n10 = 0
        · obtain rfl : n8 = 0 := by omega
          obtain rfl : n9 = 0 := by omega
          obtain rfl : n10 = 0 := by omega
          clear g2
          rw [show ((0 + 0 + 0) == 0) = true from rfl, Bool.true_and]
          by_cases g3 : n11 ≤ 1
          · have f3_0 : decide ((n11 : Int) ≤ (1 : Int)) = true := by simp; omega
            have f3_1 : decide (n11 ≤ 1) = true := by simp; omega
            rw [f3_1, Bool.true_and]
            have RA := RowAt.new W 42 #[.int .i64 4, .bool c1, .slice a2 n2 p2, .slice a3 n3 p3, .slice a4 n4 p4, .slice a5 n5 p5, .int .i64 c6, .string c7, .slice a8 0 p8, .slice a9 0 p9, .slice a10 0 p10, .slice a11 n11 p11]
            have hal : Below W.heap.size W (W.alloc (.cells #[.int .i64 4, .bool c1, .slice a2 n2 p2, .slice a3 n3 p3, .slice a4 n4 p4, .slice a5 n5 p5, .int .i64 c6, .string c7, .slice a8 0 p8, .slice a9 0 p9, .slice a10 0 p10, .slice a11 n11 p11] 42)) := (Below.refl _ _).alloc (Nat.le_refl _) _
            go_enter Tryz.func13, Tryz.ntmps13
            go_upto_region 1 with fail
            generalize W.alloc (.cells #[.int .i64 4, .bool c1, .slice a2 n2 p2, .slice a3 n3 p3, .slice a4 n4 p4, .slice a5 n5 p5, .int .i64 c6, .string c7, .slice a8 0 p8, .slice a9 0 p9, .slice a10 0 p10, .slice a11 n11 p11] 42) = w1 at RA hal ⊢
            have x0 := RA.cell (i := 0) (v := .int .i64 4) rfl
            have x1 := RA.cell (i := 1) (v := .bool c1) rfl
            have x2 := RA.cell (i := 2) (v := .slice a2 n2 p2) rfl
            have x3 := RA.cell (i := 3) (v := .slice a3 n3 p3) rfl
            have x4 := RA.cell (i := 4) (v := .slice a4 n4 p4) rfl
            have x5 := RA.cell (i := 5) (v := .slice a5 n5 p5) rfl
            have x6 := RA.cell (i := 6) (v := .int .i64 c6) rfl
            have x7 := RA.cell (i := 7) (v := .string c7) rfl
            have x8 := RA.cell (i := 8) (v := .slice a8 0 p8) rfl
            have x9 := RA.cell (i := 9) (v := .slice a9 0 p9) rfl
            have x10 := RA.cell (i := 10) (v := .slice a10 0 p10) rfl
            have x11 := RA.cell (i := 11) (v := .slice a11 n11 p11) rfl
            go_wp2_with fail
            refine (hQ w1 hal).mono ?_
            rintro e w2 ⟨rfl, hb⟩
            replace RA := RA.later hb
            replace hal := hal.trans (hb.mono hal.size)
            clear hb
            clear x0 x1 x2 x3 x4 x5 x6 x7 x8 x9 x10 x11
            have x0 := RA.cell (i := 0) (v := .int .i64 4) rfl
            have x1 := RA.cell (i := 1) (v := .bool c1) rfl
            have x2 := RA.cell (i := 2) (v := .slice a2 n2 p2) rfl
            have x3 := RA.cell (i := 3) (v := .slice a3 n3 p3) rfl
            have x4 := RA.cell (i := 4) (v := .slice a4 n4 p4) rfl
            have x5 := RA.cell (i := 5) (v := .slice a5 n5 p5) rfl
            have x6 := RA.cell (i := 6) (v := .int .i64 c6) rfl
            have x7 := RA.cell (i := 7) (v := .string c7) rfl
            have x8 := RA.cell (i := 8) (v := .slice a8 0 p8) rfl
            have x9 := RA.cell (i := 9) (v := .slice a9 0 p9) rfl
            have x10 := RA.cell (i := 10) (v := .slice a10 0 p10) rfl
            have x11 := RA.cell (i := 11) (v := .slice a11 n11 p11) rfl
            go_wp2_with fail
            refine (hT _).mono ?_
            rintro e w3 ⟨rfl, hw3⟩
            subst hw3
            go_upto_region 3 with fail
            have X3 := lat_cell x3
            have X4 := lat_cell x4
            have X5 := lat_cell x5
            have X6 := lat_cell x6
            have X8 := lat_cell x8
            have X9 := lat_cell x9
            have X10 := lat_cell x10
            have X11 := lat_cell x11
            refine region_lat (by kernel_rfl) (by kernel_rfl) ?_
            iterate 16 (go_big_quiet_step (fail))
            refine wpQuiet_nil ?_
            rintro _ ⟨nq, rfl⟩
            replace RA := RA.later (lat_below w3 nq)
            replace hal := hal.trans ((lat_below w3 nq).mono hal.size)
            clear X3 X4 X5 X6 X8 X9 X10 X11 hQ hT
            clear x0 x1 x2 x3 x4 x5 x6 x7 x8 x9 x10 x11
            generalize lat w3 nq = w4 at RA hal ⊢
            have x0 := RA.cell (i := 0) (v := .int .i64 4) rfl
            have x1 := RA.cell (i := 1) (v := .bool c1) rfl
            have x2 := RA.cell (i := 2) (v := .slice a2 n2 p2) rfl
            have x3 := RA.cell (i := 3) (v := .slice a3 n3 p3) rfl
            have x4 := RA.cell (i := 4) (v := .slice a4 n4 p4) rfl
            have x5 := RA.cell (i := 5) (v := .slice a5 n5 p5) rfl
            have x6 := RA.cell (i := 6) (v := .int .i64 c6) rfl
            have x7 := RA.cell (i := 7) (v := .string c7) rfl
            have x8 := RA.cell (i := 8) (v := .slice a8 0 p8) rfl
            have x9 := RA.cell (i := 9) (v := .slice a9 0 p9) rfl
            have x10 := RA.cell (i := 10) (v := .slice a10 0 p10) rfl
            have x11 := RA.cell (i := 11) (v := .slice a11 n11 p11) rfl
            go_wp2_with fail
            refine (hA11 _ hal).mono ?_
            rintro e w9 ⟨rfl, hb⟩
            replace RA := RA.later hb
            replace hal := hal.trans (hb.mono hal.size)
            clear hb
            clear x0 x1 x2 x3 x4 x5 x6 x7 x8 x9 x10 x11
            have x0 := RA.cell (i := 0) (v := .int .i64 4) rfl
            have x1 := RA.cell (i := 1) (v := .bool c1) rfl
            have x2 := RA.cell (i := 2) (v := .slice a2 n2 p2) rfl
            have x3 := RA.cell (i := 3) (v := .slice a3 n3 p3) rfl
            have x4 := RA.cell (i := 4) (v := .slice a4 n4 p4) rfl
            have x5 := RA.cell (i := 5) (v := .slice a5 n5 p5) rfl
            have x6 := RA.cell (i := 6) (v := .int .i64 c6) rfl
            have x7 := RA.cell (i := 7) (v := .string c7) rfl
            have x8 := RA.cell (i := 8) (v := .slice a8 0 p8) rfl
            have x9 := RA.cell (i := 9) (v := .slice a9 0 p9) rfl
            have x10 := RA.cell (i := 10) (v := .slice a10 0 p10) rfl
            have x11 := RA.cell (i := 11) (v := .slice a11 n11 p11) rfl
            go_wp2_with fail
            go_ret
            exact ⟨rfl, hal⟩
          · have f3_0 : decide ((n11 : Int) ≤ (1 : Int)) = false := by simp; omega
            have f3_1 : decide (n11 ≤ 1) = false := by simp; omega
            rw [f3_1, Bool.false_and]
            have RA := RowAt.new W 42 #[.int .i64 4, .bool c1, .slice a2 n2 p2, .slice a3 n3 p3, .slice a4 n4 p4, .slice a5 n5 p5, .int .i64 c6, .string c7, .slice a8 0 p8, .slice a9 0 p9, .slice a10 0 p10, .slice a11 n11 p11]
            have hal : Below W.heap.size W (W.alloc (.cells #[.int .i64 4, .bool c1, .slice a2 n2 p2, .slice a3 n3 p3, .slice a4 n4 p4, .slice a5 n5 p5, .int .i64 c6, .string c7, .slice a8 0 p8, .slice a9 0 p9, .slice a10 0 p10, .slice a11 n11 p11] 42)) := (Below.refl _ _).alloc (Nat.le_refl _) _
            go_enter Tryz.func13, Tryz.ntmps13
            go_upto_region 1 with fail
            generalize W.alloc (.cells #[.int .i64 4, .bool c1, .slice a2 n2 p2, .slice a3 n3 p3, .slice a4 n4 p4, .slice a5 n5 p5, .int .i64 c6, .string c7, .slice a8 0 p8, .slice a9 0 p9, .slice a10 0 p10, .slice a11 n11 p11] 42) = w1 at RA hal ⊢
            have x0 := RA.cell (i := 0) (v := .int .i64 4) rfl
            have x1 := RA.cell (i := 1) (v := .bool c1) rfl
            have x2 := RA.cell (i := 2) (v := .slice a2 n2 p2) rfl
            have x3 := RA.cell (i := 3) (v := .slice a3 n3 p3) rfl
            have x4 := RA.cell (i := 4) (v := .slice a4 n4 p4) rfl
            have x5 := RA.cell (i := 5) (v := .slice a5 n5 p5) rfl
            have x6 := RA.cell (i := 6) (v := .int .i64 c6) rfl
            have x7 := RA.cell (i := 7) (v := .string c7) rfl
            have x8 := RA.cell (i := 8) (v := .slice a8 0 p8) rfl
            have x9 := RA.cell (i := 9) (v := .slice a9 0 p9) rfl
            have x10 := RA.cell (i := 10) (v := .slice a10 0 p10) rfl
            have x11 := RA.cell (i := 11) (v := .slice a11 n11 p11) rfl
            go_wp2_with fail
            refine (hQ w1 hal).mono ?_
            rintro e w2 ⟨rfl, hb⟩
            replace RA := RA.later hb
            replace hal := hal.trans (hb.mono hal.size)
            clear hb
            clear x0 x1 x2 x3 x4 x5 x6 x7 x8 x9 x10 x11
            have x0 := RA.cell (i := 0) (v := .int .i64 4) rfl
            have x1 := RA.cell (i := 1) (v := .bool c1) rfl
            have x2 := RA.cell (i := 2) (v := .slice a2 n2 p2) rfl
            have x3 := RA.cell (i := 3) (v := .slice a3 n3 p3) rfl
            have x4 := RA.cell (i := 4) (v := .slice a4 n4 p4) rfl
            have x5 := RA.cell (i := 5) (v := .slice a5 n5 p5) rfl
            have x6 := RA.cell (i := 6) (v := .int .i64 c6) rfl
            have x7 := RA.cell (i := 7) (v := .string c7) rfl
            have x8 := RA.cell (i := 8) (v := .slice a8 0 p8) rfl
            have x9 := RA.cell (i := 9) (v := .slice a9 0 p9) rfl
            have x10 := RA.cell (i := 10) (v := .slice a10 0 p10) rfl
            have x11 := RA.cell (i := 11) (v := .slice a11 n11 p11) rfl
            go_wp2_with fail
            refine (hT _).mono ?_
            rintro e w3 ⟨rfl, hw3⟩
            subst hw3
            go_upto_region 3 with fail
            have X3 := lat_cell x3
            have X4 := lat_cell x4
            have X5 := lat_cell x5
            have X6 := lat_cell x6
            have X8 := lat_cell x8
            have X9 := lat_cell x9
            have X10 := lat_cell x10
            have X11 := lat_cell x11
            refine region_lat (by kernel_rfl) (by kernel_rfl) ?_
            iterate 16 (go_big_quiet_step (fail))
            refine wpQuiet_nil ?_
            rintro _ ⟨nq, rfl⟩
            replace RA := RA.later (lat_below w3 nq)
            replace hal := hal.trans ((lat_below w3 nq).mono hal.size)
            clear X3 X4 X5 X6 X8 X9 X10 X11 hQ hT
            clear x0 x1 x2 x3 x4 x5 x6 x7 x8 x9 x10 x11
            generalize lat w3 nq = w4 at RA hal ⊢
            have x0 := RA.cell (i := 0) (v := .int .i64 4) rfl
            have x1 := RA.cell (i := 1) (v := .bool c1) rfl
            have x2 := RA.cell (i := 2) (v := .slice a2 n2 p2) rfl
            have x3 := RA.cell (i := 3) (v := .slice a3 n3 p3) rfl
            have x4 := RA.cell (i := 4) (v := .slice a4 n4 p4) rfl
            have x5 := RA.cell (i := 5) (v := .slice a5 n5 p5) rfl
            have x6 := RA.cell (i := 6) (v := .int .i64 c6) rfl
            have x7 := RA.cell (i := 7) (v := .string c7) rfl
            have x8 := RA.cell (i := 8) (v := .slice a8 0 p8) rfl
            have x9 := RA.cell (i := 9) (v := .slice a9 0 p9) rfl
            have x10 := RA.cell (i := 10) (v := .slice a10 0 p10) rfl
            have x11 := RA.cell (i := 11) (v := .slice a11 n11 p11) rfl
            go_wp2_with fail
            go_ret
            exact ⟨rfl, hal⟩
        · have s0 : (((n8 : Int) + (n9 : Int) + (n10 : Int)) == 0) = false := by simp; omega
          have s1 : ((n8 + n9 + n10) == 0) = false := by simp; omega
          have s2 : ¬ ((n8 : Int) + (n9 : Int) + (n10 : Int)) = 0 := by omega
          have s3 : decide (((n8 : Int) + (n9 : Int) + (n10 : Int)) = 0) = false := by simp; omega
          have s4 : ¬ (n8 + n9 + n10) = 0 := by omega
          rw [s1, Bool.false_and]
          clear g2
          have RA := RowAt.new W 42 #[.int .i64 4, .bool c1, .slice a2 n2 p2, .slice a3 n3 p3, .slice a4 n4 p4, .slice a5 n5 p5, .int .i64 c6, .string c7, .slice a8 n8 p8, .slice a9 n9 p9, .slice a10 n10 p10, .slice a11 n11 p11]
          have hal : Below W.heap.size W (W.alloc (.cells #[.int .i64 4, .bool c1, .slice a2 n2 p2, .slice a3 n3 p3, .slice a4 n4 p4, .slice a5 n5 p5, .int .i64 c6, .string c7, .slice a8 n8 p8, .slice a9 n9 p9, .slice a10 n10 p10, .slice a11 n11 p11] 42)) := (Below.refl _ _).alloc (Nat.le_refl _) _
          go_enter Tryz.func13, Tryz.ntmps13
          go_upto_region 1 with fail
          generalize W.alloc (.cells #[.int .i64 4, .bool c1, .slice a2 n2 p2, .slice a3 n3 p3, .slice a4 n4 p4, .slice a5 n5 p5, .int .i64 c6, .string c7, .slice a8 n8 p8, .slice a9 n9 p9, .slice a10 n10 p10, .slice a11 n11 p11] 42) = w1 at RA hal ⊢
          have x0 := RA.cell (i := 0) (v := .int .i64 4) rfl
          have x1 := RA.cell (i := 1) (v := .bool c1) rfl
          have x2 := RA.cell (i := 2) (v := .slice a2 n2 p2) rfl
          have x3 := RA.cell (i := 3) (v := .slice a3 n3 p3) rfl
          have x4 := RA.cell (i := 4) (v := .slice a4 n4 p4) rfl
          have x5 := RA.cell (i := 5) (v := .slice a5 n5 p5) rfl
          have x6 := RA.cell (i := 6) (v := .int .i64 c6) rfl
          have x7 := RA.cell (i := 7) (v := .string c7) rfl
          have x8 := RA.cell (i := 8) (v := .slice a8 n8 p8) rfl
          have x9 := RA.cell (i := 9) (v := .slice a9 n9 p9) rfl
          have x10 := RA.cell (i := 10) (v := .slice a10 n10 p10) rfl
          have x11 := RA.cell (i := 11) (v := .slice a11 n11 p11) rfl
          go_wp2_with fail
          refine (hQ w1 hal).mono ?_
          rintro e w2 ⟨rfl, hb⟩
          replace RA := RA.later hb
          replace hal := hal.trans (hb.mono hal.size)
          clear hb
          clear x0 x1 x2 x3 x4 x5 x6 x7 x8 x9 x10 x11
          have x0 := RA.cell (i := 0) (v := .int .i64 4) rfl
          have x1 := RA.cell (i := 1) (v := .bool c1) rfl
          have x2 := RA.cell (i := 2) (v := .slice a2 n2 p2) rfl
          have x3 := RA.cell (i := 3) (v := .slice a3 n3 p3) rfl
          have x4 := RA.cell (i := 4) (v := .slice a4 n4 p4) rfl
          have x5 := RA.cell (i := 5) (v := .slice a5 n5 p5) rfl
          have x6 := RA.cell (i := 6) (v := .int .i64 c6) rfl
          have x7 := RA.cell (i := 7) (v := .string c7) rfl
          have x8 := RA.cell (i := 8) (v := .slice a8 n8 p8) rfl
          have x9 := RA.cell (i := 9) (v := .slice a9 n9 p9) rfl
          have x10 := RA.cell (i := 10) (v := .slice a10 n10 p10) rfl
          have x11 := RA.cell (i := 11) (v := .slice a11 n11 p11) rfl
          go_wp2_with fail
          refine (hT _).mono ?_
          rintro e w3 ⟨rfl, hw3⟩
          subst hw3
          go_upto_region 3 with fail
          have X3 := lat_cell x3
          have X4 := lat_cell x4
          have X5 := lat_cell x5
          have X6 := lat_cell x6
          have X8 := lat_cell x8
          have X9 := lat_cell x9
          have X10 := lat_cell x10
          have X11 := lat_cell x11
          refine region_lat (by kernel_rfl) (by kernel_rfl) ?_
          iterate 16 (go_big_quiet_step (fail))
          refine wpQuiet_nil ?_
          rintro _ ⟨nq, rfl⟩
          replace RA := RA.later (lat_below w3 nq)
          replace hal := hal.trans ((lat_below w3 nq).mono hal.size)
          clear X3 X4 X5 X6 X8 X9 X10 X11 hQ hT
          clear x0 x1 x2 x3 x4 x5 x6 x7 x8 x9 x10 x11
          generalize lat w3 nq = w4 at RA hal ⊢
          have x0 := RA.cell (i := 0) (v := .int .i64 4) rfl
          have x1 := RA.cell (i := 1) (v := .bool c1) rfl
          have x2 := RA.cell (i := 2) (v := .slice a2 n2 p2) rfl
          have x3 := RA.cell (i := 3) (v := .slice a3 n3 p3) rfl
          have x4 := RA.cell (i := 4) (v := .slice a4 n4 p4) rfl
          have x5 := RA.cell (i := 5) (v := .slice a5 n5 p5) rfl
          have x6 := RA.cell (i := 6) (v := .int .i64 c6) rfl
          have x7 := RA.cell (i := 7) (v := .string c7) rfl
          have x8 := RA.cell (i := 8) (v := .slice a8 n8 p8) rfl
          have x9 := RA.cell (i := 9) (v := .slice a9 n9 p9) rfl
          have x10 := RA.cell (i := 10) (v := .slice a10 n10 p10) rfl
          have x11 := RA.cell (i := 11) (v := .slice a11 n11 p11) rfl
          go_wp2_with fail
          go_ret
          exact ⟨rfl, hal⟩
  · rw [if_neg k1, if_neg k2, if_neg k3, if_neg k4]
    have q1 : (c0 == 1) = false := by simpa using k1
    have q2 : (c0 == 2) = false := by simpa using k2
    have q3 : (c0 == 3) = false := by simpa using k3
    have q4 : (c0 == 4) = false := by simpa using k4
    clear hQO hEM hI5 hI12 r8 q8 r9 q9 hB8 hA10 hA11 H8 H9 HB8
    have RA := RowAt.new W 42 #[.int .i64 c0, .bool c1, .slice a2 n2 p2, .slice a3 n3 p3, .slice a4 n4 p4, .slice a5 n5 p5, .int .i64 c6, .string c7, .slice a8 n8 p8, .slice a9 n9 p9, .slice a10 n10 p10, .slice a11 n11 p11]
    have hal : Below W.heap.size W (W.alloc (.cells #[.int .i64 c0, .bool c1, .slice a2 n2 p2, .slice a3 n3 p3, .slice a4 n4 p4, .slice a5 n5 p5, .int .i64 c6, .string c7, .slice a8 n8 p8, .slice a9 n9 p9, .slice a10 n10 p10, .slice a11 n11 p11] 42)) := (Below.refl _ _).alloc (Nat.le_refl _) _
    go_enter Tryz.func13, Tryz.ntmps13
    go_upto_region 1 with fail
    generalize W.alloc (.cells #[.int .i64 c0, .bool c1, .slice a2 n2 p2, .slice a3 n3 p3, .slice a4 n4 p4, .slice a5 n5 p5, .int .i64 c6, .string c7, .slice a8 n8 p8, .slice a9 n9 p9, .slice a10 n10 p10, .slice a11 n11 p11] 42) = w1 at RA hal ⊢
    have x0 := RA.cell (i := 0) (v := .int .i64 c0) rfl
    have x1 := RA.cell (i := 1) (v := .bool c1) rfl
    have x2 := RA.cell (i := 2) (v := .slice a2 n2 p2) rfl
    have x3 := RA.cell (i := 3) (v := .slice a3 n3 p3) rfl
    have x4 := RA.cell (i := 4) (v := .slice a4 n4 p4) rfl
    have x5 := RA.cell (i := 5) (v := .slice a5 n5 p5) rfl
    have x6 := RA.cell (i := 6) (v := .int .i64 c6) rfl
    have x7 := RA.cell (i := 7) (v := .string c7) rfl
    have x8 := RA.cell (i := 8) (v := .slice a8 n8 p8) rfl
    have x9 := RA.cell (i := 9) (v := .slice a9 n9 p9) rfl
    have x10 := RA.cell (i := 10) (v := .slice a10 n10 p10) rfl
    have x11 := RA.cell (i := 11) (v := .slice a11 n11 p11) rfl
    go_wp2_with fail
    refine (hQ w1 hal).mono ?_
    rintro e w2 ⟨rfl, hb⟩
    replace RA := RA.later hb
    replace hal := hal.trans (hb.mono hal.size)
    clear hb
    clear x0 x1 x2 x3 x4 x5 x6 x7 x8 x9 x10 x11
    have x0 := RA.cell (i := 0) (v := .int .i64 c0) rfl
    have x1 := RA.cell (i := 1) (v := .bool c1) rfl
    have x2 := RA.cell (i := 2) (v := .slice a2 n2 p2) rfl
    have x3 := RA.cell (i := 3) (v := .slice a3 n3 p3) rfl
    have x4 := RA.cell (i := 4) (v := .slice a4 n4 p4) rfl
    have x5 := RA.cell (i := 5) (v := .slice a5 n5 p5) rfl
    have x6 := RA.cell (i := 6) (v := .int .i64 c6) rfl
    have x7 := RA.cell (i := 7) (v := .string c7) rfl
    have x8 := RA.cell (i := 8) (v := .slice a8 n8 p8) rfl
    have x9 := RA.cell (i := 9) (v := .slice a9 n9 p9) rfl
    have x10 := RA.cell (i := 10) (v := .slice a10 n10 p10) rfl
    have x11 := RA.cell (i := 11) (v := .slice a11 n11 p11) rfl
    go_wp2_with fail
    refine (hT _).mono ?_
    rintro e w3 ⟨rfl, hw3⟩
    subst hw3
    go_upto_region 3 with fail
    have X3 := lat_cell x3
    have X4 := lat_cell x4
    have X5 := lat_cell x5
    have X6 := lat_cell x6
    have X8 := lat_cell x8
    have X9 := lat_cell x9
    have X10 := lat_cell x10
    have X11 := lat_cell x11
    refine region_lat (by kernel_rfl) (by kernel_rfl) ?_
    iterate 16 (go_big_quiet_step (fail))
    refine wpQuiet_nil ?_
    rintro _ ⟨nq, rfl⟩
    replace RA := RA.later (lat_below w3 nq)
    replace hal := hal.trans ((lat_below w3 nq).mono hal.size)
    clear X3 X4 X5 X6 X8 X9 X10 X11 hQ hT
    clear x0 x1 x2 x3 x4 x5 x6 x7 x8 x9 x10 x11
    generalize lat w3 nq = w4 at RA hal ⊢
    have x0 := RA.cell (i := 0) (v := .int .i64 c0) rfl
    have x1 := RA.cell (i := 1) (v := .bool c1) rfl
    have x2 := RA.cell (i := 2) (v := .slice a2 n2 p2) rfl
    have x3 := RA.cell (i := 3) (v := .slice a3 n3 p3) rfl
    have x4 := RA.cell (i := 4) (v := .slice a4 n4 p4) rfl
    have x5 := RA.cell (i := 5) (v := .slice a5 n5 p5) rfl
    have x6 := RA.cell (i := 6) (v := .int .i64 c6) rfl
    have x7 := RA.cell (i := 7) (v := .string c7) rfl
    have x8 := RA.cell (i := 8) (v := .slice a8 n8 p8) rfl
    have x9 := RA.cell (i := 9) (v := .slice a9 n9 p9) rfl
    have x10 := RA.cell (i := 10) (v := .slice a10 n10 p10) rfl
    have x11 := RA.cell (i := 11) (v := .slice a11 n11 p11) rfl
    go_wp2_with fail
    go_ret
    exact ⟨rfl, hal⟩

set_option maxRecDepth 100000 in
set_option maxHeartbeats 8000000 in
theorem StmtOk_spec (c : Nd) (us : List Value) (W : World) (hx : OutK stTy W us [c]) (hs : BdS c) :
    Calls Tryz.prog 5 #[.agg us.toArray] W (BoolE (shapeSt c && (depL (stmtExprs c) && sizL (stmtExprs c))) W) := by
  have hS := fun v (h : Below W.heap.size W v) => l8Shape_spec c us v (hx.later h) hs
  obtain ⟨c0, c1, a2, n2, p2, a3, n3, p3, a4, n4, p4, a5, n5, p5, c6, c7, a8, n8, p8, a9, n9, p9, a10, n10, p10, a11, n11, p11, rfl, ⟨e0, b0⟩, e1, ⟨r2, q2⟩, ⟨r3, q3⟩, ⟨r4, q4⟩, ⟨r5, q5⟩, ⟨e6, b6⟩, ⟨e7, b7⟩, ⟨r8, q8⟩, ⟨r9, q9⟩, ⟨r10, q10⟩, ⟨r11, q11⟩⟩ := hx.stmtRow
  have hD := fun v (h : Below W.heap.size W v) => StmtDepth_spec c c0 c1 _ _ _ _ c6 c7 _ (.slice a9 n9 p9) _ _ v (r2.later h) (r3.later h) (r4.later h) (r5.later h) (r8.later h) (r10.later h) (r11.later h) hs
  have hZ := fun v (h : Below W.heap.size W v) => StmtSize_spec c c0 c1 _ _ _ _ c6 c7 _ (.slice a9 n9 p9) _ _ v (r2.later h) (r3.later h) (r4.later h) (r5.later h) (r8.later h) (r10.later h) (r11.later h) hs
  unfold depL sizL
  generalize depA.of ((stmtExprs c).map (foldE depA)) = dd at hD ⊢
  generalize sizA.of ((stmtExprs c).map (foldE sizA)) = ss at hZ ⊢
  generalize shapeSt c = SH at hS ⊢
  clear hx hs r2 q2 r3 q3 r4 q4 r5 q5 r8 q8 r9 q9 r10 q10 r11 q11 e0 e1 e6 e7 b0 b6 b7
  cases SH
  · rw [Bool.false_and]
    have RA := RowAt.new W 42 #[.int .i64 c0, .bool c1, .slice a2 n2 p2, .slice a3 n3 p3, .slice a4 n4 p4, .slice a5 n5 p5, .int .i64 c6, .string c7, .slice a8 n8 p8, .slice a9 n9 p9, .slice a10 n10 p10, .slice a11 n11 p11]
    have hal : Below W.heap.size W (W.alloc (.cells #[.int .i64 c0, .bool c1, .slice a2 n2 p2, .slice a3 n3 p3, .slice a4 n4 p4, .slice a5 n5 p5, .int .i64 c6, .string c7, .slice a8 n8 p8, .slice a9 n9 p9, .slice a10 n10 p10, .slice a11 n11 p11] 42)) := (Below.refl _ _).alloc (Nat.le_refl _) _
    go_enter Tryz.func5, Tryz.ntmps5
    go_upto_region 1 with fail
    generalize W.alloc (.cells #[.int .i64 c0, .bool c1, .slice a2 n2 p2, .slice a3 n3 p3, .slice a4 n4 p4, .slice a5 n5 p5, .int .i64 c6, .string c7, .slice a8 n8 p8, .slice a9 n9 p9, .slice a10 n10 p10, .slice a11 n11 p11] 42) = w1 at RA hal ⊢
    have x0 := RA.cell (i := 0) (v := .int .i64 c0) rfl
    have x1 := RA.cell (i := 1) (v := .bool c1) rfl
    have x2 := RA.cell (i := 2) (v := .slice a2 n2 p2) rfl
    have x3 := RA.cell (i := 3) (v := .slice a3 n3 p3) rfl
    have x4 := RA.cell (i := 4) (v := .slice a4 n4 p4) rfl
    have x5 := RA.cell (i := 5) (v := .slice a5 n5 p5) rfl
    have x6 := RA.cell (i := 6) (v := .int .i64 c6) rfl
    have x7 := RA.cell (i := 7) (v := .string c7) rfl
    have x8 := RA.cell (i := 8) (v := .slice a8 n8 p8) rfl
    have x9 := RA.cell (i := 9) (v := .slice a9 n9 p9) rfl
    have x10 := RA.cell (i := 10) (v := .slice a10 n10 p10) rfl
    have x11 := RA.cell (i := 11) (v := .slice a11 n11 p11) rfl
    go_wp2_with fail
    refine (hS _ hal).mono ?_
    rintro e w9 ⟨rfl, hb⟩
    replace RA := RA.later hb
    replace hal := hal.trans (hb.mono hal.size)
    clear hb
    clear x0 x1 x2 x3 x4 x5 x6 x7 x8 x9 x10 x11
    have x0 := RA.cell (i := 0) (v := .int .i64 c0) rfl
    have x1 := RA.cell (i := 1) (v := .bool c1) rfl
    have x2 := RA.cell (i := 2) (v := .slice a2 n2 p2) rfl
    have x3 := RA.cell (i := 3) (v := .slice a3 n3 p3) rfl
    have x4 := RA.cell (i := 4) (v := .slice a4 n4 p4) rfl
    have x5 := RA.cell (i := 5) (v := .slice a5 n5 p5) rfl
    have x6 := RA.cell (i := 6) (v := .int .i64 c6) rfl
    have x7 := RA.cell (i := 7) (v := .string c7) rfl
    have x8 := RA.cell (i := 8) (v := .slice a8 n8 p8) rfl
    have x9 := RA.cell (i := 9) (v := .slice a9 n9 p9) rfl
    have x10 := RA.cell (i := 10) (v := .slice a10 n10 p10) rfl
    have x11 := RA.cell (i := 11) (v := .slice a11 n11 p11) rfl
    go_wp2_with fail
    go_ret
    exact ⟨rfl, hal⟩
  · rw [Bool.true_and]
    by_cases g1 : dd ≤ 24
    · have d0 : decide ((dd : Int) ≤ (24 : Int)) = true := by simp; omega
      have d1 : decide (dd ≤ 24) = true := by simp; omega
      rw [d1, Bool.true_and]
      by_cases g2 : ss ≤ 200
      · have t0 : decide ((ss : Int) ≤ (200 : Int)) = true := by simp; omega
        have t1 : decide (ss ≤ 200) = true := by simp; omega
        rw [t1]
        clear g1 g2
        have RA := RowAt.new W 42 #[.int .i64 c0, .bool c1, .slice a2 n2 p2, .slice a3 n3 p3, .slice a4 n4 p4, .slice a5 n5 p5, .int .i64 c6, .string c7, .slice a8 n8 p8, .slice a9 n9 p9, .slice a10 n10 p10, .slice a11 n11 p11]
        have hal : Below W.heap.size W (W.alloc (.cells #[.int .i64 c0, .bool c1, .slice a2 n2 p2, .slice a3 n3 p3, .slice a4 n4 p4, .slice a5 n5 p5, .int .i64 c6, .string c7, .slice a8 n8 p8, .slice a9 n9 p9, .slice a10 n10 p10, .slice a11 n11 p11] 42)) := (Below.refl _ _).alloc (Nat.le_refl _) _
        go_enter Tryz.func5, Tryz.ntmps5
        go_upto_region 1 with fail
        generalize W.alloc (.cells #[.int .i64 c0, .bool c1, .slice a2 n2 p2, .slice a3 n3 p3, .slice a4 n4 p4, .slice a5 n5 p5, .int .i64 c6, .string c7, .slice a8 n8 p8, .slice a9 n9 p9, .slice a10 n10 p10, .slice a11 n11 p11] 42) = w1 at RA hal ⊢
        have x0 := RA.cell (i := 0) (v := .int .i64 c0) rfl
        have x1 := RA.cell (i := 1) (v := .bool c1) rfl
        have x2 := RA.cell (i := 2) (v := .slice a2 n2 p2) rfl
        have x3 := RA.cell (i := 3) (v := .slice a3 n3 p3) rfl
        have x4 := RA.cell (i := 4) (v := .slice a4 n4 p4) rfl
        have x5 := RA.cell (i := 5) (v := .slice a5 n5 p5) rfl
        have x6 := RA.cell (i := 6) (v := .int .i64 c6) rfl
        have x7 := RA.cell (i := 7) (v := .string c7) rfl
        have x8 := RA.cell (i := 8) (v := .slice a8 n8 p8) rfl
        have x9 := RA.cell (i := 9) (v := .slice a9 n9 p9) rfl
        have x10 := RA.cell (i := 10) (v := .slice a10 n10 p10) rfl
        have x11 := RA.cell (i := 11) (v := .slice a11 n11 p11) rfl
        go_wp2_with fail
        refine (hS _ hal).mono ?_
        rintro e w9 ⟨rfl, hb⟩
        replace RA := RA.later hb
        replace hal := hal.trans (hb.mono hal.size)
        clear hb
        clear x0 x1 x2 x3 x4 x5 x6 x7 x8 x9 x10 x11
        have x0 := RA.cell (i := 0) (v := .int .i64 c0) rfl
        have x1 := RA.cell (i := 1) (v := .bool c1) rfl
        have x2 := RA.cell (i := 2) (v := .slice a2 n2 p2) rfl
        have x3 := RA.cell (i := 3) (v := .slice a3 n3 p3) rfl
        have x4 := RA.cell (i := 4) (v := .slice a4 n4 p4) rfl
        have x5 := RA.cell (i := 5) (v := .slice a5 n5 p5) rfl
        have x6 := RA.cell (i := 6) (v := .int .i64 c6) rfl
        have x7 := RA.cell (i := 7) (v := .string c7) rfl
        have x8 := RA.cell (i := 8) (v := .slice a8 n8 p8) rfl
        have x9 := RA.cell (i := 9) (v := .slice a9 n9 p9) rfl
        have x10 := RA.cell (i := 10) (v := .slice a10 n10 p10) rfl
        have x11 := RA.cell (i := 11) (v := .slice a11 n11 p11) rfl
        go_wp2_with fail
        refine (hD _ hal).mono ?_
        rintro e w9 ⟨rfl, hb⟩
        replace RA := RA.later hb
        replace hal := hal.trans (hb.mono hal.size)
        clear hb
        clear x0 x1 x2 x3 x4 x5 x6 x7 x8 x9 x10 x11
        have x0 := RA.cell (i := 0) (v := .int .i64 c0) rfl
        have x1 := RA.cell (i := 1) (v := .bool c1) rfl
        have x2 := RA.cell (i := 2) (v := .slice a2 n2 p2) rfl
        have x3 := RA.cell (i := 3) (v := .slice a3 n3 p3) rfl
        have x4 := RA.cell (i := 4) (v := .slice a4 n4 p4) rfl
        have x5 := RA.cell (i := 5) (v := .slice a5 n5 p5) rfl
        have x6 := RA.cell (i := 6) (v := .int .i64 c6) rfl
        have x7 := RA.cell (i := 7) (v := .string c7) rfl
        have x8 := RA.cell (i := 8) (v := .slice a8 n8 p8) rfl
        have x9 := RA.cell (i := 9) (v := .slice a9 n9 p9) rfl
        have x10 := RA.cell (i := 10) (v := .slice a10 n10 p10) rfl
        have x11 := RA.cell (i := 11) (v := .slice a11 n11 p11) rfl
        go_wp2_with fail
        refine (hZ _ hal).mono ?_
        rintro e w9 ⟨rfl, hb⟩
        replace RA := RA.later hb
        replace hal := hal.trans (hb.mono hal.size)
        clear hb
        clear x0 x1 x2 x3 x4 x5 x6 x7 x8 x9 x10 x11
        have x0 := RA.cell (i := 0) (v := .int .i64 c0) rfl
        have x1 := RA.cell (i := 1) (v := .bool c1) rfl
        have x2 := RA.cell (i := 2) (v := .slice a2 n2 p2) rfl
        have x3 := RA.cell (i := 3) (v := .slice a3 n3 p3) rfl
        have x4 := RA.cell (i := 4) (v := .slice a4 n4 p4) rfl
        have x5 := RA.cell (i := 5) (v := .slice a5 n5 p5) rfl
        have x6 := RA.cell (i := 6) (v := .int .i64 c6) rfl
        have x7 := RA.cell (i := 7) (v := .string c7) rfl
        have x8 := RA.cell (i := 8) (v := .slice a8 n8 p8) rfl
        have x9 := RA.cell (i := 9) (v := .slice a9 n9 p9) rfl
        have x10 := RA.cell (i := 10) (v := .slice a10 n10 p10) rfl
        have x11 := RA.cell (i := 11) (v := .slice a11 n11 p11) rfl
        go_wp2_with fail
        go_ret
        exact ⟨rfl, hal⟩
      · have t0 : decide ((ss : Int) ≤ (200 : Int)) = false := by simp; omega
        have t1 : decide (ss ≤ 200) = false := by simp; omega
        rw [t1]
        clear g1 g2
        have RA := RowAt.new W 42 #[.int .i64 c0, .bool c1, .slice a2 n2 p2, .slice a3 n3 p3, .slice a4 n4 p4, .slice a5 n5 p5, .int .i64 c6, .string c7, .slice a8 n8 p8, .slice a9 n9 p9, .slice a10 n10 p10, .slice a11 n11 p11]
        have hal : Below W.heap.size W (W.alloc (.cells #[.int .i64 c0, .bool c1, .slice a2 n2 p2, .slice a3 n3 p3, .slice a4 n4 p4, .slice a5 n5 p5, .int .i64 c6, .string c7, .slice a8 n8 p8, .slice a9 n9 p9, .slice a10 n10 p10, .slice a11 n11 p11] 42)) := (Below.refl _ _).alloc (Nat.le_refl _) _
        go_enter Tryz.func5, Tryz.ntmps5
        go_upto_region 1 with fail
        generalize W.alloc (.cells #[.int .i64 c0, .bool c1, .slice a2 n2 p2, .slice a3 n3 p3, .slice a4 n4 p4, .slice a5 n5 p5, .int .i64 c6, .string c7, .slice a8 n8 p8, .slice a9 n9 p9, .slice a10 n10 p10, .slice a11 n11 p11] 42) = w1 at RA hal ⊢
        have x0 := RA.cell (i := 0) (v := .int .i64 c0) rfl
        have x1 := RA.cell (i := 1) (v := .bool c1) rfl
        have x2 := RA.cell (i := 2) (v := .slice a2 n2 p2) rfl
        have x3 := RA.cell (i := 3) (v := .slice a3 n3 p3) rfl
        have x4 := RA.cell (i := 4) (v := .slice a4 n4 p4) rfl
        have x5 := RA.cell (i := 5) (v := .slice a5 n5 p5) rfl
        have x6 := RA.cell (i := 6) (v := .int .i64 c6) rfl
        have x7 := RA.cell (i := 7) (v := .string c7) rfl
        have x8 := RA.cell (i := 8) (v := .slice a8 n8 p8) rfl
        have x9 := RA.cell (i := 9) (v := .slice a9 n9 p9) rfl
        have x10 := RA.cell (i := 10) (v := .slice a10 n10 p10) rfl
        have x11 := RA.cell (i := 11) (v := .slice a11 n11 p11) rfl
        go_wp2_with fail
        refine (hS _ hal).mono ?_
        rintro e w9 ⟨rfl, hb⟩
        replace RA := RA.later hb
        replace hal := hal.trans (hb.mono hal.size)
        clear hb
        clear x0 x1 x2 x3 x4 x5 x6 x7 x8 x9 x10 x11
        have x0 := RA.cell (i := 0) (v := .int .i64 c0) rfl
        have x1 := RA.cell (i := 1) (v := .bool c1) rfl
        have x2 := RA.cell (i := 2) (v := .slice a2 n2 p2) rfl
        have x3 := RA.cell (i := 3) (v := .slice a3 n3 p3) rfl
        have x4 := RA.cell (i := 4) (v := .slice a4 n4 p4) rfl
        have x5 := RA.cell (i := 5) (v := .slice a5 n5 p5) rfl
        have x6 := RA.cell (i := 6) (v := .int .i64 c6) rfl
        have x7 := RA.cell (i := 7) (v := .string c7) rfl
        have x8 := RA.cell (i := 8) (v := .slice a8 n8 p8) rfl
        have x9 := RA.cell (i := 9) (v := .slice a9 n9 p9) rfl
        have x10 := RA.cell (i := 10) (v := .slice a10 n10 p10) rfl
        have x11 := RA.cell (i := 11) (v := .slice a11 n11 p11) rfl
        go_wp2_with fail
        refine (hD _ hal).mono ?_
        rintro e w9 ⟨rfl, hb⟩
        replace RA := RA.later hb
        replace hal := hal.trans (hb.mono hal.size)
        clear hb
        clear x0 x1 x2 x3 x4 x5 x6 x7 x8 x9 x10 x11
        have x0 := RA.cell (i := 0) (v := .int .i64 c0) rfl
        have x1 := RA.cell (i := 1) (v := .bool c1) rfl
        have x2 := RA.cell (i := 2) (v := .slice a2 n2 p2) rfl
        have x3 := RA.cell (i := 3) (v := .slice a3 n3 p3) rfl
        have x4 := RA.cell (i := 4) (v := .slice a4 n4 p4) rfl
        have x5 := RA.cell (i := 5) (v := .slice a5 n5 p5) rfl
        have x6 := RA.cell (i := 6) (v := .int .i64 c6) rfl
        have x7 := RA.cell (i := 7) (v := .string c7) rfl
        have x8 := RA.cell (i := 8) (v := .slice a8 n8 p8) rfl
        have x9 := RA.cell (i := 9) (v := .slice a9 n9 p9) rfl
        have x10 := RA.cell (i := 10) (v := .slice a10 n10 p10) rfl
        have x11 := RA.cell (i := 11) (v := .slice a11 n11 p11) rfl
        go_wp2_with fail
        refine (hZ _ hal).mono ?_
        rintro e w9 ⟨rfl, hb⟩
        replace RA := RA.later hb
        replace hal := hal.trans (hb.mono hal.size)
        clear hb
        clear x0 x1 x2 x3 x4 x5 x6 x7 x8 x9 x10 x11
        have x0 := RA.cell (i := 0) (v := .int .i64 c0) rfl
        have x1 := RA.cell (i := 1) (v := .bool c1) rfl
        have x2 := RA.cell (i := 2) (v := .slice a2 n2 p2) rfl
        have x3 := RA.cell (i := 3) (v := .slice a3 n3 p3) rfl
        have x4 := RA.cell (i := 4) (v := .slice a4 n4 p4) rfl
        have x5 := RA.cell (i := 5) (v := .slice a5 n5 p5) rfl
        have x6 := RA.cell (i := 6) (v := .int .i64 c6) rfl
        have x7 := RA.cell (i := 7) (v := .string c7) rfl
        have x8 := RA.cell (i := 8) (v := .slice a8 n8 p8) rfl
        have x9 := RA.cell (i := 9) (v := .slice a9 n9 p9) rfl
        have x10 := RA.cell (i := 10) (v := .slice a10 n10 p10) rfl
        have x11 := RA.cell (i := 11) (v := .slice a11 n11 p11) rfl
        go_wp2_with fail
        go_ret
        exact ⟨rfl, hal⟩
    · have d0 : decide ((dd : Int) ≤ (24 : Int)) = false := by simp; omega
      have d1 : decide (dd ≤ 24) = false := by simp; omega
      rw [d1, Bool.false_and]
      clear g1
      have RA := RowAt.new W 42 #[.int .i64 c0, .bool c1, .slice a2 n2 p2, .slice a3 n3 p3, .slice a4 n4 p4, .slice a5 n5 p5, .int .i64 c6, .string c7, .slice a8 n8 p8, .slice a9 n9 p9, .slice a10 n10 p10, .slice a11 n11 p11]
      have hal : Below W.heap.size W (W.alloc (.cells #[.int .i64 c0, .bool c1, .slice a2 n2 p2, .slice a3 n3 p3, .slice a4 n4 p4, .slice a5 n5 p5, .int .i64 c6, .string c7, .slice a8 n8 p8, .slice a9 n9 p9, .slice a10 n10 p10, .slice a11 n11 p11] 42)) := (Below.refl _ _).alloc (Nat.le_refl _) _
      go_enter Tryz.func5, Tryz.ntmps5
      go_upto_region 1 with fail
      generalize W.alloc (.cells #[.int .i64 c0, .bool c1, .slice a2 n2 p2, .slice a3 n3 p3, .slice a4 n4 p4, .slice a5 n5 p5, .int .i64 c6, .string c7, .slice a8 n8 p8, .slice a9 n9 p9, .slice a10 n10 p10, .slice a11 n11 p11] 42) = w1 at RA hal ⊢
      have x0 := RA.cell (i := 0) (v := .int .i64 c0) rfl
      have x1 := RA.cell (i := 1) (v := .bool c1) rfl
      have x2 := RA.cell (i := 2) (v := .slice a2 n2 p2) rfl
      have x3 := RA.cell (i := 3) (v := .slice a3 n3 p3) rfl
      have x4 := RA.cell (i := 4) (v := .slice a4 n4 p4) rfl
      have x5 := RA.cell (i := 5) (v := .slice a5 n5 p5) rfl
      have x6 := RA.cell (i := 6) (v := .int .i64 c6) rfl
      have x7 := RA.cell (i := 7) (v := .string c7) rfl
      have x8 := RA.cell (i := 8) (v := .slice a8 n8 p8) rfl
      have x9 := RA.cell (i := 9) (v := .slice a9 n9 p9) rfl
      have x10 := RA.cell (i := 10) (v := .slice a10 n10 p10) rfl
      have x11 := RA.cell (i := 11) (v := .slice a11 n11 p11) rfl
      go_wp2_with fail
      refine (hS _ hal).mono ?_
      rintro e w9 ⟨rfl, hb⟩
      replace RA := RA.later hb
      replace hal := hal.trans (hb.mono hal.size)
      clear hb
      clear x0 x1 x2 x3 x4 x5 x6 x7 x8 x9 x10 x11
      have x0 := RA.cell (i := 0) (v := .int .i64 c0) rfl
      have x1 := RA.cell (i := 1) (v := .bool c1) rfl
      have x2 := RA.cell (i := 2) (v := .slice a2 n2 p2) rfl
      have x3 := RA.cell (i := 3) (v := .slice a3 n3 p3) rfl
      have x4 := RA.cell (i := 4) (v := .slice a4 n4 p4) rfl
      have x5 := RA.cell (i := 5) (v := .slice a5 n5 p5) rfl
      have x6 := RA.cell (i := 6) (v := .int .i64 c6) rfl
      have x7 := RA.cell (i := 7) (v := .string c7) rfl
      have x8 := RA.cell (i := 8) (v := .slice a8 n8 p8) rfl
      have x9 := RA.cell (i := 9) (v := .slice a9 n9 p9) rfl
      have x10 := RA.cell (i := 10) (v := .slice a10 n10 p10) rfl
      have x11 := RA.cell (i := 11) (v := .slice a11 n11 p11) rfl
      go_wp2_with fail
      refine (hD _ hal).mono ?_
      rintro e w9 ⟨rfl, hb⟩
      replace RA := RA.later hb
      replace hal := hal.trans (hb.mono hal.size)
      clear hb
      clear x0 x1 x2 x3 x4 x5 x6 x7 x8 x9 x10 x11
      have x0 := RA.cell (i := 0) (v := .int .i64 c0) rfl
      have x1 := RA.cell (i := 1) (v := .bool c1) rfl
      have x2 := RA.cell (i := 2) (v := .slice a2 n2 p2) rfl
      have x3 := RA.cell (i := 3) (v := .slice a3 n3 p3) rfl
      have x4 := RA.cell (i := 4) (v := .slice a4 n4 p4) rfl
      have x5 := RA.cell (i := 5) (v := .slice a5 n5 p5) rfl
      have x6 := RA.cell (i := 6) (v := .int .i64 c6) rfl
      have x7 := RA.cell (i := 7) (v := .string c7) rfl
      have x8 := RA.cell (i := 8) (v := .slice a8 n8 p8) rfl
      have x9 := RA.cell (i := 9) (v := .slice a9 n9 p9) rfl
      have x10 := RA.cell (i := 10) (v := .slice a10 n10 p10) rfl
      have x11 := RA.cell (i := 11) (v := .slice a11 n11 p11) rfl
      go_wp2_with fail
      go_ret
      exact ⟨rfl, hal⟩

end Go.Proofs.YtcliijfdlcagoaaGreat
