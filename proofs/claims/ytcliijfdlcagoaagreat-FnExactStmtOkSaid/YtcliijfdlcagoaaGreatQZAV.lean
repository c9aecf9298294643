/- Joined texts: StOkJ ExprsQS StmtE Key Fold. -/
import Derived.Test.YtcliijfdlcagoaaGreatQZAT
import Derived.Test.YtcliijfdlcagoaaGreatQHSameStIc
import Derived.Test.YtcliijfdlcagoaaGreatQZAU
import Derived.Test.YtcliijfdlcagoaaGreatQZAS
import Derived.Test.YtcliijfdlcagoaaGreatQZAO
import Derived.Test.YtcliijfdlcagoaaGreatQHFoldS
import Derived.Test.YtcliijfdlcagoaaGreatQZAH
import Derived.Test.YtcliijfdlcagoaaGreatQZAA
import Derived.Test.YtcliijfdlcagoaaGreatQZAB
import Derived.Deep.Cut
namespace Go.Proofs.YtcliijfdlcagoaaGreat
set_option linter.unusedVariables false
set_option linter.unusedSimpArgs false
open Go.RowKit
theorem els_all (n k : Nat) (f : Nat → Nat → Dat) (p : Nd → Bool) : (Dat.sl n k f).els.all p = (List.range n).all fun i => p (f i) := by
  show ((List.range n).map f).all p = _
  rw [List.all_map]; rfl
theorem range_false {n j : Nat} {p : Nat → Bool} (h : j < n) (hp : p j = false) : (List.range n).all p = false := by
  rw [List.all_eq_false]
  exact ⟨j, List.mem_range.2 h, by rw [hp]; decide⟩
set_option maxRecDepth 100000 in
set_option maxHeartbeats 8000000 in
theorem rowOk_any (a : Option Addr) (n p : Nat) (w : World) (hn : n ≤ 9223372036854775807) : Calls Tryz.prog 54 #[.slice a n p] w (PureE (.bool (decide (1 ≤ n) && decide (n ≤ 12))) w) := by
  by_cases h1 : 1 ≤ n
  · have d1 : decide ((1 : Int) ≤ (n : Int)) = true := by simp; omega
    have e1 : decide (1 ≤ n) = true := by simp; omega
    by_cases h2 : n ≤ 12
    · have d2 : decide ((n : Int) ≤ (12 : Int)) = true := by simp; omega
      have e2 : decide (n ≤ 12) = true := by simp; omega
      rw [e1, e2]
      clear h1 h2
      go_enter Tryz.func54, Tryz.ntmps54
      go_wp2_with fail
      go_ret
      exact ⟨rfl, rfl⟩
    · have d2 : decide ((n : Int) ≤ (12 : Int)) = false := by simp; omega
      have e2 : decide (n ≤ 12) = false := by simp; omega
      rw [e1, e2]
      clear h1 h2
      go_enter Tryz.func54, Tryz.ntmps54
      go_wp2_with fail
      go_ret
      exact ⟨rfl, rfl⟩
  · have d1 : decide ((1 : Int) ≤ (n : Int)) = false := by simp; omega
    have e1 : decide (1 ≤ n) = false := by simp; omega
    rw [e1]
    clear h1
    go_enter Tryz.func54, Tryz.ntmps54
    go_wp2_with fail
    go_ret
    exact ⟨rfl, rfl⟩
set_option maxRecDepth 100000 in
set_option maxHeartbeats 8000000 in
theorem every_names (w0 W : World) (a : Option Addr) (n p : Nat) (f : Nat → Nat → Dat) (r : Rd w0 0 (.slice a n p) (.sl n 1 f)) (q : Fits (.sl n 1 f) .names) (hb0 : Below w0.heap.size w0 W) :
    Calls Tryz.prog 55 #[.slice a n p, .func (.func 52) #[] #[]] W (BoolE ((Dat.sl n 1 f).els.all nameB') W) := by
  have hn : n ≤ 9223372036854775807 := q.2.1
  have hB0 := Below.refl W.heap.size W
  rw [els_all]
  go_enter Tryz.func55, Tryz.ntmps55
  go_wp2_with fail
  go_loopw [9] (fun i wr => ∃ j : Nat, j ≤ n ∧ i = .int .i64 (j : Int) ∧ Below W.heap.size W wr ∧ Hid ((List.range j).all (fun i => nameB' (f i)) = true)) (fun i _ => n - (intOf i).toNat)
  case atStart => exact ⟨0, by omega, rfl, hB0, rfl⟩
  case round =>
    obtain ⟨j, hj, rfl, hB, HA⟩ := hrel
    by_cases hlt : j < n
    · have hlt2 : (j : Int) < (n : Int) := by omega
      obtain ⟨g, o, rfl, -, hg, s, z0, e0, hs⟩ := row_names r q hlt
      replace z0 := ((hb0.trans (hB.mono hb0.size)).cell (p := ⟨g, o + j, none⟩) hg).trans z0
      have HC : ∀ w', Calls Tryz.prog 52 #[.string s] w' (PureE (.bool (nameB' (f j))) w') := fun w' => by
        have h := nameOk_impl s w' hs
        unfold nameB'
        rw [e0]
        exact h
      clear e0 hs hg
      have HS := Lib.hid (all_succ j (fun i => nameB' (f i)))
      have HF := Lib.hid (fun h => range_false (p := fun i => nameB' (f i)) hlt h)
      generalize nameB' (f j) = pv at HC HS HF
      cases pv
      case true =>
        have HS2 : Hid ((List.range (j + 1)).all (fun i => nameB' (f i)) = true) := by show _ = true; rw [HS.out, HA.out]; rfl
        go_wp2_with fail
        refine (HC _).mono ?_
        clear HC
        rintro e w2 ⟨rfl, rfl⟩
        clear z0
        go_wp2_with fail
        go_roundw
        case rel => exact ⟨j + 1, by omega, by go_num, hB, HS2⟩
        case measure => simp [intOf]; omega
      case false =>
        have HS2 : Hid ((List.range n).all (fun i => nameB' (f i)) = false) := HF.out rfl
        go_wp2_with fail
        refine (HC _).mono ?_
        clear HC
        rintro e w2 ⟨rfl, rfl⟩
        clear z0
        go_wp2_with fail
        go_ret
        exact ⟨by rw [HS2.out]; rfl, hB⟩
    · have hlt2 : ¬ (j : Int) < (n : Int) := by omega
      obtain rfl : n = j := by omega
      go_wp2_with fail
      go_ret
      exact ⟨by rw [HA.out]; rfl, hB⟩
set_option maxRecDepth 100000 in
set_option maxHeartbeats 8000000 in
theorem every_rows (w0 W : World) (a : Option Addr) (n p : Nat) (f : Nat → Nat → Dat) (r : Rd w0 0 (.slice a n p) (.sl n 1 f)) (q : Fits (.sl n 1 f) .rows) (hb0 : Below w0.heap.size w0 W) :
    Calls Tryz.prog 53 #[.slice a n p, .func (.func 54) #[] #[]] W (BoolE ((Dat.sl n 1 f).els.all rowB) W) := by
  have hn : n ≤ 9223372036854775807 := q.2.1
  have hB0 := Below.refl W.heap.size W
  rw [els_all]
  go_enter Tryz.func53, Tryz.ntmps53
  go_wp2_with fail
  go_loopw [9] (fun i wr => ∃ j : Nat, j ≤ n ∧ i = .int .i64 (j : Int) ∧ Below W.heap.size W wr ∧ Hid ((List.range j).all (fun i => rowB (f i)) = true)) (fun i _ => n - (intOf i).toNat)
  case atStart => exact ⟨0, by omega, rfl, hB0, rfl⟩
  case round =>
    obtain ⟨j, hj, rfl, hB, HA⟩ := hrel
    by_cases hlt : j < n
    · have hlt2 : (j : Int) < (n : Int) := by omega
      obtain ⟨g, o, rfl, -, hg, y0, z0, r0, q0⟩ := row_rows r q hlt
      replace z0 := ((hb0.trans (hB.mono hb0.size)).cell (p := ⟨g, o + j, none⟩) hg).trans z0
      obtain ⟨ya, yn, yp, rfl⟩ := r0.slice_of q0 rfl
      obtain ⟨f0, e0, -, q1⟩ := r0.openS q0 rfl
      have hyn : yn ≤ 9223372036854775807 := q1.2.1
      have HC : ∀ w', Calls Tryz.prog 54 #[.slice ya yn yp] w' (PureE (.bool (rowB (f j))) w') := fun w' => by
        have h := rowOk_any ya yn yp w' hyn
        unfold rowB
        rw [e0]
        exact h
      clear e0 r0 q0 q1 hg
      have HS := Lib.hid (all_succ j (fun i => rowB (f i)))
      have HF := Lib.hid (fun h => range_false (p := fun i => rowB (f i)) hlt h)
      generalize rowB (f j) = pv at HC HS HF
      cases pv
      case true =>
        have HS2 : Hid ((List.range (j + 1)).all (fun i => rowB (f i)) = true) := by show _ = true; rw [HS.out, HA.out]; rfl
        go_wp2_with fail
        refine (HC _).mono ?_
        clear HC
        rintro e w2 ⟨rfl, rfl⟩
        clear z0
        go_wp2_with fail
        go_roundw
        case rel => exact ⟨j + 1, by omega, by go_num, hB, HS2⟩
        case measure => simp [intOf]; omega
      case false =>
        have HS2 : Hid ((List.range n).all (fun i => rowB (f i)) = false) := HF.out rfl
        go_wp2_with fail
        refine (HC _).mono ?_
        clear HC
        rintro e w2 ⟨rfl, rfl⟩
        clear z0
        go_wp2_with fail
        go_ret
        exact ⟨by rw [HS2.out]; rfl, hB⟩
    · have hlt2 : ¬ (j : Int) < (n : Int) := by omega
      obtain rfl : n = j := by omega
      go_wp2_with fail
      go_ret
      exact ⟨by rw [HA.out]; rfl, hB⟩
set_option maxRecDepth 100000 in
set_option maxHeartbeats 8000000 in
theorem usedOk_any (w0 : World) (c : Nd) (us : List Value) (w : World) (hx : OutK stTy w0 us [c]) (hb0 : Below w0.heap.size w0 w) (hs : BdS c) :
    Calls Tryz.prog 22 #[.agg us.toArray] w (BoolE (usedB c) w) := by
  obtain ⟨c0, c1, a2, n2, p2, a3, n3, p3, a4, n4, p4, a5, n5, p5, c6, c7, a8, n8, p8, a9, n9, p9, a10, n10, p10, a11, n11, p11, rfl, ⟨e0, b0⟩, e1, ⟨r2, q2⟩, ⟨r3, q3⟩, ⟨r4, q4⟩, ⟨r5, q5⟩, ⟨e6, b6⟩, ⟨e7, b7⟩, ⟨r8, q8⟩, ⟨r9, q9⟩, ⟨r10, q10⟩, ⟨r11, q11⟩⟩ := hx.stmtRow
  have hk : (c 0).num = c0 := by rw [e0]; rfl
  have hqout : OutK (rowTy .queries) w0 [.bool c1, .slice a2 n2 p2, .slice a3 n3 p3, .slice a4 n4 p4, .slice a5 n5 p5, .int .i64 c6] [cut 1 c] := OutK.one rfl (fun m hm => match m, hm with
    | 0, _ => ⟨_, rfl, (show Rd w0 0 _ (c 1) by rw [e1]; exact rfl), (show Fits (c 1) .bool by rw [e1]; exact ⟨_, rfl⟩)⟩
    | 1, _ => ⟨_, rfl, r2, q2⟩
    | 2, _ => ⟨_, rfl, r3, q3⟩
    | 3, _ => ⟨_, rfl, r4, q4⟩
    | 4, _ => ⟨_, rfl, r5, q5⟩
    | 5, _ => ⟨_, rfl, (show Rd w0 0 _ (c 6) by rw [e6]; exact rfl), (show Fits (c 6) .int by rw [e6]; exact ⟨_, rfl, b6⟩)⟩
    | m + 6, hm => absurd hm (by simp [rowTy]))
  have hF := fun v (h : Below w0.heap.size w0 v) => frameOk_any w0 (cut 1 c) _ v hqout h hs.query
  obtain ⟨f8, e8, r8, q8⟩ := r8.openS q8 rfl
  obtain ⟨f9, e9, r9, q9⟩ := r9.openS q9 rfl
  replace e8 : c 8 = .sl n8 1 f8 := e8
  replace e9 : c 9 = .sl n9 1 f9 := e9
  replace r8 : Rd w0 0 (.slice a8 n8 p8) (.sl n8 1 f8) := r8
  replace r9 : Rd w0 0 (.slice a9 n9 p9) (.sl n9 1 f9) := r9
  replace q8 : Fits (.sl n8 1 f8) .rows := q8
  replace q9 : Fits (.sl n9 1 f9) .names := q9
  have l8 : (c 8).len = n8 := by rw [e8]; rfl
  have l9 : (c 9).len = n9 := by rw [e9]; rfl
  have l10 : (c 10).len = n10 := r10.slen q10 rfl
  have l11 : (c 11).len = n11 := r11.slen q11 rfl
  have hR := fun v (h : Below w0.heap.size w0 v) => every_rows w0 v a8 n8 p8 f8 r8 q8 h
  have hN := fun v (h : Below w0.heap.size w0 v) => every_names w0 v a9 n9 p9 f9 r9 q9 h
  have hT := fun v => nameOk_impl c7 v b7
  have ht : (c 7).txt = c7 := by rw [e7]; rfl
  unfold usedB
  rw [l8, l9, l10, l11, e8, e9, ht, hk]
  clear hx hs r2 q2 r3 q3 r4 q4 r5 q5 r8 q8 r9 q9 r10 q10 r11 q11 e0 e1 e6 e7 e8 e9 hqout l8 l9 l10 l11 ht hk b0 b6
  generalize frameB (cut 1 c) = FB at hF ⊢
  generalize List.all _ rowB = RB at hR ⊢
  generalize List.all _ nameB' = NB at hN ⊢
  generalize okLen c7.size = OK at hT ⊢
  by_cases k1 : c0 = 1
  · subst k1
    rw [if_pos rfl]
    have RA := RowAt.new w 42 #[.int .i64 1, .bool c1, .slice a2 n2 p2, .slice a3 n3 p3, .slice a4 n4 p4, .slice a5 n5 p5, .int .i64 c6, .string c7, .slice a8 n8 p8, .slice a9 n9 p9, .slice a10 n10 p10, .slice a11 n11 p11]
    have hal : Below w.heap.size w (w.alloc (.cells #[.int .i64 1, .bool c1, .slice a2 n2 p2, .slice a3 n3 p3, .slice a4 n4 p4, .slice a5 n5 p5, .int .i64 c6, .string c7, .slice a8 n8 p8, .slice a9 n9 p9, .slice a10 n10 p10, .slice a11 n11 p11] 42)) := (Below.refl _ _).alloc (Nat.le_refl _) _
    go_enter Tryz.func22, Tryz.ntmps22
    go_upto_region 1 with fail
    generalize w.alloc (.cells #[.int .i64 1, .bool c1, .slice a2 n2 p2, .slice a3 n3 p3, .slice a4 n4 p4, .slice a5 n5 p5, .int .i64 c6, .string c7, .slice a8 n8 p8, .slice a9 n9 p9, .slice a10 n10 p10, .slice a11 n11 p11] 42) = w1 at RA hal ⊢
    have x0 := RA.cell (i := 0) (v := .int .i64 1) rfl
    have x1 := RA.cell (i := 1) (v := .bool c1) rfl
    have x2 := RA.cell (i := 2) (v := .slice a2 n2 p2) rfl
    have x3 := RA.cell (i := 3) (v := .slice a3 n3 p3) rfl
    have x4 := RA.cell (i := 4) (v := .slice a4 n4 p4) rfl
    have x5 := RA.cell (i := 5) (v := .slice a5 n5 p5) rfl
    have x6 := RA.cell (i := 6) (v := .int .i64 c6) rfl
    go_wp2_with fail
    refine (hF _ (hb0.trans (hal.mono hb0.size))).mono ?_
    rintro e w9 ⟨rfl, hb9⟩
    replace RA := RA.later hb9
    replace hal := hal.trans (hb9.mono hal.size)
    clear hb9 x0 x1 x2 x3 x4 x5 x6
    have x0 := RA.cell (i := 0) (v := .int .i64 1) rfl
    have x1 := RA.cell (i := 1) (v := .bool c1) rfl
    have x2 := RA.cell (i := 2) (v := .slice a2 n2 p2) rfl
    have x3 := RA.cell (i := 3) (v := .slice a3 n3 p3) rfl
    have x4 := RA.cell (i := 4) (v := .slice a4 n4 p4) rfl
    have x5 := RA.cell (i := 5) (v := .slice a5 n5 p5) rfl
    have x6 := RA.cell (i := 6) (v := .int .i64 c6) rfl
    go_wp2_with fail
    go_ret
    exact ⟨rfl, hal⟩
  by_cases k2 : c0 = 2
  · subst k2
    rw [if_neg (by decide), if_pos rfl]
    cases OK
    · rw [Bool.false_and]
      have RA := RowAt.new w 42 #[.int .i64 2, .bool c1, .slice a2 n2 p2, .slice a3 n3 p3, .slice a4 n4 p4, .slice a5 n5 p5, .int .i64 c6, .string c7, .slice a8 n8 p8, .slice a9 n9 p9, .slice a10 n10 p10, .slice a11 n11 p11]
      have hal : Below w.heap.size w (w.alloc (.cells #[.int .i64 2, .bool c1, .slice a2 n2 p2, .slice a3 n3 p3, .slice a4 n4 p4, .slice a5 n5 p5, .int .i64 c6, .string c7, .slice a8 n8 p8, .slice a9 n9 p9, .slice a10 n10 p10, .slice a11 n11 p11] 42)) := (Below.refl _ _).alloc (Nat.le_refl _) _
      go_enter Tryz.func22, Tryz.ntmps22
      go_upto_region 1 with fail
      generalize w.alloc (.cells #[.int .i64 2, .bool c1, .slice a2 n2 p2, .slice a3 n3 p3, .slice a4 n4 p4, .slice a5 n5 p5, .int .i64 c6, .string c7, .slice a8 n8 p8, .slice a9 n9 p9, .slice a10 n10 p10, .slice a11 n11 p11] 42) = w1 at RA hal ⊢
      have x0 := RA.cell (i := 0) (v := .int .i64 2) rfl
      have x7 := RA.cell (i := 7) (v := .string c7) rfl
      go_wp2_with fail
      refine (hT _).mono ?_
      rintro e w9 ⟨rfl, rfl⟩
      go_wp2_with fail
      go_ret
      exact ⟨rfl, hal⟩
    · rw [Bool.true_and]
      by_cases g1 : 1 ≤ n8
      · have d0 : decide ((1 : Int) ≤ (n8 : Int)) = true := by simp; omega
        have d1 : decide (1 ≤ n8) = true := by simp; omega
        by_cases g2 : n8 ≤ 5
        · have f0 : decide ((n8 : Int) ≤ (5 : Int)) = true := by simp; omega
          have f1 : decide (n8 ≤ 5) = true := by simp; omega
          rw [d1, f1, Bool.true_and, Bool.true_and]
          clear g1 g2
          have RA := RowAt.new w 42 #[.int .i64 2, .bool c1, .slice a2 n2 p2, .slice a3 n3 p3, .slice a4 n4 p4, .slice a5 n5 p5, .int .i64 c6, .string c7, .slice a8 n8 p8, .slice a9 n9 p9, .slice a10 n10 p10, .slice a11 n11 p11]
          have hal : Below w.heap.size w (w.alloc (.cells #[.int .i64 2, .bool c1, .slice a2 n2 p2, .slice a3 n3 p3, .slice a4 n4 p4, .slice a5 n5 p5, .int .i64 c6, .string c7, .slice a8 n8 p8, .slice a9 n9 p9, .slice a10 n10 p10, .slice a11 n11 p11] 42)) := (Below.refl _ _).alloc (Nat.le_refl _) _
          go_enter Tryz.func22, Tryz.ntmps22
          go_upto_region 1 with fail
          generalize w.alloc (.cells #[.int .i64 2, .bool c1, .slice a2 n2 p2, .slice a3 n3 p3, .slice a4 n4 p4, .slice a5 n5 p5, .int .i64 c6, .string c7, .slice a8 n8 p8, .slice a9 n9 p9, .slice a10 n10 p10, .slice a11 n11 p11] 42) = w1 at RA hal ⊢
          have x0 := RA.cell (i := 0) (v := .int .i64 2) rfl
          have x7 := RA.cell (i := 7) (v := .string c7) rfl
          have x8 := RA.cell (i := 8) (v := .slice a8 n8 p8) rfl
          go_wp2_with fail
          refine (hT _).mono ?_
          rintro e w9 ⟨rfl, rfl⟩
          go_wp2_with fail
          refine (hR _ (hb0.trans (hal.mono hb0.size))).mono ?_
          rintro e w9 ⟨rfl, hb9⟩
          replace RA := RA.later hb9
          replace hal := hal.trans (hb9.mono hal.size)
          clear hb9 x0 x7 x8
          have x0 := RA.cell (i := 0) (v := .int .i64 2) rfl
          have x7 := RA.cell (i := 7) (v := .string c7) rfl
          have x8 := RA.cell (i := 8) (v := .slice a8 n8 p8) rfl
          go_wp2_with fail
          go_ret
          exact ⟨rfl, hal⟩
        · have f0 : decide ((n8 : Int) ≤ (5 : Int)) = false := by simp; omega
          have f1 : decide (n8 ≤ 5) = false := by simp; omega
          rw [d1, f1]
          clear g1 g2
          have RA := RowAt.new w 42 #[.int .i64 2, .bool c1, .slice a2 n2 p2, .slice a3 n3 p3, .slice a4 n4 p4, .slice a5 n5 p5, .int .i64 c6, .string c7, .slice a8 n8 p8, .slice a9 n9 p9, .slice a10 n10 p10, .slice a11 n11 p11]
          have hal : Below w.heap.size w (w.alloc (.cells #[.int .i64 2, .bool c1, .slice a2 n2 p2, .slice a3 n3 p3, .slice a4 n4 p4, .slice a5 n5 p5, .int .i64 c6, .string c7, .slice a8 n8 p8, .slice a9 n9 p9, .slice a10 n10 p10, .slice a11 n11 p11] 42)) := (Below.refl _ _).alloc (Nat.le_refl _) _
          go_enter Tryz.func22, Tryz.ntmps22
          go_upto_region 1 with fail
          generalize w.alloc (.cells #[.int .i64 2, .bool c1, .slice a2 n2 p2, .slice a3 n3 p3, .slice a4 n4 p4, .slice a5 n5 p5, .int .i64 c6, .string c7, .slice a8 n8 p8, .slice a9 n9 p9, .slice a10 n10 p10, .slice a11 n11 p11] 42) = w1 at RA hal ⊢
          have x0 := RA.cell (i := 0) (v := .int .i64 2) rfl
          have x7 := RA.cell (i := 7) (v := .string c7) rfl
          have x8 := RA.cell (i := 8) (v := .slice a8 n8 p8) rfl
          go_wp2_with fail
          refine (hT _).mono ?_
          rintro e w9 ⟨rfl, rfl⟩
          go_wp2_with fail
          go_ret
          exact ⟨rfl, hal⟩
      · have d0 : decide ((1 : Int) ≤ (n8 : Int)) = false := by simp; omega
        have d1 : decide (1 ≤ n8) = false := by simp; omega
        rw [d1]
        clear g1
        have RA := RowAt.new w 42 #[.int .i64 2, .bool c1, .slice a2 n2 p2, .slice a3 n3 p3, .slice a4 n4 p4, .slice a5 n5 p5, .int .i64 c6, .string c7, .slice a8 n8 p8, .slice a9 n9 p9, .slice a10 n10 p10, .slice a11 n11 p11]
        have hal : Below w.heap.size w (w.alloc (.cells #[.int .i64 2, .bool c1, .slice a2 n2 p2, .slice a3 n3 p3, .slice a4 n4 p4, .slice a5 n5 p5, .int .i64 c6, .string c7, .slice a8 n8 p8, .slice a9 n9 p9, .slice a10 n10 p10, .slice a11 n11 p11] 42)) := (Below.refl _ _).alloc (Nat.le_refl _) _
        go_enter Tryz.func22, Tryz.ntmps22
        go_upto_region 1 with fail
        generalize w.alloc (.cells #[.int .i64 2, .bool c1, .slice a2 n2 p2, .slice a3 n3 p3, .slice a4 n4 p4, .slice a5 n5 p5, .int .i64 c6, .string c7, .slice a8 n8 p8, .slice a9 n9 p9, .slice a10 n10 p10, .slice a11 n11 p11] 42) = w1 at RA hal ⊢
        have x0 := RA.cell (i := 0) (v := .int .i64 2) rfl
        have x7 := RA.cell (i := 7) (v := .string c7) rfl
        have x8 := RA.cell (i := 8) (v := .slice a8 n8 p8) rfl
        go_wp2_with fail
        refine (hT _).mono ?_
        rintro e w9 ⟨rfl, rfl⟩
        go_wp2_with fail
        go_ret
        exact ⟨rfl, hal⟩
  by_cases k3 : c0 = 3
  · subst k3
    rw [if_neg (by decide), if_neg (by decide), if_pos rfl]
    cases OK
    · rw [Bool.false_and]
      have RA := RowAt.new w 42 #[.int .i64 3, .bool c1, .slice a2 n2 p2, .slice a3 n3 p3, .slice a4 n4 p4, .slice a5 n5 p5, .int .i64 c6, .string c7, .slice a8 n8 p8, .slice a9 n9 p9, .slice a10 n10 p10, .slice a11 n11 p11]
      have hal : Below w.heap.size w (w.alloc (.cells #[.int .i64 3, .bool c1, .slice a2 n2 p2, .slice a3 n3 p3, .slice a4 n4 p4, .slice a5 n5 p5, .int .i64 c6, .string c7, .slice a8 n8 p8, .slice a9 n9 p9, .slice a10 n10 p10, .slice a11 n11 p11] 42)) := (Below.refl _ _).alloc (Nat.le_refl _) _
      go_enter Tryz.func22, Tryz.ntmps22
      go_upto_region 1 with fail
      generalize w.alloc (.cells #[.int .i64 3, .bool c1, .slice a2 n2 p2, .slice a3 n3 p3, .slice a4 n4 p4, .slice a5 n5 p5, .int .i64 c6, .string c7, .slice a8 n8 p8, .slice a9 n9 p9, .slice a10 n10 p10, .slice a11 n11 p11] 42) = w1 at RA hal ⊢
      have x0 := RA.cell (i := 0) (v := .int .i64 3) rfl
      have x7 := RA.cell (i := 7) (v := .string c7) rfl
      have x9 := RA.cell (i := 9) (v := .slice a9 n9 p9) rfl
      have x10 := RA.cell (i := 10) (v := .slice a10 n10 p10) rfl
      have x11 := RA.cell (i := 11) (v := .slice a11 n11 p11) rfl
      go_wp2_with fail
      refine (hT _).mono ?_
      rintro e w9 ⟨rfl, rfl⟩
      go_wp2_with fail
      go_ret
      exact ⟨rfl, hal⟩
    · rw [Bool.true_and]
      by_cases g1 : 1 ≤ n9
      · have d0 : decide ((1 : Int) ≤ (n9 : Int)) = true := by simp; omega
        have d1 : decide (1 ≤ n9) = true := by simp; omega
        by_cases g2 : n9 ≤ 12
        · have f0 : decide ((n9 : Int) ≤ (12 : Int)) = true := by simp; omega
          have f1 : decide (n9 ≤ 12) = true := by simp; omega
          rw [d1, f1, Bool.true_and, Bool.true_and]
          cases NB
          · rw [Bool.false_and]
            clear g1 g2
            have RA := RowAt.new w 42 #[.int .i64 3, .bool c1, .slice a2 n2 p2, .slice a3 n3 p3, .slice a4 n4 p4, .slice a5 n5 p5, .int .i64 c6, .string c7, .slice a8 n8 p8, .slice a9 n9 p9, .slice a10 n10 p10, .slice a11 n11 p11]
            have hal : Below w.heap.size w (w.alloc (.cells #[.int .i64 3, .bool c1, .slice a2 n2 p2, .slice a3 n3 p3, .slice a4 n4 p4, .slice a5 n5 p5, .int .i64 c6, .string c7, .slice a8 n8 p8, .slice a9 n9 p9, .slice a10 n10 p10, .slice a11 n11 p11] 42)) := (Below.refl _ _).alloc (Nat.le_refl _) _
            go_enter Tryz.func22, Tryz.ntmps22
            go_upto_region 1 with fail
            generalize w.alloc (.cells #[.int .i64 3, .bool c1, .slice a2 n2 p2, .slice a3 n3 p3, .slice a4 n4 p4, .slice a5 n5 p5, .int .i64 c6, .string c7, .slice a8 n8 p8, .slice a9 n9 p9, .slice a10 n10 p10, .slice a11 n11 p11] 42) = w1 at RA hal ⊢
            have x0 := RA.cell (i := 0) (v := .int .i64 3) rfl
            have x7 := RA.cell (i := 7) (v := .string c7) rfl
            have x9 := RA.cell (i := 9) (v := .slice a9 n9 p9) rfl
            have x10 := RA.cell (i := 10) (v := .slice a10 n10 p10) rfl
            have x11 := RA.cell (i := 11) (v := .slice a11 n11 p11) rfl
            go_wp2_with fail
            refine (hT _).mono ?_
            rintro e w9 ⟨rfl, rfl⟩
            go_wp2_with fail
            refine (hN _ (hb0.trans (hal.mono hb0.size))).mono ?_
            rintro e w9 ⟨rfl, hb9⟩
            replace RA := RA.later hb9
            replace hal := hal.trans (hb9.mono hal.size)
            clear hb9 x0 x7 x9 x10 x11
            have x0 := RA.cell (i := 0) (v := .int .i64 3) rfl
            have x7 := RA.cell (i := 7) (v := .string c7) rfl
            have x9 := RA.cell (i := 9) (v := .slice a9 n9 p9) rfl
            have x10 := RA.cell (i := 10) (v := .slice a10 n10 p10) rfl
            have x11 := RA.cell (i := 11) (v := .slice a11 n11 p11) rfl
            go_wp2_with fail
            go_ret
            exact ⟨rfl, hal⟩
          · rw [Bool.true_and]
            by_cases g3 : n10 = n9
            · have m0 : ((n10 : Int) == (n9 : Int)) = true := by simp; omega
              have m1 : (n10 == n9) = true := by simp; omega
              by_cases g4 : n11 ≤ 1
              · have v0 : decide ((n11 : Int) ≤ (1 : Int)) = true := by simp; omega
                have v1 : decide (n11 ≤ 1) = true := by simp; omega
                rw [m1, v1]
                clear g1 g2 g3 g4
                have RA := RowAt.new w 42 #[.int .i64 3, .bool c1, .slice a2 n2 p2, .slice a3 n3 p3, .slice a4 n4 p4, .slice a5 n5 p5, .int .i64 c6, .string c7, .slice a8 n8 p8, .slice a9 n9 p9, .slice a10 n10 p10, .slice a11 n11 p11]
                have hal : Below w.heap.size w (w.alloc (.cells #[.int .i64 3, .bool c1, .slice a2 n2 p2, .slice a3 n3 p3, .slice a4 n4 p4, .slice a5 n5 p5, .int .i64 c6, .string c7, .slice a8 n8 p8, .slice a9 n9 p9, .slice a10 n10 p10, .slice a11 n11 p11] 42)) := (Below.refl _ _).alloc (Nat.le_refl _) _
                go_enter Tryz.func22, Tryz.ntmps22
                go_upto_region 1 with fail
                generalize w.alloc (.cells #[.int .i64 3, .bool c1, .slice a2 n2 p2, .slice a3 n3 p3, .slice a4 n4 p4, .slice a5 n5 p5, .int .i64 c6, .string c7, .slice a8 n8 p8, .slice a9 n9 p9, .slice a10 n10 p10, .slice a11 n11 p11] 42) = w1 at RA hal ⊢
                have x0 := RA.cell (i := 0) (v := .int .i64 3) rfl
                have x7 := RA.cell (i := 7) (v := .string c7) rfl
                have x9 := RA.cell (i := 9) (v := .slice a9 n9 p9) rfl
                have x10 := RA.cell (i := 10) (v := .slice a10 n10 p10) rfl
                have x11 := RA.cell (i := 11) (v := .slice a11 n11 p11) rfl
                go_wp2_with fail
                refine (hT _).mono ?_
                rintro e w9 ⟨rfl, rfl⟩
                go_wp2_with fail
                refine (hN _ (hb0.trans (hal.mono hb0.size))).mono ?_
                rintro e w9 ⟨rfl, hb9⟩
                replace RA := RA.later hb9
                replace hal := hal.trans (hb9.mono hal.size)
                clear hb9 x0 x7 x9 x10 x11
                have x0 := RA.cell (i := 0) (v := .int .i64 3) rfl
                have x7 := RA.cell (i := 7) (v := .string c7) rfl
                have x9 := RA.cell (i := 9) (v := .slice a9 n9 p9) rfl
                have x10 := RA.cell (i := 10) (v := .slice a10 n10 p10) rfl
                have x11 := RA.cell (i := 11) (v := .slice a11 n11 p11) rfl
                go_wp2_with fail
                go_ret
                exact ⟨rfl, hal⟩
              · have v0 : decide ((n11 : Int) ≤ (1 : Int)) = false := by simp; omega
                have v1 : decide (n11 ≤ 1) = false := by simp; omega
                rw [m1, v1]
                clear g1 g2 g3 g4
                have RA := RowAt.new w 42 #[.int .i64 3, .bool c1, .slice a2 n2 p2, .slice a3 n3 p3, .slice a4 n4 p4, .slice a5 n5 p5, .int .i64 c6, .string c7, .slice a8 n8 p8, .slice a9 n9 p9, .slice a10 n10 p10, .slice a11 n11 p11]
                have hal : Below w.heap.size w (w.alloc (.cells #[.int .i64 3, .bool c1, .slice a2 n2 p2, .slice a3 n3 p3, .slice a4 n4 p4, .slice a5 n5 p5, .int .i64 c6, .string c7, .slice a8 n8 p8, .slice a9 n9 p9, .slice a10 n10 p10, .slice a11 n11 p11] 42)) := (Below.refl _ _).alloc (Nat.le_refl _) _
                go_enter Tryz.func22, Tryz.ntmps22
                go_upto_region 1 with fail
                generalize w.alloc (.cells #[.int .i64 3, .bool c1, .slice a2 n2 p2, .slice a3 n3 p3, .slice a4 n4 p4, .slice a5 n5 p5, .int .i64 c6, .string c7, .slice a8 n8 p8, .slice a9 n9 p9, .slice a10 n10 p10, .slice a11 n11 p11] 42) = w1 at RA hal ⊢
                have x0 := RA.cell (i := 0) (v := .int .i64 3) rfl
                have x7 := RA.cell (i := 7) (v := .string c7) rfl
                have x9 := RA.cell (i := 9) (v := .slice a9 n9 p9) rfl
                have x10 := RA.cell (i := 10) (v := .slice a10 n10 p10) rfl
                have x11 := RA.cell (i := 11) (v := .slice a11 n11 p11) rfl
                go_wp2_with fail
                refine (hT _).mono ?_
                rintro e w9 ⟨rfl, rfl⟩
                go_wp2_with fail
                refine (hN _ (hb0.trans (hal.mono hb0.size))).mono ?_
                rintro e w9 ⟨rfl, hb9⟩
                replace RA := RA.later hb9
                replace hal := hal.trans (hb9.mono hal.size)
                clear hb9 x0 x7 x9 x10 x11
                have x0 := RA.cell (i := 0) (v := .int .i64 3) rfl
                have x7 := RA.cell (i := 7) (v := .string c7) rfl
                have x9 := RA.cell (i := 9) (v := .slice a9 n9 p9) rfl
                have x10 := RA.cell (i := 10) (v := .slice a10 n10 p10) rfl
                have x11 := RA.cell (i := 11) (v := .slice a11 n11 p11) rfl
                go_wp2_with fail
                go_ret
                exact ⟨rfl, hal⟩
            · have m0 : ((n10 : Int) == (n9 : Int)) = false := by simp; omega
              have m1 : (n10 == n9) = false := by simp; omega
              rw [m1]
              clear g1 g2 g3
              have RA := RowAt.new w 42 #[.int .i64 3, .bool c1, .slice a2 n2 p2, .slice a3 n3 p3, .slice a4 n4 p4, .slice a5 n5 p5, .int .i64 c6, .string c7, .slice a8 n8 p8, .slice a9 n9 p9, .slice a10 n10 p10, .slice a11 n11 p11]
              have hal : Below w.heap.size w (w.alloc (.cells #[.int .i64 3, .bool c1, .slice a2 n2 p2, .slice a3 n3 p3, .slice a4 n4 p4, .slice a5 n5 p5, .int .i64 c6, .string c7, .slice a8 n8 p8, .slice a9 n9 p9, .slice a10 n10 p10, .slice a11 n11 p11] 42)) := (Below.refl _ _).alloc (Nat.le_refl _) _
              go_enter Tryz.func22, Tryz.ntmps22
              go_upto_region 1 with fail
              generalize w.alloc (.cells #[.int .i64 3, .bool c1, .slice a2 n2 p2, .slice a3 n3 p3, .slice a4 n4 p4, .slice a5 n5 p5, .int .i64 c6, .string c7, .slice a8 n8 p8, .slice a9 n9 p9, .slice a10 n10 p10, .slice a11 n11 p11] 42) = w1 at RA hal ⊢
              have x0 := RA.cell (i := 0) (v := .int .i64 3) rfl
              have x7 := RA.cell (i := 7) (v := .string c7) rfl
              have x9 := RA.cell (i := 9) (v := .slice a9 n9 p9) rfl
              have x10 := RA.cell (i := 10) (v := .slice a10 n10 p10) rfl
              have x11 := RA.cell (i := 11) (v := .slice a11 n11 p11) rfl
              go_wp2_with fail
              refine (hT _).mono ?_
              rintro e w9 ⟨rfl, rfl⟩
              go_wp2_with fail
              refine (hN _ (hb0.trans (hal.mono hb0.size))).mono ?_
              rintro e w9 ⟨rfl, hb9⟩
              replace RA := RA.later hb9
              replace hal := hal.trans (hb9.mono hal.size)
              clear hb9 x0 x7 x9 x10 x11
              have x0 := RA.cell (i := 0) (v := .int .i64 3) rfl
              have x7 := RA.cell (i := 7) (v := .string c7) rfl
              have x9 := RA.cell (i := 9) (v := .slice a9 n9 p9) rfl
              have x10 := RA.cell (i := 10) (v := .slice a10 n10 p10) rfl
              have x11 := RA.cell (i := 11) (v := .slice a11 n11 p11) rfl
              go_wp2_with fail
              go_ret
              exact ⟨rfl, hal⟩
        · have f0 : decide ((n9 : Int) ≤ (12 : Int)) = false := by simp; omega
          have f1 : decide (n9 ≤ 12) = false := by simp; omega
          rw [d1, f1]
          clear g1 g2
          have RA := RowAt.new w 42 #[.int .i64 3, .bool c1, .slice a2 n2 p2, .slice a3 n3 p3, .slice a4 n4 p4, .slice a5 n5 p5, .int .i64 c6, .string c7, .slice a8 n8 p8, .slice a9 n9 p9, .slice a10 n10 p10, .slice a11 n11 p11]
          have hal : Below w.heap.size w (w.alloc (.cells #[.int .i64 3, .bool c1, .slice a2 n2 p2, .slice a3 n3 p3, .slice a4 n4 p4, .slice a5 n5 p5, .int .i64 c6, .string c7, .slice a8 n8 p8, .slice a9 n9 p9, .slice a10 n10 p10, .slice a11 n11 p11] 42)) := (Below.refl _ _).alloc (Nat.le_refl _) _
          go_enter Tryz.func22, Tryz.ntmps22
          go_upto_region 1 with fail
          generalize w.alloc (.cells #[.int .i64 3, .bool c1, .slice a2 n2 p2, .slice a3 n3 p3, .slice a4 n4 p4, .slice a5 n5 p5, .int .i64 c6, .string c7, .slice a8 n8 p8, .slice a9 n9 p9, .slice a10 n10 p10, .slice a11 n11 p11] 42) = w1 at RA hal ⊢
          have x0 := RA.cell (i := 0) (v := .int .i64 3) rfl
          have x7 := RA.cell (i := 7) (v := .string c7) rfl
          have x9 := RA.cell (i := 9) (v := .slice a9 n9 p9) rfl
          have x10 := RA.cell (i := 10) (v := .slice a10 n10 p10) rfl
          have x11 := RA.cell (i := 11) (v := .slice a11 n11 p11) rfl
          go_wp2_with fail
          refine (hT _).mono ?_
          rintro e w9 ⟨rfl, rfl⟩
          go_wp2_with fail
          go_ret
          exact ⟨rfl, hal⟩
      · have d0 : decide ((1 : Int) ≤ (n9 : Int)) = false := by simp; omega
        have d1 : decide (1 ≤ n9) = false := by simp; omega
        rw [d1]
        clear g1
        have RA := RowAt.new w 42 #[.int .i64 3, .bool c1, .slice a2 n2 p2, .slice a3 n3 p3, .slice a4 n4 p4, .slice a5 n5 p5, .int .i64 c6, .string c7, .slice a8 n8 p8, .slice a9 n9 p9, .slice a10 n10 p10, .slice a11 n11 p11]
        have hal : Below w.heap.size w (w.alloc (.cells #[.int .i64 3, .bool c1, .slice a2 n2 p2, .slice a3 n3 p3, .slice a4 n4 p4, .slice a5 n5 p5, .int .i64 c6, .string c7, .slice a8 n8 p8, .slice a9 n9 p9, .slice a10 n10 p10, .slice a11 n11 p11] 42)) := (Below.refl _ _).alloc (Nat.le_refl _) _
        go_enter Tryz.func22, Tryz.ntmps22
        go_upto_region 1 with fail
        generalize w.alloc (.cells #[.int .i64 3, .bool c1, .slice a2 n2 p2, .slice a3 n3 p3, .slice a4 n4 p4, .slice a5 n5 p5, .int .i64 c6, .string c7, .slice a8 n8 p8, .slice a9 n9 p9, .slice a10 n10 p10, .slice a11 n11 p11] 42) = w1 at RA hal ⊢
        have x0 := RA.cell (i := 0) (v := .int .i64 3) rfl
        have x7 := RA.cell (i := 7) (v := .string c7) rfl
        have x9 := RA.cell (i := 9) (v := .slice a9 n9 p9) rfl
        have x10 := RA.cell (i := 10) (v := .slice a10 n10 p10) rfl
        have x11 := RA.cell (i := 11) (v := .slice a11 n11 p11) rfl
        go_wp2_with fail
        refine (hT _).mono ?_
        rintro e w9 ⟨rfl, rfl⟩
        go_wp2_with fail
        go_ret
        exact ⟨rfl, hal⟩
  by_cases k4 : c0 = 4
  · subst k4
    rw [if_neg (by decide), if_neg (by decide), if_neg (by decide), if_pos rfl]
    cases OK
    · rw [Bool.false_and]
      have RA := RowAt.new w 42 #[.int .i64 4, .bool c1, .slice a2 n2 p2, .slice a3 n3 p3, .slice a4 n4 p4, .slice a5 n5 p5, .int .i64 c6, .string c7, .slice a8 n8 p8, .slice a9 n9 p9, .slice a10 n10 p10, .slice a11 n11 p11]
      have hal : Below w.heap.size w (w.alloc (.cells #[.int .i64 4, .bool c1, .slice a2 n2 p2, .slice a3 n3 p3, .slice a4 n4 p4, .slice a5 n5 p5, .int .i64 c6, .string c7, .slice a8 n8 p8, .slice a9 n9 p9, .slice a10 n10 p10, .slice a11 n11 p11] 42)) := (Below.refl _ _).alloc (Nat.le_refl _) _
      go_enter Tryz.func22, Tryz.ntmps22
      go_upto_region 1 with fail
      generalize w.alloc (.cells #[.int .i64 4, .bool c1, .slice a2 n2 p2, .slice a3 n3 p3, .slice a4 n4 p4, .slice a5 n5 p5, .int .i64 c6, .string c7, .slice a8 n8 p8, .slice a9 n9 p9, .slice a10 n10 p10, .slice a11 n11 p11] 42) = w1 at RA hal ⊢
      have x0 := RA.cell (i := 0) (v := .int .i64 4) rfl
      have x7 := RA.cell (i := 7) (v := .string c7) rfl
      have x11 := RA.cell (i := 11) (v := .slice a11 n11 p11) rfl
      go_wp2_with fail
      refine (hT _).mono ?_
      rintro e w9 ⟨rfl, rfl⟩
      go_wp2_with fail
      go_ret
      exact ⟨rfl, hal⟩
    · rw [Bool.true_and]
      by_cases g4 : n11 ≤ 1
      · have v0 : decide ((n11 : Int) ≤ (1 : Int)) = true := by simp; omega
        have v1 : decide (n11 ≤ 1) = true := by simp; omega
        rw [v1]
        clear g4
        have RA := RowAt.new w 42 #[.int .i64 4, .bool c1, .slice a2 n2 p2, .slice a3 n3 p3, .slice a4 n4 p4, .slice a5 n5 p5, .int .i64 c6, .string c7, .slice a8 n8 p8, .slice a9 n9 p9, .slice a10 n10 p10, .slice a11 n11 p11]
        have hal : Below w.heap.size w (w.alloc (.cells #[.int .i64 4, .bool c1, .slice a2 n2 p2, .slice a3 n3 p3, .slice a4 n4 p4, .slice a5 n5 p5, .int .i64 c6, .string c7, .slice a8 n8 p8, .slice a9 n9 p9, .slice a10 n10 p10, .slice a11 n11 p11] 42)) := (Below.refl _ _).alloc (Nat.le_refl _) _
        go_enter Tryz.func22, Tryz.ntmps22
        go_upto_region 1 with fail
        generalize w.alloc (.cells #[.int .i64 4, .bool c1, .slice a2 n2 p2, .slice a3 n3 p3, .slice a4 n4 p4, .slice a5 n5 p5, .int .i64 c6, .string c7, .slice a8 n8 p8, .slice a9 n9 p9, .slice a10 n10 p10, .slice a11 n11 p11] 42) = w1 at RA hal ⊢
        have x0 := RA.cell (i := 0) (v := .int .i64 4) rfl
        have x7 := RA.cell (i := 7) (v := .string c7) rfl
        have x11 := RA.cell (i := 11) (v := .slice a11 n11 p11) rfl
        go_wp2_with fail
        refine (hT _).mono ?_
        rintro e w9 ⟨rfl, rfl⟩
        go_wp2_with fail
        go_ret
        exact ⟨rfl, hal⟩
      · have v0 : decide ((n11 : Int) ≤ (1 : Int)) = false := by simp; omega
        have v1 : decide (n11 ≤ 1) = false := by simp; omega
        rw [v1]
        clear g4
        have RA := RowAt.new w 42 #[.int .i64 4, .bool c1, .slice a2 n2 p2, .slice a3 n3 p3, .slice a4 n4 p4, .slice a5 n5 p5, .int .i64 c6, .string c7, .slice a8 n8 p8, .slice a9 n9 p9, .slice a10 n10 p10, .slice a11 n11 p11]
        have hal : Below w.heap.size w (w.alloc (.cells #[.int .i64 4, .bool c1, .slice a2 n2 p2, .slice a3 n3 p3, .slice a4 n4 p4, .slice a5 n5 p5, .int .i64 c6, .string c7, .slice a8 n8 p8, .slice a9 n9 p9, .slice a10 n10 p10, .slice a11 n11 p11] 42)) := (Below.refl _ _).alloc (Nat.le_refl _) _
        go_enter Tryz.func22, Tryz.ntmps22
        go_upto_region 1 with fail
        generalize w.alloc (.cells #[.int .i64 4, .bool c1, .slice a2 n2 p2, .slice a3 n3 p3, .slice a4 n4 p4, .slice a5 n5 p5, .int .i64 c6, .string c7, .slice a8 n8 p8, .slice a9 n9 p9, .slice a10 n10 p10, .slice a11 n11 p11] 42) = w1 at RA hal ⊢
        have x0 := RA.cell (i := 0) (v := .int .i64 4) rfl
        have x7 := RA.cell (i := 7) (v := .string c7) rfl
        have x11 := RA.cell (i := 11) (v := .slice a11 n11 p11) rfl
        go_wp2_with fail
        refine (hT _).mono ?_
        rintro e w9 ⟨rfl, rfl⟩
        go_wp2_with fail
        go_ret
        exact ⟨rfl, hal⟩
  · rw [if_neg k1, if_neg k2, if_neg k3, if_neg k4]
    have q1 : (c0 == 1) = false := by simpa using k1
    have q2 : (c0 == 2) = false := by simpa using k2
    have q3 : (c0 == 3) = false := by simpa using k3
    have q4 : (c0 == 4) = false := by simpa using k4
    have RA := RowAt.new w 42 #[.int .i64 c0, .bool c1, .slice a2 n2 p2, .slice a3 n3 p3, .slice a4 n4 p4, .slice a5 n5 p5, .int .i64 c6, .string c7, .slice a8 n8 p8, .slice a9 n9 p9, .slice a10 n10 p10, .slice a11 n11 p11]
    have hal : Below w.heap.size w (w.alloc (.cells #[.int .i64 c0, .bool c1, .slice a2 n2 p2, .slice a3 n3 p3, .slice a4 n4 p4, .slice a5 n5 p5, .int .i64 c6, .string c7, .slice a8 n8 p8, .slice a9 n9 p9, .slice a10 n10 p10, .slice a11 n11 p11] 42)) := (Below.refl _ _).alloc (Nat.le_refl _) _
    go_enter Tryz.func22, Tryz.ntmps22
    go_upto_region 1 with fail
    generalize w.alloc (.cells #[.int .i64 c0, .bool c1, .slice a2 n2 p2, .slice a3 n3 p3, .slice a4 n4 p4, .slice a5 n5 p5, .int .i64 c6, .string c7, .slice a8 n8 p8, .slice a9 n9 p9, .slice a10 n10 p10, .slice a11 n11 p11] 42) = w1 at RA hal ⊢
    have x0 := RA.cell (i := 0) (v := .int .i64 c0) rfl
    go_wp2_with fail
    go_ret
    exact ⟨rfl, hal⟩
theorem un_or (c : Nd) {i : Nat} (h0 : i ≠ 0) : unusedN c i = zeroSt i ∨ unusedN c i = c i := by
  unfold unusedN
  rw [if_neg h0]
  split
  · exact .inl rfl
  · exact .inr rfl
theorem un_fits (c : Nd) {i : Nat} {ty : Ty} (h0 : i ≠ 0) (hz : zeroSt i = zd ty) (hd : deep ty = true) (h : Fits (c i) ty) : Fits (unusedN c i) ty := by
  rcases un_or c h0 with e | e <;> rw [e]
  · rw [hz]; exact zd_fits hd
  · exact h
theorem un_msr (c : Nd) {i : Nat} {ty : Ty} (h0 : i ≠ 0) (hz : zeroSt i = zd ty) : msr (unusedN c i) ≤ msr (c i) := by
  rcases un_or c h0 with e | e <;> rw [e]
  · rw [hz]; unfold zd; rw [msr_zero]; exact Nat.zero_le _
  · exact Nat.le_refl _
theorem unused_bd {c : Nd} (h : BdS c) : BdS (unusedN c) :=
  ⟨⟨un_fits c (i := 2) (by decide) rfl rfl h.q.1, un_fits c (i := 3) (by decide) rfl rfl h.q.2.1, un_fits c (i := 4) (by decide) rfl rfl h.q.2.2.1, un_fits c (i := 5) (by decide) rfl rfl h.q.2.2.2⟩,
   un_fits c (by decide) rfl rfl h.f8, un_fits c (by decide) rfl rfl h.f9, un_fits c (by decide) rfl rfl h.f10, un_fits c (by decide) rfl rfl h.f11, by
    have m2 := un_msr c (i := 2) (ty := .items) (by decide) rfl
    have m3 := un_msr c (i := 3) (ty := .sources) (by decide) rfl
    have m4 := un_msr c (i := 4) (ty := .exprs) (by decide) rfl
    have m5 := un_msr c (i := 5) (ty := .keys) (by decide) rfl
    have m8 := un_msr c (i := 8) (ty := .rows) (by decide) rfl
    have m9 := un_msr c (i := 9) (ty := .names) (by decide) rfl
    have m10 := un_msr c (i := 10) (ty := .exprs) (by decide) rfl
    have m11 := un_msr c (i := 11) (ty := .exprs) (by decide) rfl
    have := h.m
    omega⟩
set_option maxRecDepth 100000 in
set_option maxHeartbeats 8000000 in
theorem StmtOk_any (w0 : World) (c : Nd) (us : List Value) (w : World) (hx : OutK stTy w0 us [c]) (hb0 : Below w0.heap.size w0 w) (hs : BdS c) :
    Calls Tryz.prog 7 #[.agg us.toArray] w (BoolE (stOk c) w) := by
  have hU := fun v h => unusedIn_any w0 c us v hx h
  have hSM := fun (vs : List Value) v (ho : OutK stTy w0 vs [unusedN c]) h => SameStmt_any w0 (unusedN c) zeroSt vs _ v ho (zeroSt_out w0) h (unused_bd hs) zeroSt_bd
  have HSM := Lib.hid hSM
  have hE := fun v h => usedOk_any w0 c us v hx h hs
  have hT := fun v h => atTop_any w0 v c us hx h hs
  have hlen : ((stmtExprs c).flatMap (pre 1)).length ≤ 2000000 := by rw [len_flat]; have h1 := siz_wsum hs.bd; have h2 := hs.wsum; omega
  have hK := fun v W h hv => exprsOk_any w0 W (stmtExprs c) v h hv hs.bd hlen
  have HK := Lib.hid hK
  clear hK hSM hlen
  obtain ⟨c0, c1, a2, n2, p2, a3, n3, p3, a4, n4, p4, a5, n5, p5, c6, c7, a8, n8, p8, a9, n9, p9, a10, n10, p10, a11, n11, p11, rfl, ⟨e0, b0⟩, e1, ⟨r2, q2⟩, ⟨r3, q3⟩, ⟨r4, q4⟩, ⟨r5, q5⟩, ⟨e6, b6⟩, ⟨e7, b7⟩, ⟨r8, q8⟩, ⟨r9, q9⟩, ⟨r10, q10⟩, ⟨r11, q11⟩⟩ := hx.stmtRow
  unfold stOk
  generalize stmtSame (unusedN c) zeroSt = S at HSM ⊢
  generalize usedB c = U at hE ⊢
  generalize listOk (stmtExprs c) = K at HK ⊢
  clear hx r2 q2 r3 q3 r4 q4 r5 q5 r8 q8 r9 q9 r10 q10 r11 q11 e0 e1 e6 e7 b0 b6 b7
  cases S
  · rw [Bool.false_and]
    have RA := RowAt.new w 42 #[.int .i64 c0, .bool c1, .slice a2 n2 p2, .slice a3 n3 p3, .slice a4 n4 p4, .slice a5 n5 p5, .int .i64 c6, .string c7, .slice a8 n8 p8, .slice a9 n9 p9, .slice a10 n10 p10, .slice a11 n11 p11]
    have hal : Below w.heap.size w (w.alloc (.cells #[.int .i64 c0, .bool c1, .slice a2 n2 p2, .slice a3 n3 p3, .slice a4 n4 p4, .slice a5 n5 p5, .int .i64 c6, .string c7, .slice a8 n8 p8, .slice a9 n9 p9, .slice a10 n10 p10, .slice a11 n11 p11] 42)) := (Below.refl _ _).alloc (Nat.le_refl _) _
    go_enter Tryz.func7, Tryz.ntmps7
    go_upto_region 1 with fail
    generalize w.alloc (.cells #[.int .i64 c0, .bool c1, .slice a2 n2 p2, .slice a3 n3 p3, .slice a4 n4 p4, .slice a5 n5 p5, .int .i64 c6, .string c7, .slice a8 n8 p8, .slice a9 n9 p9, .slice a10 n10 p10, .slice a11 n11 p11] 42) = w1 at RA hal ⊢
    have x0 := RA.cell (i := 0) (v := .int .i64 c0) rfl
    have x1 := RA.cell (i := 1) (v := .bool c1) rfl
    have x2 := RA.cell (i := 2) (v := .slice a2 n2 p2) rfl
    have x3 := RA.cell (i := 3) (v := .slice a3 n3 p3) rfl
    have x4 := RA.cell (i := 4) (v := .slice a4 n4 p4) rfl
    have x5 := RA.cell (i := 5) (v := .slice a5 n5 p5) rfl
    have x6 := RA.cell (i := 6) (v := .int .i64 c6) rfl
    have x7 := RA.cell (i := 7) (v := .string c7) rfl
    have x8 := RA.cell (i := 8) (v := .slice a8 n8 p8) rfl
    have x9 := RA.cell (i := 9) (v := .slice a9 n9 p9) rfl
    have x10 := RA.cell (i := 10) (v := .slice a10 n10 p10) rfl
    have x11 := RA.cell (i := 11) (v := .slice a11 n11 p11) rfl
    go_wp2_with fail
    refine (hU _ (hb0.trans (hal.mono hb0.size))).mono ?_
    rintro e w2 ⟨vs, rfl, ho, hb⟩
    replace RA := RA.later hb
    replace hal := hal.trans (hb.mono hal.size)
    clear hb x0 x1 x2 x3 x4 x5 x6 x7 x8 x9 x10 x11
    have x0 := RA.cell (i := 0) (v := .int .i64 c0) rfl
    have x1 := RA.cell (i := 1) (v := .bool c1) rfl
    have x2 := RA.cell (i := 2) (v := .slice a2 n2 p2) rfl
    have x3 := RA.cell (i := 3) (v := .slice a3 n3 p3) rfl
    have x4 := RA.cell (i := 4) (v := .slice a4 n4 p4) rfl
    have x5 := RA.cell (i := 5) (v := .slice a5 n5 p5) rfl
    have x6 := RA.cell (i := 6) (v := .int .i64 c6) rfl
    have x7 := RA.cell (i := 7) (v := .string c7) rfl
    have x8 := RA.cell (i := 8) (v := .slice a8 n8 p8) rfl
    have x9 := RA.cell (i := 9) (v := .slice a9 n9 p9) rfl
    have x10 := RA.cell (i := 10) (v := .slice a10 n10 p10) rfl
    have x11 := RA.cell (i := 11) (v := .slice a11 n11 p11) rfl
    go_wp2_with fail
    refine (HSM.out vs _ ho (hb0.trans (hal.mono hb0.size))).mono ?_
    rintro e w3 ⟨rfl, hb⟩
    replace RA := RA.later hb
    replace hal := hal.trans (hb.mono hal.size)
    clear hb x0 x1 x2 x3 x4 x5 x6 x7 x8 x9 x10 x11
    have x0 := RA.cell (i := 0) (v := .int .i64 c0) rfl
    have x1 := RA.cell (i := 1) (v := .bool c1) rfl
    have x2 := RA.cell (i := 2) (v := .slice a2 n2 p2) rfl
    have x3 := RA.cell (i := 3) (v := .slice a3 n3 p3) rfl
    have x4 := RA.cell (i := 4) (v := .slice a4 n4 p4) rfl
    have x5 := RA.cell (i := 5) (v := .slice a5 n5 p5) rfl
    have x6 := RA.cell (i := 6) (v := .int .i64 c6) rfl
    have x7 := RA.cell (i := 7) (v := .string c7) rfl
    have x8 := RA.cell (i := 8) (v := .slice a8 n8 p8) rfl
    have x9 := RA.cell (i := 9) (v := .slice a9 n9 p9) rfl
    have x10 := RA.cell (i := 10) (v := .slice a10 n10 p10) rfl
    have x11 := RA.cell (i := 11) (v := .slice a11 n11 p11) rfl
    go_wp2_with fail
    go_ret
    exact ⟨rfl, hal⟩
  · rw [Bool.true_and]
    cases U
    · rw [Bool.false_and]
      have RA := RowAt.new w 42 #[.int .i64 c0, .bool c1, .slice a2 n2 p2, .slice a3 n3 p3, .slice a4 n4 p4, .slice a5 n5 p5, .int .i64 c6, .string c7, .slice a8 n8 p8, .slice a9 n9 p9, .slice a10 n10 p10, .slice a11 n11 p11]
      have hal : Below w.heap.size w (w.alloc (.cells #[.int .i64 c0, .bool c1, .slice a2 n2 p2, .slice a3 n3 p3, .slice a4 n4 p4, .slice a5 n5 p5, .int .i64 c6, .string c7, .slice a8 n8 p8, .slice a9 n9 p9, .slice a10 n10 p10, .slice a11 n11 p11] 42)) := (Below.refl _ _).alloc (Nat.le_refl _) _
      go_enter Tryz.func7, Tryz.ntmps7
      go_upto_region 1 with fail
      generalize w.alloc (.cells #[.int .i64 c0, .bool c1, .slice a2 n2 p2, .slice a3 n3 p3, .slice a4 n4 p4, .slice a5 n5 p5, .int .i64 c6, .string c7, .slice a8 n8 p8, .slice a9 n9 p9, .slice a10 n10 p10, .slice a11 n11 p11] 42) = w1 at RA hal ⊢
      have x0 := RA.cell (i := 0) (v := .int .i64 c0) rfl
      have x1 := RA.cell (i := 1) (v := .bool c1) rfl
      have x2 := RA.cell (i := 2) (v := .slice a2 n2 p2) rfl
      have x3 := RA.cell (i := 3) (v := .slice a3 n3 p3) rfl
      have x4 := RA.cell (i := 4) (v := .slice a4 n4 p4) rfl
      have x5 := RA.cell (i := 5) (v := .slice a5 n5 p5) rfl
      have x6 := RA.cell (i := 6) (v := .int .i64 c6) rfl
      have x7 := RA.cell (i := 7) (v := .string c7) rfl
      have x8 := RA.cell (i := 8) (v := .slice a8 n8 p8) rfl
      have x9 := RA.cell (i := 9) (v := .slice a9 n9 p9) rfl
      have x10 := RA.cell (i := 10) (v := .slice a10 n10 p10) rfl
      have x11 := RA.cell (i := 11) (v := .slice a11 n11 p11) rfl
      go_wp2_with fail
      refine (hU _ (hb0.trans (hal.mono hb0.size))).mono ?_
      rintro e w2 ⟨vs, rfl, ho, hb⟩
      replace RA := RA.later hb
      replace hal := hal.trans (hb.mono hal.size)
      clear hb x0 x1 x2 x3 x4 x5 x6 x7 x8 x9 x10 x11
      have x0 := RA.cell (i := 0) (v := .int .i64 c0) rfl
      have x1 := RA.cell (i := 1) (v := .bool c1) rfl
      have x2 := RA.cell (i := 2) (v := .slice a2 n2 p2) rfl
      have x3 := RA.cell (i := 3) (v := .slice a3 n3 p3) rfl
      have x4 := RA.cell (i := 4) (v := .slice a4 n4 p4) rfl
      have x5 := RA.cell (i := 5) (v := .slice a5 n5 p5) rfl
      have x6 := RA.cell (i := 6) (v := .int .i64 c6) rfl
      have x7 := RA.cell (i := 7) (v := .string c7) rfl
      have x8 := RA.cell (i := 8) (v := .slice a8 n8 p8) rfl
      have x9 := RA.cell (i := 9) (v := .slice a9 n9 p9) rfl
      have x10 := RA.cell (i := 10) (v := .slice a10 n10 p10) rfl
      have x11 := RA.cell (i := 11) (v := .slice a11 n11 p11) rfl
      go_wp2_with fail
      refine (HSM.out vs _ ho (hb0.trans (hal.mono hb0.size))).mono ?_
      rintro e w3 ⟨rfl, hb⟩
      replace RA := RA.later hb
      replace hal := hal.trans (hb.mono hal.size)
      clear hb x0 x1 x2 x3 x4 x5 x6 x7 x8 x9 x10 x11
      have x0 := RA.cell (i := 0) (v := .int .i64 c0) rfl
      have x1 := RA.cell (i := 1) (v := .bool c1) rfl
      have x2 := RA.cell (i := 2) (v := .slice a2 n2 p2) rfl
      have x3 := RA.cell (i := 3) (v := .slice a3 n3 p3) rfl
      have x4 := RA.cell (i := 4) (v := .slice a4 n4 p4) rfl
      have x5 := RA.cell (i := 5) (v := .slice a5 n5 p5) rfl
      have x6 := RA.cell (i := 6) (v := .int .i64 c6) rfl
      have x7 := RA.cell (i := 7) (v := .string c7) rfl
      have x8 := RA.cell (i := 8) (v := .slice a8 n8 p8) rfl
      have x9 := RA.cell (i := 9) (v := .slice a9 n9 p9) rfl
      have x10 := RA.cell (i := 10) (v := .slice a10 n10 p10) rfl
      have x11 := RA.cell (i := 11) (v := .slice a11 n11 p11) rfl
      go_wp2_with fail
      refine (hE _ (hb0.trans (hal.mono hb0.size))).mono ?_
      rintro e w4 ⟨rfl, hb⟩
      replace RA := RA.later hb
      replace hal := hal.trans (hb.mono hal.size)
      clear hb x0 x1 x2 x3 x4 x5 x6 x7 x8 x9 x10 x11
      have x0 := RA.cell (i := 0) (v := .int .i64 c0) rfl
      have x1 := RA.cell (i := 1) (v := .bool c1) rfl
      have x2 := RA.cell (i := 2) (v := .slice a2 n2 p2) rfl
      have x3 := RA.cell (i := 3) (v := .slice a3 n3 p3) rfl
      have x4 := RA.cell (i := 4) (v := .slice a4 n4 p4) rfl
      have x5 := RA.cell (i := 5) (v := .slice a5 n5 p5) rfl
      have x6 := RA.cell (i := 6) (v := .int .i64 c6) rfl
      have x7 := RA.cell (i := 7) (v := .string c7) rfl
      have x8 := RA.cell (i := 8) (v := .slice a8 n8 p8) rfl
      have x9 := RA.cell (i := 9) (v := .slice a9 n9 p9) rfl
      have x10 := RA.cell (i := 10) (v := .slice a10 n10 p10) rfl
      have x11 := RA.cell (i := 11) (v := .slice a11 n11 p11) rfl
      go_wp2_with fail
      go_ret
      exact ⟨rfl, hal⟩
    · rw [Bool.true_and]
      have RA := RowAt.new w 42 #[.int .i64 c0, .bool c1, .slice a2 n2 p2, .slice a3 n3 p3, .slice a4 n4 p4, .slice a5 n5 p5, .int .i64 c6, .string c7, .slice a8 n8 p8, .slice a9 n9 p9, .slice a10 n10 p10, .slice a11 n11 p11]
      have hal : Below w.heap.size w (w.alloc (.cells #[.int .i64 c0, .bool c1, .slice a2 n2 p2, .slice a3 n3 p3, .slice a4 n4 p4, .slice a5 n5 p5, .int .i64 c6, .string c7, .slice a8 n8 p8, .slice a9 n9 p9, .slice a10 n10 p10, .slice a11 n11 p11] 42)) := (Below.refl _ _).alloc (Nat.le_refl _) _
      go_enter Tryz.func7, Tryz.ntmps7
      go_upto_region 1 with fail
      generalize w.alloc (.cells #[.int .i64 c0, .bool c1, .slice a2 n2 p2, .slice a3 n3 p3, .slice a4 n4 p4, .slice a5 n5 p5, .int .i64 c6, .string c7, .slice a8 n8 p8, .slice a9 n9 p9, .slice a10 n10 p10, .slice a11 n11 p11] 42) = w1 at RA hal ⊢
      have x0 := RA.cell (i := 0) (v := .int .i64 c0) rfl
      have x1 := RA.cell (i := 1) (v := .bool c1) rfl
      have x2 := RA.cell (i := 2) (v := .slice a2 n2 p2) rfl
      have x3 := RA.cell (i := 3) (v := .slice a3 n3 p3) rfl
      have x4 := RA.cell (i := 4) (v := .slice a4 n4 p4) rfl
      have x5 := RA.cell (i := 5) (v := .slice a5 n5 p5) rfl
      have x6 := RA.cell (i := 6) (v := .int .i64 c6) rfl
      have x7 := RA.cell (i := 7) (v := .string c7) rfl
      have x8 := RA.cell (i := 8) (v := .slice a8 n8 p8) rfl
      have x9 := RA.cell (i := 9) (v := .slice a9 n9 p9) rfl
      have x10 := RA.cell (i := 10) (v := .slice a10 n10 p10) rfl
      have x11 := RA.cell (i := 11) (v := .slice a11 n11 p11) rfl
      go_wp2_with fail
      refine (hU _ (hb0.trans (hal.mono hb0.size))).mono ?_
      rintro e w2 ⟨vs, rfl, ho, hb⟩
      replace RA := RA.later hb
      replace hal := hal.trans (hb.mono hal.size)
      clear hb x0 x1 x2 x3 x4 x5 x6 x7 x8 x9 x10 x11
      have x0 := RA.cell (i := 0) (v := .int .i64 c0) rfl
      have x1 := RA.cell (i := 1) (v := .bool c1) rfl
      have x2 := RA.cell (i := 2) (v := .slice a2 n2 p2) rfl
      have x3 := RA.cell (i := 3) (v := .slice a3 n3 p3) rfl
      have x4 := RA.cell (i := 4) (v := .slice a4 n4 p4) rfl
      have x5 := RA.cell (i := 5) (v := .slice a5 n5 p5) rfl
      have x6 := RA.cell (i := 6) (v := .int .i64 c6) rfl
      have x7 := RA.cell (i := 7) (v := .string c7) rfl
      have x8 := RA.cell (i := 8) (v := .slice a8 n8 p8) rfl
      have x9 := RA.cell (i := 9) (v := .slice a9 n9 p9) rfl
      have x10 := RA.cell (i := 10) (v := .slice a10 n10 p10) rfl
      have x11 := RA.cell (i := 11) (v := .slice a11 n11 p11) rfl
      go_wp2_with fail
      refine (HSM.out vs _ ho (hb0.trans (hal.mono hb0.size))).mono ?_
      rintro e w3 ⟨rfl, hb⟩
      replace RA := RA.later hb
      replace hal := hal.trans (hb.mono hal.size)
      clear hb x0 x1 x2 x3 x4 x5 x6 x7 x8 x9 x10 x11
      have x0 := RA.cell (i := 0) (v := .int .i64 c0) rfl
      have x1 := RA.cell (i := 1) (v := .bool c1) rfl
      have x2 := RA.cell (i := 2) (v := .slice a2 n2 p2) rfl
      have x3 := RA.cell (i := 3) (v := .slice a3 n3 p3) rfl
      have x4 := RA.cell (i := 4) (v := .slice a4 n4 p4) rfl
      have x5 := RA.cell (i := 5) (v := .slice a5 n5 p5) rfl
      have x6 := RA.cell (i := 6) (v := .int .i64 c6) rfl
      have x7 := RA.cell (i := 7) (v := .string c7) rfl
      have x8 := RA.cell (i := 8) (v := .slice a8 n8 p8) rfl
      have x9 := RA.cell (i := 9) (v := .slice a9 n9 p9) rfl
      have x10 := RA.cell (i := 10) (v := .slice a10 n10 p10) rfl
      have x11 := RA.cell (i := 11) (v := .slice a11 n11 p11) rfl
      go_wp2_with fail
      refine (hE _ (hb0.trans (hal.mono hb0.size))).mono ?_
      rintro e w4 ⟨rfl, hb⟩
      replace RA := RA.later hb
      replace hal := hal.trans (hb.mono hal.size)
      clear hb x0 x1 x2 x3 x4 x5 x6 x7 x8 x9 x10 x11
      have x0 := RA.cell (i := 0) (v := .int .i64 c0) rfl
      have x1 := RA.cell (i := 1) (v := .bool c1) rfl
      have x2 := RA.cell (i := 2) (v := .slice a2 n2 p2) rfl
      have x3 := RA.cell (i := 3) (v := .slice a3 n3 p3) rfl
      have x4 := RA.cell (i := 4) (v := .slice a4 n4 p4) rfl
      have x5 := RA.cell (i := 5) (v := .slice a5 n5 p5) rfl
      have x6 := RA.cell (i := 6) (v := .int .i64 c6) rfl
      have x7 := RA.cell (i := 7) (v := .string c7) rfl
      have x8 := RA.cell (i := 8) (v := .slice a8 n8 p8) rfl
      have x9 := RA.cell (i := 9) (v := .slice a9 n9 p9) rfl
      have x10 := RA.cell (i := 10) (v := .slice a10 n10 p10) rfl
      have x11 := RA.cell (i := 11) (v := .slice a11 n11 p11) rfl
      go_wp2_with fail
      refine (hT _ (hb0.trans (hal.mono hb0.size))).mono ?_
      rintro e w5 ⟨v5, rfl, ho5, hb⟩
      replace hal := hal.trans (hb.mono hal.size)
      clear hb RA x0 x1 x2 x3 x4 x5 x6 x7 x8 x9 x10 x11
      have hl5 := ho5.lk (G := fun _ => True) (fun _ _ _ => trivial)
      obtain ⟨a5x, c5x, rfl⟩ := hl5.slice
      go_wp2_with fail
      refine (HK.out _ _ (hb0.trans (hal.mono hb0.size)) hl5).mono ?_
      rintro e w6 ⟨rfl, hb⟩
      replace hal := hal.trans (hb.mono hal.size)
      go_wp2_with fail
      go_ret
      exact ⟨rfl, hal⟩
theorem sum_mono (g : Nat → Nat) {j n : Nat} (h : j ≤ n) : ((List.range j).map g).sum ≤ ((List.range n).map g).sum := by
  induction n with
  | zero => obtain rfl : j = 0 := by omega
            exact Nat.le_refl _
  | succ n ih =>
    by_cases e : j = n + 1
    · rw [e]; exact Nat.le_refl _
    · have := ih (by omega)
      rw [List.range_succ, List.map_append, List.sum_append]; omega
theorem sum_succ (g : Nat → Nat) (j : Nat) : ((List.range (j + 1)).map g).sum = ((List.range j).map g).sum + g j := by
  rw [List.range_succ, List.map_append, List.sum_append]; simp
theorem sizA_sum : ∀ l : List Nat, sizA.of l = l.sum
  | [] => rfl
  | a :: l => by rw [sizA_good.of_cons, sizA_sum l, List.sum_cons]; rfl
theorem sizE_val {c : Nd} {n8 n9 : Nat} {f8 f9 : Nat → Nat → Dat} (h8 : c 8 = .sl n8 10 f8) (h9 : c 9 = .sl n9 6 f9) : foldE sizA c = (1 + ((List.range n8).map fun i => foldE sizA (f8 i)).sum) + ((List.range n9).map fun i => foldQ sizA (f9 i)).sum := by
  rw [siz_parts h8 h9, sizA_sum, sizA_sum]; omega
theorem sizQ_val {q : Nd} (h : FitsQ q) (zz : Nd) : foldQ sizA q = ((List.range (exprsOf q).length).map fun i => foldE sizA ((exprsOf q).getD i zz)).sum := by
  rw [foldQ_is sizA_good h.1 h.2.1 h.2.2.1 h.2.2.2]
  show sizA.of _ = _
  rw [sizA_sum, range_getD (foldE sizA)]
theorem exprsQ_spec (q : Nd) (c0 : Bool) (x1 x2 x3 x4 : Value) (c5 : Int) (w : World) (r1 : Rd w 0 x1 (q 1)) (r2 : Rd w 0 x2 (q 2)) (r3 : Rd w 0 x3 (q 3)) (r4 : Rd w 0 x4 (q 4)) (hq : BdQ q) :
    Calls Tryz.prog 75 #[.agg #[.bool c0, x1, x2, x3, x4, .int .i64 c5]] w (ExprsE (exprsOf q) w) := by
  have q1 := hq.f.1
  have q2 := hq.f.2.1
  have q3 := hq.f.2.2.1
  have q4 := hq.f.2.2.2
  have hm := hq.m
  obtain ⟨n1, k1, f1, h1⟩ := q1.deep rfl
  obtain ⟨n2, k2, f2, h2⟩ := q2.deep rfl
  obtain ⟨n3, k3, f3, h3⟩ := q3.deep rfl
  obtain ⟨n4, k4, f4, h4⟩ := q4.deep rfl
  have hL : exprsOf q = ((exItems (.sl n1 k1 f1) ++ exFrom (.sl n2 k2 f2)) ++ (Dat.sl n3 k3 f3).els) ++ (Dat.sl n4 k4 f4).els := by unfold exprsOf; rw [h1, h2, h3, h4]
  rw [h1] at r1 q1
  rw [h2] at r2 q2
  rw [h3] at r3 q3
  rw [h4] at r4 q4
  obtain rfl : k1 = 13 := q1.2.2.1
  obtain rfl : k2 = 3 := q2.2.2.1
  obtain rfl : k3 = 10 := q3.2.2.1
  obtain rfl : k4 = 11 := q4.2.2.1
  have hcnt : (exItems (.sl n1 13 f1)).length + (exFrom (.sl n2 3 f2)).length + n3 + n4 ≤ 1048576 := by
    rw [h1, h2, h3, h4] at hm
    have k1 := msr_n n1 13 f1
    have k0 : (exItems (.sl n1 13 f1)).length ≤ n1 := by
      unfold exItems
      rw [List.length_map]
      exact Nat.le_trans (List.length_filter_le _ _) (Nat.le_of_eq (els_len n1 13 f1))
    have k2 := exFrom_msr q2
    have k3 := msr_n n3 10 f3
    have k4 := msr_n n4 11 f4
    omega
  obtain ⟨a1, p1, rfl⟩ := r1.slice
  obtain ⟨a2, p2, rfl⟩ := r2.slice
  obtain ⟨a3, p3, rfl⟩ := r3.slice
  obtain ⟨a4, p4, rfl⟩ := r4.slice
  rw [hL]
  exact exprs_spec c0 a1 n1 p1 a2 n2 p2 a3 n3 p3 a4 n4 p4 c5 f1 f2 f3 f4 w r1 q1 r2 q2 r3 q3 r4 q4 hcnt
theorem exprsQ_len {q : Nd} (hq : BdQ q) : (exprsOf q).length ≤ 1048576 := by
  have := exprs_len hq.f.1 hq.f.2.1 hq.f.2.2.1 hq.f.2.2.2
  have g1 := siz_le (q 1) _ hq.f.1
  have g2 := siz_le (q 2) _ hq.f.2.1
  have g3 := siz_le (q 3) _ hq.f.2.2.1
  have g4 := siz_le (q 4) _ hq.f.2.2.2
  have hm := hq.m
  have hs : foldQ sizA q ≤ 1048576 := by show _ + _ + _ + _ ≤ _; omega
  omega
theorem exprsQ_bd {q : Nd} (hq : BdQ q) : ∀ e ∈ exprsOf q, Bd e := by
  have hm := hq.m
  exact queryBd hq.f.1 hq.f.2.1 hq.f.2.2.1 hq.f.2.2.2 (by omega) (by omega) (by omega) (by omega)
structure LS (w1 wr : World) (X : Nat) (arr : Array Value) (out : Value) (L : List Nd) : Prop where
  box : RowAt wr X 42 arr
  own : OutE w1 wr w1.heap.size out L
  b : Below w1.heap.size w1 wr
theorem LS.app {w1 wr w' : World} {X : Nat} {arr : Array Value} {out out' : Value} {L L' : List Nd} (H : LS w1 wr X arr out L) (hX : X < w1.heap.size) (h : OutE w1 w' w1.heap.size out' L') (hb : Below w1.heap.size wr w') : LS w1 w' X arr out' L' :=
  ⟨(hb.block _ hX).trans H.box, h, H.b.trans hb⟩
def StExE (L : List Nd) (W : World) (e : Ending) (w' : World) : Prop := ∃ (v : Value) (w0 : World), e = .returned v ∧ OutE w0 w' W.heap.size v L ∧ Below w0.heap.size w0 w' ∧ Below W.heap.size W w'
set_option maxRecDepth 100000 in
set_option maxHeartbeats 8000000 in
theorem stmtExprs_spec (c : Nd) (c0 : Int) (c1 : Bool) (x2 x3 x4 x5 : Value) (c6 : Int) (c7 : ByteArray) (x8 x9 x10 x11 : Value) (W : World) (r2 : Rd W 0 x2 (c 2)) (r3 : Rd W 0 x3 (c 3)) (r4 : Rd W 0 x4 (c 4)) (r5 : Rd W 0 x5 (c 5)) (r8 : Rd W 0 x8 (c 8)) (r10 : Rd W 0 x10 (c 10)) (r11 : Rd W 0 x11 (c 11)) (hs : BdS c) :
    Calls Tryz.prog 38 #[.agg #[.int .i64 c0, .bool c1, x2, x3, x4, x5, .int .i64 c6, .string c7, x8, x9, x10, x11]] W (StExE (stmtExprs c) W) := by
  have hE := fun w (h : Below W.heap.size W w) => exprsQ_spec (cut 1 c) c1 x2 x3 x4 x5 c6 w (r2.later h) (r3.later h) (r4.later h) (r5.later h) hs.query
  have q8 := hs.f8
  have q10 := hs.f10
  have q11 := hs.f11
  have hws := hs.wsum
  have key : ∀ L : List Nd, L.length ≤ wsum L := fun L => by
    induction L with
    | nil => exact Nat.le_refl _
    | cons a L ih => rw [List.length_cons, wsum_cons]; unfold wt; omega
  have hlen : (stmtExprs c).length ≤ 1048576 := Nat.le_trans (key _) hws
  have e : stmtExprs c = ((exprsOf (cut 1 c) ++ rowsOf (c 8)) ++ (c 10).els) ++ (c 11).els := by unfold stmtExprs outsideOf; simp only [List.append_assoc]
  rw [e] at hlen ⊢
  generalize exprsOf (cut 1 c) = L0 at *
  obtain ⟨a8, n8, p8, rfl⟩ := r8.slice_of q8 rfl
  obtain ⟨a10, n10, p10, rfl⟩ := r10.slice_of q10 rfl
  obtain ⟨a11, n11, p11, rfl⟩ := r11.slice_of q11 rfl
  obtain ⟨f8, e8, r8, q8⟩ := r8.openS q8 rfl
  obtain ⟨f10, e10, r10, q10⟩ := r10.openS q10 rfl
  obtain ⟨f11, e11, r11, q11⟩ := r11.openS q11 rfl
  have hn8 : n8 ≤ 9223372036854775807 := q8.2.1
  rw [e8, e10, e11] at hlen ⊢
  simp only [List.length_append] at hlen
  have l10 : (Dat.sl n10 10 f10).els.length = n10 := els_len _ _ _
  have l11 : (Dat.sl n11 10 f11).els.length = n11 := els_len _ _ _
  replace hlen : (L0.length + (rowsOf (.sl n8 1 f8)).length + n10) + n11 ≤ 1048576 := by
    rw [← l10, ← l11]; exact hlen
  have HN := Lib.hid hlen
  have R := RowAt.new W 42 #[.int .i64 c0, .bool c1, x2, x3, x4, x5, .int .i64 c6, .string c7, .slice a8 n8 p8, x9, .slice a10 n10 p10, .slice a11 n11 p11]
  have hB : Below W.heap.size W (W.alloc (.cells #[.int .i64 c0, .bool c1, x2, x3, x4, x5, .int .i64 c6, .string c7, .slice a8 n8 p8, x9, .slice a10 n10 p10, .slice a11 n11 p11] 42)) := (Below.refl _ _).alloc (Nat.le_refl _) _
  have hX : W.heap.size < (W.alloc (.cells #[.int .i64 c0, .bool c1, x2, x3, x4, x5, .int .i64 c6, .string c7, .slice a8 n8 p8, x9, .slice a10 n10 p10, .slice a11 n11 p11] 42)).heap.size := by simp
  clear hs hws key e e8 e10 e11 l10 l11 hlen r2 r3 r4 r5
  go_enter Tryz.func38, Tryz.ntmps38
  go_wp2_with fail
  generalize (W.alloc (.cells #[.int .i64 c0, .bool c1, x2, x3, x4, x5, .int .i64 c6, .string c7, .slice a8 n8 p8, x9, .slice a10 n10 p10, .slice a11 n11 p11] 42)) = w1 at R hB hX ⊢
  replace r8 := r8.later hB
  replace r10 := r10.later hB
  replace r11 := r11.later hB
  have X0 := R.cell (i := 0) (v := .int .i64 c0) rfl
  have X1 := R.cell (i := 1) (v := .bool c1) rfl
  have X2 := R.cell (i := 2) (v := x2) rfl
  have X3 := R.cell (i := 3) (v := x3) rfl
  have X4 := R.cell (i := 4) (v := x4) rfl
  have X5 := R.cell (i := 5) (v := x5) rfl
  have X6 := R.cell (i := 6) (v := .int .i64 c6) rfl
  have X7 := R.cell (i := 7) (v := .string c7) rfl
  have X8 := R.cell (i := 8) (v := .slice a8 n8 p8) rfl
  have X9 := R.cell (i := 9) (v := x9) rfl
  have X10 := R.cell (i := 10) (v := .slice a10 n10 p10) rfl
  have X11 := R.cell (i := 11) (v := .slice a11 n11 p11) rfl

  try go_wp2_with fail
  refine (hE _ hB).mono ?_
  clear hE X0 X1 X2 X3 X4 X5 X6 X7 X8 X9 X10 X11
  rintro e w2 ⟨v, rfl, ho, hb2⟩
  have H : LS w1 w2 W.heap.size #[.int .i64 c0, .bool c1, x2, x3, x4, x5, .int .i64 c6, .string c7, .slice a8 n8 p8, x9, .slice a10 n10 p10, .slice a11 n11 p11] v L0 := ⟨R.later hb2, ho.low (Nat.le_succ _), hb2⟩
  clear R ho hb2
  have HX := Lib.hid hX
  have HBB := Lib.hid hB
  clear hX hB
  go_wp2_with fail
  go_loopw [3, 4] (fun out i wr => ∃ (j : Nat) (v : Value), j ≤ n8 ∧ i = .int .i64 (j : Int) ∧ v = out ∧ LS w1 wr W.heap.size #[.int .i64 c0, .bool c1, x2, x3, x4, x5, .int .i64 c6, .string c7, .slice a8 n8 p8, x9, .slice a10 n10 p10, .slice a11 n11 p11] v (L0 ++ rowsOf (.sl j 1 f8))) (fun _ i _ => n8 - (intOf i).toNat)
  case atStart => exact ⟨0, _, by omega, rfl, rfl, by show LS w1 _ _ _ _ (_ ++ []); rw [List.append_nil]; exact H⟩
  case round =>
    obtain ⟨j, v, hj, rfl, rfl, H⟩ := hrel
    have b1 := H.box.cell (i := 8) (v := .slice a8 n8 p8) rfl
    by_cases hlt : j < n8
    · have hlt2 : (j : Int) < (n8 : Int) := by omega
      obtain ⟨g, o, rfl, -, hg, x0, z0, r0, q0⟩ := row_rows r8 q8 hlt
      replace z0 := (H.b.cell (p := ⟨g, o + j, none⟩) hg).trans z0
      obtain ⟨nn, kk, ff, hsl⟩ := q0.deep rfl
      obtain ⟨ya, yn, yc, rfl⟩ := r0.slice_of q0 rfl
      have hsum : L0 ++ rowsOf (.sl (j + 1) 1 f8) = (L0 ++ rowsOf (.sl j 1 f8)) ++ (Dat.sl nn kk ff).els := by rw [rowsOf_succ, hsl, List.append_assoc]
      have hl : (L0 ++ rowsOf (.sl j 1 f8)).length ≤ 1048576 ∧ nn ≤ 1048576 := by
        have key : ∀ m, j + 1 ≤ m → (rowsOf (.sl (j + 1) 1 f8)).length ≤ (rowsOf (.sl m 1 f8)).length := fun m => by
          induction m with
          | zero => intro h; omega
          | succ m ih =>
            intro h
            by_cases e : j + 1 = m + 1
            · rw [e]; exact Nat.le_refl _
            · have := ih (by omega)
              have e2 : (rowsOf (.sl (m + 1) 1 f8)).length = (rowsOf (.sl m 1 f8)).length + (f8 m 0).els.length := by rw [rowsOf_succ, List.length_append]
              omega
        have h1 := key n8 (by omega)
        have h2 := HN.out
        rw [rowsOf_succ, hsl, List.length_append, els_len] at h1
        rw [List.length_append]
        omega
      rw [hsl] at r0 q0
      have HS := Lib.hid hsum
      obtain ⟨hl1, hl2⟩ := hl
      clear hsum hsl
      go_wp2_with (at_builtin; refine appM rfl (.tmp 15) (.tmp 20) rfl w1 w1.heap.size v (L0 ++ rowsOf (.sl j 1 f8)) ya yn yc nn kk ff wr rfl rfl H.own r0 q0 H.b (by omega) (by omega) H.b.size ?_; intro v' w' hown' hb')
      have H2 := H.app HX.out hown' hb'
      rw [← HS.out] at H2
      go_roundw
      case rel => exact ⟨j + 1, _, by omega, by go_num, rfl, H2⟩
      case measure => simp [intOf]; omega
    · obtain rfl : n8 = j := by omega
      clear hlt hj
      have hl : (L0 ++ rowsOf (.sl n8 1 f8)).length ≤ 1048576 ∧ n10 ≤ 1048576 := by
        have h2 := HN.out
        rw [List.length_append]
        omega
      obtain ⟨hl1, hl2⟩ := hl
      have b10 := H.box.cell (i := 10) (v := .slice a10 n10 p10) rfl
      have hl3 : ((L0 ++ rowsOf (.sl n8 1 f8)) ++ (Dat.sl n10 10 f10).els).length ≤ 1048576 ∧ n11 ≤ 1048576 := by
        have h2 := HN.out
        rw [List.length_append, List.length_append, els_len]
        omega
      obtain ⟨hl3, hl4⟩ := hl3
      go_wp2_with (first
        | (at_builtin; refine appM rfl (.tmp 26) (.tmp 28) rfl w1 w1.heap.size v1 ((L0 ++ rowsOf (.sl n8 1 f8)) ++ (Dat.sl n10 10 f10).els) a11 n11 p11 n11 10 f11 _ rfl rfl H2.own r11 q11 H2.b hl5 hl6 H2.b.size ?_; intro v2 w3 hown2 hb3)
        | (at_builtin; refine appM rfl (.tmp 22) (.tmp 24) rfl w1 w1.heap.size v (L0 ++ rowsOf (.sl n8 1 f8)) a10 n10 p10 n10 10 f10 _ rfl rfl H.own r10 q10 H.b (by omega) (by omega) H.b.size ?_; intro v1 w2 hown1 hb1; have H2 : LS w1 w2 W.heap.size #[.int .i64 c0, .bool c1, x2, x3, x4, x5, .int .i64 c6, .string c7, .slice a8 n8 p8, x9, .slice a10 n10 p10, .slice a11 n11 p11] v1 ((L0 ++ rowsOf (.sl n8 1 f8)) ++ (Dat.sl n10 10 f10).els) := H.app HX.out hown1 hb1; have b11 := H2.box.cell (i := 11) (v := .slice a11 n11 p11) rfl; have hl5 := Nat.le_trans hl3 (show 1048576 ≤ 2000000 by decide); have hl6 := Nat.le_trans hl4 (show 1048576 ≤ 2000000 by decide); clear b10 b1))
      go_ret
      exact ⟨_, w1, rfl, hown2.low HBB.out.size, H2.b.trans hb3, HBB.out.trans ((H2.b.trans hb3).mono HBB.out.size)⟩
set_option maxRecDepth 100000 in
set_option maxHeartbeats 8000000 in
theorem StmtDepth_spec (c : Nd) (c0 : Int) (c1 : Bool) (x2 x3 x4 x5 : Value) (c6 : Int) (c7 : ByteArray) (x8 x9 x10 x11 : Value) (W : World) (r2 : Rd W 0 x2 (c 2)) (r3 : Rd W 0 x3 (c 3)) (r4 : Rd W 0 x4 (c 4)) (r5 : Rd W 0 x5 (c 5)) (r8 : Rd W 0 x8 (c 8)) (r10 : Rd W 0 x10 (c 10)) (r11 : Rd W 0 x11 (c 11)) (hs : BdS c) :
    Calls Tryz.prog 14 #[.agg #[.int .i64 c0, .bool c1, x2, x3, x4, x5, .int .i64 c6, .string c7, x8, x9, x10, x11]] W (IntE ((depA.of ((stmtExprs c).map (foldE depA)) : Nat) : Int) W) := by
  have hO := fun w (h : Below W.heap.size W w) => stmtExprs_spec c c0 c1 x2 x3 x4 x5 c6 c7 x8 x9 x10 x11 w (r2.later h) (r3.later h) (r4.later h) (r5.later h) (r8.later h) (r10.later h) (r11.later h) hs
  have hbd := hs.bd
  have hws := hs.wsum
  have hsz := siz_wsum hbd
  have hdp := dep_siz (L := stmtExprs c)
  have hlen : (stmtExprs c).length ≤ 1048576 := by
    have key : ∀ L : List Nd, L.length ≤ wsum L := fun L => by
      induction L with
      | nil => exact Nat.le_refl _
      | cons a L ih => rw [List.length_cons, wsum_cons]; unfold wt; omega
    have := key (stmtExprs c); omega
  have hel : ∀ nd ∈ stmtExprs c, Fits (nd 8) .exprs ∧ Fits (nd 9) .queries ∧ DepthOfP nd := fun nd h => by
    have h1 := wsum_mem h
    have h2 := siz_wt (hbd nd h)
    exact ⟨(hbd nd h).f8, (hbd nd h).f9, (depthOf_all 1048577).1 nd (by omega) (by omega) (hbd nd h).f8 (hbd nd h).f9⟩
  have hD : depA.of ((stmtExprs c).map (foldE depA)) ≤ 1048576 := by omega
  clear hbd hws hsz hdp
  generalize stmtExprs c = L at *
  have hpre : ∀ j, j ≤ L.length → depA.of ((L.take j).map (foldE depA)) ≤ 1048576 := fun j _ => by
    have e : L = L.take j ++ L.drop j := (List.take_append_drop _ _).symm
    have h : depA.of (L.map (foldE depA)) = depA.up (depA.of ((L.take j).map (foldE depA))) (depA.of ((L.drop j).map (foldE depA))) := by
      conv => lhs; rw [e]
      rw [List.map_append, depA_good.of_append]
    have h2 : ∀ a b : Nat, a ≤ depA.up a b := fun a b => by show a ≤ max a b; omega
    have := h2 (depA.of ((L.take j).map (foldE depA))) (depA.of ((L.drop j).map (foldE depA)))
    omega
  have hsn : ∀ j (h : j < L.length), depA.of ((L.take (j + 1)).map (foldE depA)) = max (depA.of ((L.take j).map (foldE depA))) (foldE depA L[j]) := fun j h => by
    rw [take_next (List.getElem?_eq_getElem h), List.map_append, List.map_cons, List.map_nil, Alg.of_snoc]; rfl
  have hBx : Below W.heap.size W (W.alloc (.cells #[.int .i64 c0, .bool c1, x2, x3, x4, x5, .int .i64 c6, .string c7, x8, x9, x10, x11] 42)) := (Below.refl _ _).alloc (Nat.le_refl _) _
  have R := RowAt.new W 42 #[.int .i64 c0, .bool c1, x2, x3, x4, x5, .int .i64 c6, .string c7, x8, x9, x10, x11]
  go_enter Tryz.func14, Tryz.ntmps14
  go_wp2_with fail
  generalize (W.alloc (.cells #[.int .i64 c0, .bool c1, x2, x3, x4, x5, .int .i64 c6, .string c7, x8, x9, x10, x11] 42)) = w1 at R hBx ⊢
  have X0 := R.cell (i := 0) (v := .int .i64 c0) rfl
  have X1 := R.cell (i := 1) (v := .bool c1) rfl
  have X2 := R.cell (i := 2) (v := x2) rfl
  have X3 := R.cell (i := 3) (v := x3) rfl
  have X4 := R.cell (i := 4) (v := x4) rfl
  have X5 := R.cell (i := 5) (v := x5) rfl
  have X6 := R.cell (i := 6) (v := .int .i64 c6) rfl
  have X7 := R.cell (i := 7) (v := .string c7) rfl
  have X8 := R.cell (i := 8) (v := x8) rfl
  have X9 := R.cell (i := 9) (v := x9) rfl
  have X10 := R.cell (i := 10) (v := x10) rfl
  have X11 := R.cell (i := 11) (v := x11) rfl

  try go_wp2_with fail
  refine (hO _ hBx).mono ?_
  clear hO X0 X1 X2 X3 X4 X5 X6 X7 X8 X9 X10 X11 R
  rintro e w2 ⟨v, w0, rfl, ho, hbw, hb2⟩
  obtain ⟨ag, pg, rfl, hr, hf⟩ := ho.rd hbw (by omega) (fun _ => .v undef)
  have hB2 := hBx.trans (hb2.mono hBx.size)
  clear ho hbw hb2 hBx w0
  have hB0 := Below.refl w2.heap.size w2
  go_wp2_with fail
  go_loopw [3, 5] (fun m i wr => ∃ (j K : Nat), j ≤ L.length ∧ i = .int .i64 (j : Int) ∧ m = .int .i64 (K : Int) ∧ Hid (K = depA.of ((L.take j).map (foldE depA))) ∧ Below w2.heap.size w2 wr) (fun _ i _ => L.length - (intOf i).toNat)
  case atStart => exact ⟨0, 0, by omega, rfl, rfl, rfl, hB0⟩
  case round =>
    obtain ⟨j, K, hj, rfl, rfl, HA, hB⟩ := hrel
    by_cases hlt : j < L.length
    · have hlt2 : (j : Int) < (L.length : Int) := by omega
      obtain ⟨g, o, rfl, -, hg, y0, y1, y2, y3, y4, y5, y6, y7, y8, y9, ⟨z0, z1, z2, z3, z4, z5, z6, z7, z8, z9⟩, ⟨-, -, -, -, -, -, -, -, ⟨r8, q8⟩, ⟨r9, q9⟩⟩⟩ := row_exprs (hr.later hB) hf hlt
      have hgd : L.getD j (fun _ => Dat.v undef) = L[j] := by rw [List.getD_eq_getElem?_getD, List.getElem?_eq_getElem hlt]; rfl
      replace r8 : Rd wr 0 y8 (L[j] 8) := by rw [← hgd]; exact r8
      replace r9 : Rd wr 0 y9 (L[j] 9) := by rw [← hgd]; exact r9
      clear q8 q9 hgd
      obtain ⟨q8, q9, hP⟩ := hel L[j] (List.getElem_mem hlt)
      unfold DepthOfP at hP
      have hS := fun w => hP y0 y1 y2 y3 y4 y5 y6 y7 y8 y9 w
      have hs1 := hsn j hlt
      have hs2 := hpre (j + 1) (by omega)
      rw [hs1] at hs2
      rw [← HA.out] at hs1 hs2
      clear hP
      generalize hV : foldE depA L[j] = V at hS hs1 hs2
      clear hV
      have HS := Lib.hid hs1.symm
      clear hs1 HA
      have hM := fun w => max_spec K V w (by omega) (by omega)
      generalize max K V = M at hM HS
      go_wp2_with fail
      refine (hS _ r8 q8 r9 q9).mono ?_
      rintro e w3 ⟨rfl, hb⟩
      replace hb := hB.trans (hb.mono hB.size)
      go_wp2_with fail
      refine (hM _).mono ?_
      rintro e w4 ⟨rfl, rfl⟩
      go_wp2_with fail
      go_roundw
      case rel => exact ⟨j + 1, M, by omega, by go_num, rfl, HS.out, hb⟩
      case measure => simp [intOf]; omega
    · obtain rfl : j = L.length := by omega
      have h := HA.out
      rw [List.take_length] at h
      have HH := Lib.hid h
      have hBB := hB2.trans (hB.mono hB2.size)
      clear hlt hj HA h
      go_wp2_with fail
      go_ret
      have h := HH.out
      subst h
      exact ⟨rfl, hBB⟩
set_option maxRecDepth 100000 in
set_option maxHeartbeats 8000000 in
theorem StmtSize_spec (c : Nd) (c0 : Int) (c1 : Bool) (x2 x3 x4 x5 : Value) (c6 : Int) (c7 : ByteArray) (x8 x9 x10 x11 : Value) (W : World) (r2 : Rd W 0 x2 (c 2)) (r3 : Rd W 0 x3 (c 3)) (r4 : Rd W 0 x4 (c 4)) (r5 : Rd W 0 x5 (c 5)) (r8 : Rd W 0 x8 (c 8)) (r10 : Rd W 0 x10 (c 10)) (r11 : Rd W 0 x11 (c 11)) (hs : BdS c) :
    Calls Tryz.prog 15 #[.agg #[.int .i64 c0, .bool c1, x2, x3, x4, x5, .int .i64 c6, .string c7, x8, x9, x10, x11]] W (IntE ((sizA.of ((stmtExprs c).map (foldE sizA)) : Nat) : Int) W) := by
  have hO := fun w (h : Below W.heap.size W w) => stmtExprs_spec c c0 c1 x2 x3 x4 x5 c6 c7 x8 x9 x10 x11 w (r2.later h) (r3.later h) (r4.later h) (r5.later h) (r8.later h) (r10.later h) (r11.later h) hs
  have hbd := hs.bd
  have hws := hs.wsum
  have hsz := siz_wsum hbd
  have hdp := dep_siz (L := stmtExprs c)
  have hlen : (stmtExprs c).length ≤ 1048576 := by
    have key : ∀ L : List Nd, L.length ≤ wsum L := fun L => by
      induction L with
      | nil => exact Nat.le_refl _
      | cons a L ih => rw [List.length_cons, wsum_cons]; unfold wt; omega
    have := key (stmtExprs c); omega
  have hel : ∀ nd ∈ stmtExprs c, Fits (nd 8) .exprs ∧ Fits (nd 9) .queries ∧ SizeOfP nd := fun nd h => by
    have h1 := wsum_mem h
    have h2 := siz_wt (hbd nd h)
    exact ⟨(hbd nd h).f8, (hbd nd h).f9, (sizeOf_all 1048577).1 nd (by omega) (by omega) (hbd nd h).f8 (hbd nd h).f9⟩
  have hD : sizA.of ((stmtExprs c).map (foldE sizA)) ≤ 1048576 := by omega
  clear hbd hws hsz hdp
  generalize stmtExprs c = L at *
  have hpre : ∀ j, j ≤ L.length → sizA.of ((L.take j).map (foldE sizA)) ≤ 1048576 := fun j _ => by
    have e : L = L.take j ++ L.drop j := (List.take_append_drop _ _).symm
    have h : sizA.of (L.map (foldE sizA)) = sizA.up (sizA.of ((L.take j).map (foldE sizA))) (sizA.of ((L.drop j).map (foldE sizA))) := by
      conv => lhs; rw [e]
      rw [List.map_append, sizA_good.of_append]
    have h2 : ∀ a b : Nat, a ≤ sizA.up a b := fun a b => by show a ≤ a + b; omega
    have := h2 (sizA.of ((L.take j).map (foldE sizA))) (sizA.of ((L.drop j).map (foldE sizA)))
    omega
  have hsn : ∀ j (h : j < L.length), sizA.of ((L.take (j + 1)).map (foldE sizA)) = sizA.of ((L.take j).map (foldE sizA)) + foldE sizA L[j] := fun j h => by
    rw [take_next (List.getElem?_eq_getElem h), List.map_append, List.map_cons, List.map_nil, Alg.of_snoc]; rfl
  have hBx : Below W.heap.size W (W.alloc (.cells #[.int .i64 c0, .bool c1, x2, x3, x4, x5, .int .i64 c6, .string c7, x8, x9, x10, x11] 42)) := (Below.refl _ _).alloc (Nat.le_refl _) _
  have R := RowAt.new W 42 #[.int .i64 c0, .bool c1, x2, x3, x4, x5, .int .i64 c6, .string c7, x8, x9, x10, x11]
  go_enter Tryz.func15, Tryz.ntmps15
  go_wp2_with fail
  generalize (W.alloc (.cells #[.int .i64 c0, .bool c1, x2, x3, x4, x5, .int .i64 c6, .string c7, x8, x9, x10, x11] 42)) = w1 at R hBx ⊢
  have X0 := R.cell (i := 0) (v := .int .i64 c0) rfl
  have X1 := R.cell (i := 1) (v := .bool c1) rfl
  have X2 := R.cell (i := 2) (v := x2) rfl
  have X3 := R.cell (i := 3) (v := x3) rfl
  have X4 := R.cell (i := 4) (v := x4) rfl
  have X5 := R.cell (i := 5) (v := x5) rfl
  have X6 := R.cell (i := 6) (v := .int .i64 c6) rfl
  have X7 := R.cell (i := 7) (v := .string c7) rfl
  have X8 := R.cell (i := 8) (v := x8) rfl
  have X9 := R.cell (i := 9) (v := x9) rfl
  have X10 := R.cell (i := 10) (v := x10) rfl
  have X11 := R.cell (i := 11) (v := x11) rfl

  try go_wp2_with fail
  refine (hO _ hBx).mono ?_
  clear hO X0 X1 X2 X3 X4 X5 X6 X7 X8 X9 X10 X11 R
  rintro e w2 ⟨v, w0, rfl, ho, hbw, hb2⟩
  obtain ⟨ag, pg, rfl, hr, hf⟩ := ho.rd hbw (by omega) (fun _ => .v undef)
  have hB2 := hBx.trans (hb2.mono hBx.size)
  clear ho hbw hb2 hBx w0
  have hB0 := Below.refl w2.heap.size w2
  go_wp2_with fail
  go_loopw [3, 5] (fun m i wr => ∃ (j K : Nat), j ≤ L.length ∧ i = .int .i64 (j : Int) ∧ m = .int .i64 (K : Int) ∧ Hid (K = sizA.of ((L.take j).map (foldE sizA))) ∧ Below w2.heap.size w2 wr) (fun _ i _ => L.length - (intOf i).toNat)
  case atStart => exact ⟨0, 0, by omega, rfl, rfl, rfl, hB0⟩
  case round =>
    obtain ⟨j, K, hj, rfl, rfl, HA, hB⟩ := hrel
    by_cases hlt : j < L.length
    · have hlt2 : (j : Int) < (L.length : Int) := by omega
      obtain ⟨g, o, rfl, -, hg, y0, y1, y2, y3, y4, y5, y6, y7, y8, y9, ⟨z0, z1, z2, z3, z4, z5, z6, z7, z8, z9⟩, ⟨-, -, -, -, -, -, -, -, ⟨r8, q8⟩, ⟨r9, q9⟩⟩⟩ := row_exprs (hr.later hB) hf hlt
      have hgd : L.getD j (fun _ => Dat.v undef) = L[j] := by rw [List.getD_eq_getElem?_getD, List.getElem?_eq_getElem hlt]; rfl
      replace r8 : Rd wr 0 y8 (L[j] 8) := by rw [← hgd]; exact r8
      replace r9 : Rd wr 0 y9 (L[j] 9) := by rw [← hgd]; exact r9
      clear q8 q9 hgd
      obtain ⟨q8, q9, hP⟩ := hel L[j] (List.getElem_mem hlt)
      unfold SizeOfP at hP
      have hS := fun w => hP y0 y1 y2 y3 y4 y5 y6 y7 y8 y9 w
      have hs1 := hsn j hlt
      have hs2 := hpre (j + 1) (by omega)
      rw [hs1] at hs2
      rw [← HA.out] at hs1 hs2
      clear hP
      generalize hV : foldE sizA L[j] = V at hS hs1 hs2
      clear hV
      have HS := Lib.hid hs1.symm
      clear hs1 HA
      have hk1 : K + V ≤ 1048576 := hs2
      go_wp2_with fail
      refine (hS _ r8 q8 r9 q9).mono ?_
      rintro e w3 ⟨rfl, hb⟩
      replace hb := hB.trans (hb.mono hB.size)
      go_wp2_with fail
      go_roundw
      case rel => exact ⟨j + 1, K + V, by omega, by go_num, by go_num, HS.out, hb⟩
      case measure => simp [intOf]; omega
    · obtain rfl : j = L.length := by omega
      have h := HA.out
      rw [List.take_length] at h
      have HH := Lib.hid h
      have hBB := hB2.trans (hB.mono hB2.size)
      clear hlt hj HA h
      go_wp2_with fail
      go_ret
      have h := HH.out
      subst h
      exact ⟨rfl, hBB⟩
open Go.RowKit Go.Maps
end Go.Proofs.YtcliijfdlcagoaaGreat
