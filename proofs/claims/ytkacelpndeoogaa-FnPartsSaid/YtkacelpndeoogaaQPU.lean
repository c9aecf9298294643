/- Joined texts: FrameI NodeI RightE SameS. -/
import Derived.Test.YtkacelpndeoogaaQPT
import Derived.Test.YtkacelpndeoogaaQHSameQX
import Derived.Test.YtkacelpndeoogaaQPH
import Derived.Test.YtkacelpndeoogaaQPP
import Derived.Test.YtkacelpndeoogaaQHShapeT
import Derived.Test.YtkacelpndeoogaaQPB
import Derived.Test.YtkacelpndeoogaaQPD
/- The program's test on a query's frame. -/
namespace Go.Proofs.Ytkacelpndeoogaa
open Go.RowKit

theorem item_bd {d : Dat} (hf : Fits d .items) (hm : msr d ≤ 1048576) {x : Nd} (hx : x ∈ d.els) : msr (x 10) ≤ 1048576 ∧ msr (x 11) ≤ 1048576 ∧ msr (x 10) + msr (x 11) ≤ 1999999 := by
  obtain ⟨n, k, f, rfl⟩ := hf.deep rfl
  have hk : k = 13 := hf.2.2.1
  subst hk
  obtain ⟨i, hi, rfl⟩ := List.mem_map.1 hx
  rw [List.mem_range] at hi
  have h1 := msr_el (n := n) (k := 13) (f := f) (i := i) (j := 10) hi (by decide)
  have h2 := msr_el (n := n) (k := 13) (f := f) (i := i) (j := 11) hi (by decide)
  have h3 : wt (cut 2 (f i)) ≤ wsum ((Dat.sl n 13 f).els.map (cut 2)) := by
    have : ∀ (l : List Nd) (x : Nd), x ∈ l → wt x ≤ wsum l := fun l x h => by
      induction l with
      | nil => cases h
      | cons a l ih =>
        rw [wsum_cons]
        rcases List.mem_cons.1 h with rfl | h
        · omega
        · have := ih h; omega
    exact this _ _ (List.mem_map.2 ⟨f i, List.mem_map.2 ⟨i, List.mem_range.2 hi, rfl⟩, rfl⟩)
  have h4 := wsum_items hf
  have h5 : wt (cut 2 (f i)) = msr (f i 10) + msr (f i 11) + 1 := rfl
  refine ⟨Nat.le_trans h1 hm, Nat.le_trans h2 hm, ?_⟩
  show msr (f i 10) + msr (f i 11) ≤ _
  omega
set_option maxRecDepth 100000 in
set_option maxHeartbeats 8000000 in
theorem frameOk_any (w0 : World) (c : Nd) (ys : List Value) (W : World) (hys : OutK (rowTy .queries) w0 ys [c]) (_hb0 : Below w0.heap.size w0 W) (hq : BdQ c) :
    Calls Try.prog 48 #[.agg ys.toArray] W (BoolE (frameB c) W) := by
  obtain ⟨x0, ax1, nx1, px1, ax2, nx2, px2, ax3, nx3, px3, ax4, nx4, px4, x5, rfl, e0, ⟨r1, q1⟩, ⟨r2, q2⟩, ⟨r3, q3⟩, ⟨r4, q4⟩, ⟨e5, -⟩⟩ := hys.queryRow
  have hm := hq.m
  have hv : frameB c = ((decide (1 ≤ nx1) && decide (nx1 ≤ 12)) && ((c 1).els.all itemB && ((decide (1 ≤ nx2) && decide (nx2 ≤ 3)) && ((c 2).els.all sourceB && (firstB (c 2) && (decide (nx3 ≤ 1) && (decide (nx4 ≤ 12) && decide (-1 ≤ x5)))))))) := by
    unfold frameB; rw [r1.slen q1 rfl, r2.slen q2 rfl, r3.slen q3 rfl, r4.slen q4 rfl, num_v e5]
  rw [hv]
  have R := RowAt.new W 38 #[.bool x0, .slice ax1 nx1 px1, .slice ax2 nx2 px2, .slice ax3 nx3 px3, .slice ax4 nx4 px4, .int .i64 x5]
  have hB : Below W.heap.size W (W.alloc (.cells #[.bool x0, .slice ax1 nx1 px1, .slice ax2 nx2 px2, .slice ax3 nx3 px3, .slice ax4 nx4 px4, .int .i64 x5] 38)) := (Below.refl _ _).alloc (Nat.le_refl _) _
  have HB := Lib.hid hB
  have hz := _hb0.trans (hB.mono _hb0.size)
  have hI : ∀ W', Below w0.heap.size w0 W' → Calls Try.prog 101 #[.slice ax1 nx1 px1, .func (.func 102) #[] #[]] W' (BoolE ((c 1).els.all itemB) W') := fun W' hb => by
    obtain ⟨n1, h1⟩ := r1.lkE q1 rfl hb
    have h := every_items w0 W' ax1 px1 _ hb h1 hq.lens.1 fun c' hc' ys W' h hb' => itemOk_any w0 c' ys W' h hb' (item_bd q1 (by omega) hc').1 (item_bd q1 (by omega) hc').2.1 (item_bd q1 (by omega) hc').2.2
    rw [n1] at h
    exact h
  have hS : ∀ W', Below w0.heap.size w0 W' → Calls Try.prog 103 #[.slice ax2 nx2 px2, .func (.func 104) #[] #[]] W' (BoolE ((c 2).els.all sourceB) W') := fun W' hb => by
    obtain ⟨n1, h1⟩ := r2.lkE q2 rfl hb
    have h := every_sources w0 W' ax2 px2 _ hb h1 hq.lens.2.1 fun c' _ ys W' h hb' => sourceOk_any w0 c' ys W' h hb'
    rw [n1] at h
    exact h
  have hF : 1 ≤ nx2 → ∃ (g o : Nat) (a : Option Addr) (n p : Nat), ax2 = some ⟨g, o, none⟩ ∧ (∀ W', Below w0.heap.size w0 W' → W'.cell? ⟨g, o + 2, none⟩ = some (.slice a n p)) ∧ firstB (c 2) = (n == 0) := fun h1n => by
    obtain ⟨n1, h1⟩ := r2.lkE q2 rfl (Below.refl _ _)
    have hlt : 0 < (c 2).els.length := by omega
    obtain ⟨g, o, cap', ys, hv, hys', -, hg, hcell⟩ := h1.at (List.getElem?_eq_getElem hlt)
    injection hv with e1 _ e3
    obtain ⟨y0, y1, a, n, p, rfl, -, -, ⟨r, q⟩⟩ := hys'.sourceRow
    refine ⟨g, o, a, n, p, e1, fun W' hb => ?_, ?_⟩
    · have := hcell 2 _ rfl
      rw [Nat.zero_mul, Nat.add_zero] at this
      exact (hb.cell (p := ⟨g, o + 2, none⟩) hg).trans this
    · unfold firstB
      have e : (c 2).els[0] = (c 2).el 0 := by simp [Dat.els]
      rw [e] at r q
      rw [r.slen q rfl]
  have tn1a : decide ((1 : Int) ≤ (nx1 : Int)) = decide (1 ≤ nx1) := by rw [decide_eq_decide]; omega
  have tn1b : decide ((nx1 : Int) ≤ (12 : Int)) = decide (nx1 ≤ 12) := by rw [decide_eq_decide]; omega
  have tn2a : decide ((1 : Int) ≤ (nx2 : Int)) = decide (1 ≤ nx2) := by rw [decide_eq_decide]; omega
  have tn2b : decide ((nx2 : Int) ≤ (3 : Int)) = decide (nx2 ≤ 3) := by rw [decide_eq_decide]; omega
  have tn3 : decide ((nx3 : Int) ≤ (1 : Int)) = decide (nx3 ≤ 1) := by rw [decide_eq_decide]; omega
  have tn4 : decide ((nx4 : Int) ≤ (12 : Int)) = decide (nx4 ≤ 12) := by rw [decide_eq_decide]; omega
  have HQ := Lib.hid hF
  have HR := Lib.hid R
  have z0 := R.cell (i := 0) (v := .bool x0) rfl
  have z1 := R.cell (i := 1) (v := .slice ax1 nx1 px1) rfl
  have z2 := R.cell (i := 2) (v := .slice ax2 nx2 px2) rfl
  have z3 := R.cell (i := 3) (v := .slice ax3 nx3 px3) rfl
  have z4 := R.cell (i := 4) (v := .slice ax4 nx4 px4) rfl
  have z5 := R.cell (i := 5) (v := .int .i64 x5) rfl
  clear hv hys hB e0 e5 r1 r2 r3 r4 q1 q2 q3 q4 hq hm R hF
  generalize (c 1).els.all itemB = u3 at hI ⊢
  generalize (c 2).els.all sourceB = u6 at hS ⊢
  generalize hu7 : firstB (c 2) = u7
  generalize hu1 : decide (1 ≤ nx1) = u1 at tn1a ⊢
  generalize hu2 : decide (nx1 ≤ 12) = u2 at tn1b ⊢
  generalize hu4 : decide (1 ≤ nx2) = u4 at tn2a ⊢
  generalize hu5 : decide (nx2 ≤ 3) = u5 at tn2b ⊢
  generalize hu8 : decide (nx3 ≤ 1) = u8 at tn3 ⊢
  generalize hu9 : decide (nx4 ≤ 12) = u9 at tn4 ⊢
  generalize hu10 : decide (-1 ≤ x5) = u10
  have HU4 := Lib.hid hu4
  have HU7 := Lib.hid hu7
  clear hu1 hu2 hu4 hu5 hu7 hu8 hu9
  go_enter Try.func48, Try.ntmps48
  cases u1
  · go_wp2_with fail
    go_ret
    exact ⟨rfl, HB.out⟩
  · cases u2
    · go_wp2_with fail
      go_ret
      exact ⟨rfl, HB.out⟩
    · cases u3
      · go_wp2_with fail
        refine (hI _ hz).mono ?_
        rintro e w2 ⟨rfl, hb2⟩
        have hB2 := HB.out.trans (hb2.mono HB.out.size)
        clear hI hb2 z0 z1 z2 z3 z4 z5
        go_wp2_with fail
        go_ret
        exact ⟨rfl, hB2⟩
      · go_wp2_with fail
        refine (hI _ hz).mono ?_
        rintro e w2 ⟨rfl, hb2⟩
        have hB2 := HB.out.trans (hb2.mono HB.out.size)
        have hz2 := hz.trans (hb2.mono hz.size)
        have R2 := HR.out.later hb2
        clear z0 z1 z2 z3 z4 z5
        have z0 := R2.cell (i := 0) (v := .bool x0) rfl
        have z1 := R2.cell (i := 1) (v := .slice ax1 nx1 px1) rfl
        have z2 := R2.cell (i := 2) (v := .slice ax2 nx2 px2) rfl
        have z3 := R2.cell (i := 3) (v := .slice ax3 nx3 px3) rfl
        have z4 := R2.cell (i := 4) (v := .slice ax4 nx4 px4) rfl
        have z5 := R2.cell (i := 5) (v := .int .i64 x5) rfl
        clear hI hb2
        cases u4
        · go_wp2_with fail
          go_ret
          exact ⟨rfl, hB2⟩
        · cases u5
          · go_wp2_with fail
            go_ret
            exact ⟨rfl, hB2⟩
          · obtain ⟨gf, of, af, nf, pf, rfl, hcf, hff⟩ := HQ.out (of_decide_eq_true HU4.out)
            have hp2 := of_decide_eq_true HU4.out
            have hp3 : (0 : Int) < (nx2 : Int) := by omega
            clear HQ HU4
            cases u6
            · go_wp2_with fail
              refine (hS _ hz2).mono ?_
              rintro e w3 ⟨rfl, hb3⟩
              have hB3 := hB2.trans (hb3.mono hB2.size)
              clear hS hcf hff HU7 hb3 R2 z0 z1 z2 z3 z4 z5
              go_wp2_with fail
              go_ret
              exact ⟨rfl, hB3⟩
            · go_wp2_with fail
              refine (hS _ hz2).mono ?_
              rintro e w3 ⟨rfl, hb3⟩
              have hB3 := hB2.trans (hb3.mono hB2.size)
              have hz3 := hz2.trans (hb3.mono hz2.size)
              have R3 := R2.later hb3
              clear z0 z1 z2 z3 z4 z5
              have z0 := R3.cell (i := 0) (v := .bool x0) rfl
              have z1 := R3.cell (i := 1) (v := .slice ax1 nx1 px1) rfl
              have z2 := R3.cell (i := 2) (v := .slice (some ⟨gf, of, none⟩) nx2 px2) rfl
              have z3 := R3.cell (i := 3) (v := .slice ax3 nx3 px3) rfl
              have z4 := R3.cell (i := 4) (v := .slice ax4 nx4 px4) rfl
              have z5 := R3.cell (i := 5) (v := .int .i64 x5) rfl
              have zf := hcf _ hz3
              have h7 : ((nf : Int) == (0 : Int)) = u7 := by rw [← HU7.out, hff, Bool.eq_iff_iff, beq_iff_eq, beq_iff_eq]; omega
              clear hS hcf hff HU7 hb3 hz3 R3 R2
              cases u7
              · go_wp2_with fail
                go_ret
                exact ⟨rfl, hB3⟩
              · cases u8
                · go_wp2_with fail
                  go_ret
                  exact ⟨rfl, hB3⟩
                · cases u9
                  · go_wp2_with fail
                    go_ret
                    exact ⟨rfl, hB3⟩
                  · cases u10
                    · go_wp2_with fail
                      go_ret
                      exact ⟨rfl, hB3⟩
                    · go_wp2_with fail
                      go_ret
                      exact ⟨rfl, hB3⟩
end Go.Proofs.Ytkacelpndeoogaa

/- The program's test on a node, on lists of trees, on an expression and on a query. -/
namespace Go.Proofs.Ytkacelpndeoogaa
open Go.RowKit
attribute [local go_sem] Oper.semAt_some

theorem Bd.query {c : Nd} (h : Bd c) : ∀ q ∈ (c 9).els, BdQ q := by
  intro q hq
  have h9 := h.m9
  have hf := h.f9
  obtain ⟨n, k, f, e⟩ := hf.deep rfl
  rw [e] at hf hq h9
  have hk : k = 6 := hf.2.2.1
  subst hk
  have hfq := fitsQ_of hf hq
  obtain ⟨i, hi, rfl⟩ := List.mem_map.1 hq
  rw [List.mem_range] at hi
  exact ⟨hfq, Nat.le_trans (row_msr hi) h9⟩
theorem shape_v {c : Nd} {c0 c1 : Int} {c2 : Bool} {c3 c4 : Int} {c5 c6 c7 : ByteArray} {n8 n9 : Nat} (e0 : c 0 = .v (.int .i64 c0)) (e1 : c 1 = .v (.int .i64 c1)) (e2 : c 2 = .v (.bool c2)) (e3 : c 3 = .v (.int .i64 c3)) (e4 : c 4 = .v (.int .i64 c4)) (e5 : c 5 = .v (.string c5)) (e6 : c 6 = .v (.string c6)) (e7 : c 7 = .v (.string c7)) (l8 : (c 8).len = n8) (l9 : (c 9).len = n9) :
    shapeB c = (headB c0 c1 c2 c3 c4 c5 && (namesB c0 c6 c7 && takesB c0 n8 n9)) := by
  unfold shapeB shapeF
  rw [num_v e0, num_v e1, tru_v e2, num_v e3, num_v e4, txt_v e5, txt_v e6, txt_v e7, l8, l9]
set_option maxRecDepth 100000 in
set_option maxHeartbeats 8000000 in
theorem nodeOk_any (w0 : World) (c : Nd) (ys : List Value) (W : World) (hys : OutK exprTy w0 ys [c]) (hb0 : Below w0.heap.size w0 W) (hbd : Bd c) :
    Calls Try.prog 95 #[.agg ys.toArray] W (BoolE (nodeB c) W) := by
  obtain ⟨c0, c1, c2, c3, c4, c5, c6, c7, a8, n8, p8, a9, n9, p9, rfl, ⟨e0, -⟩, ⟨e1, -⟩, e2, ⟨e3, -⟩, ⟨e4, -⟩, ⟨e5, b5⟩, ⟨e6, b6⟩, ⟨e7, b7⟩, ⟨r8, q8⟩, ⟨r9, q9⟩⟩ := hys.ten
  have hv : nodeB c = (headB c0 c1 c2 c3 c4 c5 && (namesB c0 c6 c7 && (takesB c0 n8 n9 && (c 9).els.all frameB))) := by
    unfold nodeB; rw [shape_v e0 e1 e2 e3 e4 e5 e6 e7 (r8.slen q8 rfl) (r9.slen q9 rfl)]; simp only [Bool.and_assoc]
  rw [hv]
  have R := RowAt.new W 29 #[.int .i64 c0, .int .i64 c1, .bool c2, .int .i64 c3, .int .i64 c4, .string c5, .string c6, .string c7, .slice a8 n8 p8, .slice a9 n9 p9]
  have hB : Below W.heap.size W (W.alloc (.cells #[.int .i64 c0, .int .i64 c1, .bool c2, .int .i64 c3, .int .i64 c4, .string c5, .string c6, .string c7, .slice a8 n8 p8, .slice a9 n9 p9] 29)) := (Below.refl _ _).alloc (Nat.le_refl _) _
  have HB := Lib.hid hB
  have hz := hb0.trans (hB.mono hb0.size)
  have hF := fun w => fields_any c0 c1 c2 c3 c4 c5 w b5
  have hN := fun w => names_any c0 c1 c2 c3 c4 c5 c6 c7 w b6 b7
  have hT := fun w => takes_any c0 c1 c2 c3 c4 c5 n8 n9 w
  have hQ : ∀ W', Below w0.heap.size w0 W' → Calls Try.prog 163 #[.slice a9 n9 p9, .func (.func 48) #[] #[]] W' (BoolE ((c 9).els.all frameB) W') := fun W' hb => by
    obtain ⟨n1, h1⟩ := r9.lkE q9 rfl hb
    have h := every_queries w0 W' a9 p9 _ hb h1 (Nat.le_trans els_msr hbd.m9) fun q hq ys W' h hb' => frameOk_any w0 q ys W' h hb' (hbd.query q hq)
    rw [n1] at h
    exact h
  have HR := Lib.hid R
  have x0 := R.cell (i := 0) (v := .int .i64 c0) rfl
  have x1 := R.cell (i := 1) (v := .int .i64 c1) rfl
  have x2 := R.cell (i := 2) (v := .bool c2) rfl
  have x3 := R.cell (i := 3) (v := .int .i64 c3) rfl
  have x4 := R.cell (i := 4) (v := .int .i64 c4) rfl
  have x5 := R.cell (i := 5) (v := .string c5) rfl
  have x6 := R.cell (i := 6) (v := .string c6) rfl
  have x7 := R.cell (i := 7) (v := .string c7) rfl
  have x8 := R.cell (i := 8) (v := .slice a8 n8 p8) rfl
  have x9 := R.cell (i := 9) (v := .slice a9 n9 p9) rfl
  clear hv hys hB e0 e1 e2 e3 e4 e5 e6 e7 b5 b6 b7 r8 r9 q8 q9 hbd R
  generalize headB c0 c1 c2 c3 c4 c5 = u1 at hF ⊢
  generalize namesB c0 c6 c7 = u2 at hN ⊢
  generalize takesB c0 n8 n9 = u3 at hT ⊢
  generalize (c 9).els.all frameB = u4 at hQ ⊢
  go_enter Try.func95, Try.ntmps95
  go_wp2_with fail
  refine (nodeOf_any _ _ _ _ _ _ _ _ _ _ _ _ _ _ _).mono ?_
  rintro e w2 ⟨rfl, hb2⟩
  have hB2 := HB.out.trans (hb2.mono HB.out.size)
  have hz2 := hz.trans (hb2.mono hz.size)
  have R2 := HR.out.later hb2
  have RN := RowAt.new w2 202 #[.int .i64 c0, .int .i64 c1, .bool c2, .int .i64 c3, .int .i64 c4, .string c5, .string c6, .string c7]
  have hal : Below w2.heap.size w2 (w2.alloc (.cells #[.int .i64 c0, .int .i64 c1, .bool c2, .int .i64 c3, .int .i64 c4, .string c5, .string c6, .string c7] 202)) := (Below.refl _ _).alloc (Nat.le_refl _) _
  have hB3 := hB2.trans (hal.mono hB2.size)
  have hz3 := hz2.trans (hal.mono hz2.size)
  have R3 := R2.later hal
  clear hb2 hB2 hz2 R2 hal HR hz
  clear x0 x1 x2 x3 x4 x5 x6 x7 x8 x9
  go_wp2_with fail
  generalize w2.alloc (.cells #[.int .i64 c0, .int .i64 c1, .bool c2, .int .i64 c3, .int .i64 c4, .string c5, .string c6, .string c7] 202) = w3 at RN hB3 hz3 R3 ⊢
  generalize w2.heap.size = BN at RN ⊢
  have hRN3 := RN
  have x0 := R3.cell (i := 0) (v := .int .i64 c0) rfl
  have x1 := R3.cell (i := 1) (v := .int .i64 c1) rfl
  have x2 := R3.cell (i := 2) (v := .bool c2) rfl
  have x3 := R3.cell (i := 3) (v := .int .i64 c3) rfl
  have x4 := R3.cell (i := 4) (v := .int .i64 c4) rfl
  have x5 := R3.cell (i := 5) (v := .string c5) rfl
  have x6 := R3.cell (i := 6) (v := .string c6) rfl
  have x7 := R3.cell (i := 7) (v := .string c7) rfl
  have x8 := R3.cell (i := 8) (v := .slice a8 n8 p8) rfl
  have x9 := R3.cell (i := 9) (v := .slice a9 n9 p9) rfl
  have y0 := RN.cell (i := 0) (v := .int .i64 c0) rfl
  have y1 := RN.cell (i := 1) (v := .int .i64 c1) rfl
  have y2 := RN.cell (i := 2) (v := .bool c2) rfl
  have y3 := RN.cell (i := 3) (v := .int .i64 c3) rfl
  have y4 := RN.cell (i := 4) (v := .int .i64 c4) rfl
  have y5 := RN.cell (i := 5) (v := .string c5) rfl
  have y6 := RN.cell (i := 6) (v := .string c6) rfl
  have y7 := RN.cell (i := 7) (v := .string c7) rfl
  have RN3 := RN
  clear RN hRN3
  cases u1
  · go_wp2_with fail
    refine (hF _).mono ?_
    rintro e w4 ⟨rfl, hb⟩
    have hB4 := hB3.trans (hb.mono hB3.size)
    clear hb
    clear x0 x1 x2 x3 x4 x5 x6 x7 x8 x9 y0 y1 y2 y3 y4 y5 y6 y7
    go_wp2_with fail
    go_ret
    exact ⟨rfl, hB4⟩
  · go_wp2_with fail
    refine (hF _).mono ?_
    rintro e w4 ⟨rfl, hb⟩
    have hB4 := hB3.trans (hb.mono hB3.size)
    have hz4 := hz3.trans (hb.mono hz3.size)
    have R4 := R3.later hb
    have RN4 := RN3.later hb
    clear hb
    clear x0 x1 x2 x3 x4 x5 x6 x7 x8 x9 y0 y1 y2 y3 y4 y5 y6 y7
    have x0 := R4.cell (i := 0) (v := .int .i64 c0) rfl
    have x1 := R4.cell (i := 1) (v := .int .i64 c1) rfl
    have x2 := R4.cell (i := 2) (v := .bool c2) rfl
    have x3 := R4.cell (i := 3) (v := .int .i64 c3) rfl
    have x4 := R4.cell (i := 4) (v := .int .i64 c4) rfl
    have x5 := R4.cell (i := 5) (v := .string c5) rfl
    have x6 := R4.cell (i := 6) (v := .string c6) rfl
    have x7 := R4.cell (i := 7) (v := .string c7) rfl
    have x8 := R4.cell (i := 8) (v := .slice a8 n8 p8) rfl
    have x9 := R4.cell (i := 9) (v := .slice a9 n9 p9) rfl
    have y0 := RN4.cell (i := 0) (v := .int .i64 c0) rfl
    have y1 := RN4.cell (i := 1) (v := .int .i64 c1) rfl
    have y2 := RN4.cell (i := 2) (v := .bool c2) rfl
    have y3 := RN4.cell (i := 3) (v := .int .i64 c3) rfl
    have y4 := RN4.cell (i := 4) (v := .int .i64 c4) rfl
    have y5 := RN4.cell (i := 5) (v := .string c5) rfl
    have y6 := RN4.cell (i := 6) (v := .string c6) rfl
    have y7 := RN4.cell (i := 7) (v := .string c7) rfl
    cases u2
    · go_wp2_with fail
      refine (hN _).mono ?_
      rintro e w5 ⟨rfl, hb⟩
      have hB5 := hB4.trans (hb.mono hB4.size)
      clear hb
      clear x0 x1 x2 x3 x4 x5 x6 x7 x8 x9 y0 y1 y2 y3 y4 y5 y6 y7
      go_wp2_with fail
      go_ret
      exact ⟨rfl, hB5⟩
    · go_wp2_with fail
      refine (hN _).mono ?_
      rintro e w5 ⟨rfl, hb⟩
      have hB5 := hB4.trans (hb.mono hB4.size)
      have hz5 := hz4.trans (hb.mono hz4.size)
      have R5 := R4.later hb
      have RN5 := RN4.later hb
      clear hb
      clear x0 x1 x2 x3 x4 x5 x6 x7 x8 x9 y0 y1 y2 y3 y4 y5 y6 y7
      have x0 := R5.cell (i := 0) (v := .int .i64 c0) rfl
      have x1 := R5.cell (i := 1) (v := .int .i64 c1) rfl
      have x2 := R5.cell (i := 2) (v := .bool c2) rfl
      have x3 := R5.cell (i := 3) (v := .int .i64 c3) rfl
      have x4 := R5.cell (i := 4) (v := .int .i64 c4) rfl
      have x5 := R5.cell (i := 5) (v := .string c5) rfl
      have x6 := R5.cell (i := 6) (v := .string c6) rfl
      have x7 := R5.cell (i := 7) (v := .string c7) rfl
      have x8 := R5.cell (i := 8) (v := .slice a8 n8 p8) rfl
      have x9 := R5.cell (i := 9) (v := .slice a9 n9 p9) rfl
      have y0 := RN5.cell (i := 0) (v := .int .i64 c0) rfl
      have y1 := RN5.cell (i := 1) (v := .int .i64 c1) rfl
      have y2 := RN5.cell (i := 2) (v := .bool c2) rfl
      have y3 := RN5.cell (i := 3) (v := .int .i64 c3) rfl
      have y4 := RN5.cell (i := 4) (v := .int .i64 c4) rfl
      have y5 := RN5.cell (i := 5) (v := .string c5) rfl
      have y6 := RN5.cell (i := 6) (v := .string c6) rfl
      have y7 := RN5.cell (i := 7) (v := .string c7) rfl
      cases u3
      · go_wp2_with fail
        refine (hT _).mono ?_
        rintro e w6 ⟨rfl, hb⟩
        have hB6 := hB5.trans (hb.mono hB5.size)
        clear hb
        clear x0 x1 x2 x3 x4 x5 x6 x7 x8 x9 y0 y1 y2 y3 y4 y5 y6 y7
        go_wp2_with fail
        go_ret
        exact ⟨rfl, hB6⟩
      · go_wp2_with fail
        refine (hT _).mono ?_
        rintro e w6 ⟨rfl, hb⟩
        have hB6 := hB5.trans (hb.mono hB5.size)
        have hz6 := hz5.trans (hb.mono hz5.size)
        have R6 := R5.later hb
        have RN6 := RN5.later hb
        clear hb
        clear x0 x1 x2 x3 x4 x5 x6 x7 x8 x9 y0 y1 y2 y3 y4 y5 y6 y7
        have x0 := R6.cell (i := 0) (v := .int .i64 c0) rfl
        have x1 := R6.cell (i := 1) (v := .int .i64 c1) rfl
        have x2 := R6.cell (i := 2) (v := .bool c2) rfl
        have x3 := R6.cell (i := 3) (v := .int .i64 c3) rfl
        have x4 := R6.cell (i := 4) (v := .int .i64 c4) rfl
        have x5 := R6.cell (i := 5) (v := .string c5) rfl
        have x6 := R6.cell (i := 6) (v := .string c6) rfl
        have x7 := R6.cell (i := 7) (v := .string c7) rfl
        have x8 := R6.cell (i := 8) (v := .slice a8 n8 p8) rfl
        have x9 := R6.cell (i := 9) (v := .slice a9 n9 p9) rfl
        have y0 := RN6.cell (i := 0) (v := .int .i64 c0) rfl
        have y1 := RN6.cell (i := 1) (v := .int .i64 c1) rfl
        have y2 := RN6.cell (i := 2) (v := .bool c2) rfl
        have y3 := RN6.cell (i := 3) (v := .int .i64 c3) rfl
        have y4 := RN6.cell (i := 4) (v := .int .i64 c4) rfl
        have y5 := RN6.cell (i := 5) (v := .string c5) rfl
        have y6 := RN6.cell (i := 6) (v := .string c6) rfl
        have y7 := RN6.cell (i := 7) (v := .string c7) rfl
        go_wp2_with fail
        refine (hQ _ hz6).mono ?_
        rintro e w7 ⟨rfl, hb⟩
        have hB7 := hB6.trans (hb.mono hB6.size)
        clear hb
        clear x0 x1 x2 x3 x4 x5 x6 x7 x8 x9 y0 y1 y2 y3 y4 y5 y6 y7
        go_wp2_with fail
        go_ret
        exact ⟨rfl, hB7⟩
end Go.Proofs.Ytkacelpndeoogaa

/- The model's test on a tree: an expression over its parts. -/
namespace Go.Proofs.Ytkacelpndeoogaa
open Go.RowKit
set_option linter.unusedVariables false

/-- what the model's l7Right and l7RightQuery are known to give -/
def RightP (c : Nd) : Prop := ∀ (c0 c1 : Int) (c2 : Bool) (c3 c4 : Int) (c5 c6 c7 : ByteArray) (x8 x9 : Value) (w : World), c 0 = .v (.int .i64 c0) → c 1 = .v (.int .i64 c1) → c 2 = .v (.bool c2) → c 3 = .v (.int .i64 c3) → c 4 = .v (.int .i64 c4) → c 5 = .v (.string c5) → c 6 = .v (.string c6) → c 7 = .v (.string c7) →
  c5.size ≤ 9223372036854775807 → c6.size ≤ 9223372036854775807 → c7.size ≤ 9223372036854775807 → Rd w 0 x8 (c 8) → Rd w 0 x9 (c 9) → Bd c →
  Calls Try.prog 46 #[.agg #[.int .i64 c0, .int .i64 c1, .bool c2, .int .i64 c3, .int .i64 c4, .string c5, .string c6, .string c7, x8, x9]] w (BoolE (foldE rightA c) w)
def RightQP (q : Nd) : Prop := ∀ (c0 : Bool) (x1 x2 x3 x4 : Value) (c5 : Int) (w : World), q 5 = .v (.int .i64 c5) → Rd w 0 x1 (q 1) → Rd w 0 x2 (q 2) → Rd w 0 x3 (q 3) → Rd w 0 x4 (q 4) → BdQ q →
  Calls Try.prog 98 #[.agg #[.bool c0, x1, x2, x3, x4, .int .i64 c5]] w (BoolE (foldQ rightA q) w)
theorem exprs_bd {d : Dat} (hf : Fits d .exprs) (hm : msr d ≤ 1048576) : ∀ e ∈ d.els, Bd e := fun e he => by
  obtain ⟨n, k, f, rfl⟩ := hf.deep rfl
  have hk : k = 10 := hf.2.2.1
  subst hk
  have h8 := els_fits hf he 8 (by decide)
  have h9 := els_fits hf he 9 (by decide)
  obtain ⟨i, hi, rfl⟩ := List.mem_map.1 he
  rw [List.mem_range] at hi
  exact ⟨Nat.le_trans (msr_el hi (by decide)) hm, Nat.le_trans (msr_el hi (by decide)) hm, h8, h9⟩
theorem mem_el {n k : Nat} {f : Nat → Nat → Dat} {i : Nat} (hi : i < n) : f i ∈ (Dat.sl n k f).els := List.mem_map.2 ⟨i, List.mem_range.2 hi, rfl⟩
theorem all_upto {n j : Nat} {p : Nat → Bool} (h : j < n) (hj : p j = false) : (List.range n).all p = false := by
  rw [← Bool.not_eq_true, List.all_eq_true]
  intro hh
  have := hh j (List.mem_range.2 h)
  rw [hj] at this; cases this
theorem takes_sub {k : Int} {a b : Nat} (h : takesB k a b = true) : b ≤ 1 := by
  unfold takesB at h
  split at h
  · simp at h; omega
  · split at h
    · simp at h; omega
    · split at h
      · simp at h; omega
      · split at h
        · simp at h; omega
        · split at h
          · simp at h; omega
          · split at h
            · simp at h; omega
            · split at h
              · simp at h; omega
              · cases h
theorem shape_sub {k op : Int} {nt : Bool} {vk vn : Int} {vt q n : ByteArray} {a b : Nat} (h : shapeF k op nt vk vn vt q n a b = true) : b ≤ 1 := by
  unfold shapeF at h
  rw [Bool.and_eq_true, Bool.and_eq_true] at h
  exact takes_sub h.2.2
theorem rightE_val {c : Nd} {n8 n9 : Nat} {f8 f9 : Nat → Nat → Dat} (h8 : c 8 = .sl n8 10 f8) (h9 : c 9 = .sl n9 6 f9) : foldE rightA c = (shapeB c && ((List.range n8).all (fun i => foldE rightA (f8 i)) && (List.range n9).all fun i => foldQ rightA (f9 i))) := by
  show (shapeB c && (fold rightA (c 8) .exprs && fold rightA (c 9) .queries)) = _
  rw [h8, h9, fold_ex, fold_qu, rightA_of, rightA_of, List.all_map, List.all_map]
  rfl
set_option maxRecDepth 100000 in
set_option maxHeartbeats 8000000 in
theorem right_step (c : Nd) (n8 n9 : Nat) (f8 f9 : Nat → Nat → Dat) (h8 : c 8 = .sl n8 10 f8) (h9 : c 9 = .sl n9 6 f9)
    (IHk : ∀ i, i < n8 → RightP (f8 i)) (IHs : ∀ i, i < n9 → RightQP (f9 i)) : RightP c := by
  intro c0 c1 c2 c3 c4 c5 c6 c7 x8 x9 w e0 e1 e2 e3 e4 e5 e6 e7 b5 b6 b7 r8 r9 hbd
  have q8 := hbd.f8
  have q9 := hbd.f9
  have m8 := hbd.m8
  have m9 := hbd.m9
  have hqs := hbd.query
  have hv := rightE_val h8 h9
  rw [shape_v e0 e1 e2 e3 e4 e5 e6 e7 (show (c 8).len = n8 by rw [h8]; rfl) (show (c 9).len = n9 by rw [h9]; rfl)] at hv
  rw [h8] at r8 q8 m8
  rw [h9] at r9 q9 m9 hqs
  obtain ⟨a8, p8, rfl⟩ := r8.slice
  obtain ⟨a9, p9, rfl⟩ := r9.slice
  have hn8 : n8 ≤ 1048576 := Nat.le_trans (msr_n n8 10 f8) m8
  have hn9 : n9 ≤ 1048576 := Nat.le_trans (msr_n n9 6 f9) m9
  have hB8 : ∀ i, i < n8 → Bd (f8 i) := fun i hi => exprs_bd q8 m8 _ (mem_el hi)
  have hB9 : ∀ i, i < n9 → BdQ (f9 i) := fun i hi => hqs _ (mem_el hi)
  have hS := fun w => shape_spec c0 c1 c2 c3 c4 c5 c6 c7 a8 n8 p8 a9 n9 p9 w b5 b6 b7 hn8 hn9
  have hsub := @shape_sub c0 c1 c2 c3 c4 c5 c6 c7 n8 n9
  rw [hv]
  clear e0 e1 e2 e3 e4 e5 e6 e7 b5 b6 b7 hv h8 h9 m8 m9 hqs hbd
  have hsf : shapeF c0 c1 c2 c3 c4 c5 c6 c7 n8 n9 = (headB c0 c1 c2 c3 c4 c5 && (namesB c0 c6 c7 && takesB c0 n8 n9)) := rfl
  rw [← hsf]
  clear hsf
  replace hsub := Lib.hid hsub
  generalize shapeF c0 c1 c2 c3 c4 c5 c6 c7 n8 n9 = sv at hS hsub ⊢
  have H0 := BX.new w 29 #[.int .i64 c0, .int .i64 c1, .bool c2, .int .i64 c3, .int .i64 c4, .string c5, .string c6, .string c7, .slice a8 n8 p8, .slice a9 n9 p9]
  go_enter Try.func46, Try.ntmps46
  go_wp2_with fail
  generalize w.alloc (.cells #[.int .i64 c0, .int .i64 c1, .bool c2, .int .i64 c3, .int .i64 c4, .string c5, .string c6, .string c7, .slice a8 n8 p8, .slice a9 n9 p9] 29) = w1 at H0 ⊢
  cases sv
  · have k0 := H0.box.cell (i := 0) (v := .int .i64 c0) rfl
    have k1 := H0.box.cell (i := 1) (v := .int .i64 c1) rfl
    have k2 := H0.box.cell (i := 2) (v := .bool c2) rfl
    have k3 := H0.box.cell (i := 3) (v := .int .i64 c3) rfl
    have k4 := H0.box.cell (i := 4) (v := .int .i64 c4) rfl
    have k5 := H0.box.cell (i := 5) (v := .string c5) rfl
    have k6 := H0.box.cell (i := 6) (v := .string c6) rfl
    have k7 := H0.box.cell (i := 7) (v := .string c7) rfl
    have k8 := H0.box.cell (i := 8) (v := .slice a8 n8 p8) rfl
    have k9 := H0.box.cell (i := 9) (v := .slice a9 n9 p9) rfl
    go_wp2_with fail
    refine (hS _).mono ?_
    rintro e w2 ⟨rfl, hb⟩
    replace H0 := H0.next hb
    clear hb
    clear k0 k1 k2 k3 k4 k5 k6 k7 k8 k9
    go_wp2_with fail
    go_ret
    exact ⟨rfl, H0.b⟩
  · have k0 := H0.box.cell (i := 0) (v := .int .i64 c0) rfl
    have k1 := H0.box.cell (i := 1) (v := .int .i64 c1) rfl
    have k2 := H0.box.cell (i := 2) (v := .bool c2) rfl
    have k3 := H0.box.cell (i := 3) (v := .int .i64 c3) rfl
    have k4 := H0.box.cell (i := 4) (v := .int .i64 c4) rfl
    have k5 := H0.box.cell (i := 5) (v := .string c5) rfl
    have k6 := H0.box.cell (i := 6) (v := .string c6) rfl
    have k7 := H0.box.cell (i := 7) (v := .string c7) rfl
    have k8 := H0.box.cell (i := 8) (v := .slice a8 n8 p8) rfl
    have k9 := H0.box.cell (i := 9) (v := .slice a9 n9 p9) rfl
    go_wp2_with fail
    refine (hS _).mono ?_
    rintro e w2 ⟨rfl, hb⟩
    replace H0 := H0.next hb
    have hn1 : n9 ≤ 1 := hsub.out (by first | rfl | trivial)
    clear hb hS hsub
    clear k0 k1 k2 k3 k4 k5 k6 k7 k8 k9
    go_wp2_with fail
    go_loopw [3] (fun i wr => ∃ j : Nat, j ≤ n8 ∧ i = .int .i64 (j : Int) ∧ BX w wr 29 #[.int .i64 c0, .int .i64 c1, .bool c2, .int .i64 c3, .int .i64 c4, .string c5, .string c6, .string c7, .slice a8 n8 p8, .slice a9 n9 p9] ∧ Hid ((List.range j).all (fun i => foldE rightA (f8 i)) = true)) (fun i _ => n8 - (intOf i).toNat)
    case atStart => exact ⟨0, Nat.zero_le _, rfl, H0, rfl⟩
    case round =>
      obtain ⟨j, hj, rfl, H, HA⟩ := hrel
      have k8 := H.box.cell (i := 8) (v := .slice a8 n8 p8) rfl
      by_cases hlt : j < n8
      · have hlt2 : (j : Int) < (n8 : Int) := by omega
        obtain ⟨gg, oo, rfl, -, hgg, x0, x1, x2, x3, x4, x5, x6, x7, x8, x9, ⟨z0, z1, z2, z3, z4, z5, z6, z7, z8, z9⟩, ⟨⟨e0, -⟩, ⟨e1, -⟩, e2, ⟨e3, -⟩, ⟨e4, -⟩, ⟨e5, b5⟩, ⟨e6, b6⟩, ⟨e7, b7⟩, ⟨r8, q8_⟩, ⟨r9, q9_⟩⟩⟩ := row_exprs (r8.later H.b) q8 hlt
        have hC := fun w h h' => IHk j hlt x0 x1 x2 x3 x4 x5 x6 x7 x8 x9 w e0 e1 e2 e3 e4 e5 e6 e7 b5 b6 b7 h h' (hB8 j hlt)
        clear e0 e1 e2 e3 e4 e5 e6 e7 b5 b6 b7
        generalize hV : foldE rightA (f8 j) = V at hC
        have HVV := Lib.hid hV
        clear hV
        cases V
        case false =>
          have hfin : Hid ((List.range n8).all (fun i => foldE rightA (f8 i)) = false) := all_upto hlt HVV.out
          go_wp2_with fail
          refine (hC _ r8 r9).mono ?_
          rintro e w2 ⟨rfl, hb⟩
          replace H := H.next hb
          clear hb hC
          go_wp2_with fail
          go_ret
          exact ⟨by rw [hfin.out]; rfl, H.b⟩
        case true =>
          have HA2 : Hid ((List.range (j + 1)).all (fun i => foldE rightA (f8 i)) = true) := by show _ = true; rw [all_succ, HA.out, HVV.out]; rfl
          go_wp2_with fail
          refine (hC _ r8 r9).mono ?_
          rintro e w2 ⟨rfl, hb⟩
          replace H := H.next hb
          clear hb hC
          go_wp2_with fail
          go_roundw
          case rel => exact ⟨j + 1, by omega, by go_num, H, HA2⟩
          case measure => simp [intOf]; omega
      · obtain rfl : j = n8 := by omega
        have k9 := H.box.cell (i := 9) (v := .slice a9 n9 p9) rfl
        clear hlt hj
        by_cases h0 : n9 = 0
        · subst h0
          go_wp2_with fail
          go_ret
          exact ⟨by rw [HA.out]; rfl, H.b⟩
        · obtain rfl : n9 = 1 := by omega
          obtain ⟨gg, oo, rfl, -, hgg, y0, y1, y2, y3, y4, y5, ⟨u0, u1, u2, u3, u4, u5⟩, ⟨-, ⟨s1, -⟩, ⟨s2, -⟩, ⟨s3, -⟩, ⟨s4, -⟩, ⟨l5, -⟩⟩⟩ := row_queries (r9.later H.b) q9 (Nat.zero_lt_one)
          rw [Nat.zero_mul, Nat.add_zero] at u0 u1 u2 u3 u4 u5
          have hC := fun w h1 h2 h3 h4 => IHs 0 Nat.zero_lt_one y0 y1 y2 y3 y4 y5 w l5 h1 h2 h3 h4 (hB9 0 Nat.zero_lt_one)
          clear l5
          have hone : (List.range 1).all (fun i => foldQ rightA (f9 i)) = foldQ rightA (f9 0) := Bool.and_true _
          have HO := Lib.hid hone
          clear hone h0
          generalize foldQ rightA (f9 0) = V at hC HO
          go_wp2_with fail
          refine (hC _ s1 s2 s3 s4).mono ?_
          rintro e w2 ⟨rfl, hb⟩
          replace H := H.next hb
          clear hb hC
          go_wp2_with fail
          go_ret
          exact ⟨by rw [HA.out, HO.out]; rfl, H.b⟩
end Go.Proofs.Ytkacelpndeoogaa

/- The model's comparison of trees. -/
namespace Go.Proofs.Ytkacelpndeoogaa
open Go.RowKit

/-- what the model's SameExpr and l7Same are known to give -/
def SameExprP (c c' : Nat → Dat) : Prop := ∀ (x0 x1 : Int) (x2 : Bool) (x3 x4 : Int) (x5 x6 x7 : ByteArray) (x8 x9 : Value) (y0 y1 : Int) (y2 : Bool) (y3 y4 : Int) (y5 y6 y7 : ByteArray) (y8 y9 : Value) (w : World),
  Rd w 0 x8 (c 8) → Fits (c 8) .exprs → Rd w 0 x9 (c 9) → Fits (c 9) .queries → Rd w 0 y8 (c' 8) → Fits (c' 8) .exprs → Rd w 0 y9 (c' 9) → Fits (c' 9) .queries →
  Calls Try.prog 168 #[.agg #[.int .i64 x0, .int .i64 x1, .bool x2, .int .i64 x3, .int .i64 x4, .string x5, .string x6, .string x7, x8, x9], .agg #[.int .i64 y0, .int .i64 y1, .bool y2, .int .i64 y3, .int .i64 y4, .string y5, .string y6, .string y7, y8, y9]] w (BoolE (sameFields x0 y0 x1 y1 x2 y2 x3 y3 x4 y4 x5 y5 x6 y6 x7 y7 (same (c 8) (c' 8) .exprs) (same (c 9) (c' 9) .queries)) w)
def SameSP (d d' : Dat) : Prop := ∀ (x y : Value) (w : World), Rd w 0 x d → Fits d .exprs → Rd w 0 y d' → Fits d' .exprs → Calls Try.prog 215 #[x, y] w (BoolE (same d d' .exprs) w)
set_option maxRecDepth 100000 in
set_option maxHeartbeats 4000000 in
theorem l7Same_step (n n' : Nat) (f f' : Nat → Nat → Dat) (IH : ∀ i, i < n → SameExprP (f i) (f' i)) : SameSP (.sl n 10 f) (.sl n' 10 f') := by
  intro x y w hr hf hs hf'
  obtain ⟨a, cap, rfl⟩ := hr.slice
  obtain ⟨a2, cap2, rfl⟩ := hs.slice
  have hn := hf.2.1
  have hn' := hf'.2.1
  rw [same_sl]
  by_cases hnn : n = n'
  case neg =>
    have d : ((n : Int) != (n' : Int)) = true := by simp; omega
    have d2 : (n == n') = false := by simpa using hnn
    rw [d2, Bool.false_and]
    clear hnn d2
    go_enter Try.func215, Try.ntmps215
    go_wp2_with fail
    go_ret
    exact ⟨rfl, Below.refl _ _⟩
  subst hnn
  have HV : Hid (((n == n) && (List.range n).all fun i => sameC (rowTy .exprs) (f i) (f' i)) = (List.range n).all fun i => sameC exprTy (f i) (f' i)) := by show _ = _; simp [rowTy]
  rw [HV.out]
  clear HV
  go_enter Try.func215, Try.ntmps215
  go_wp2_with fail
  go_loopw [5] (fun i wr => ∃ j : Nat, j ≤ n ∧ i = .int .i64 (j : Int) ∧ Hid (((List.range j).all fun i => sameC exprTy (f i) (f' i)) = true) ∧ Below w.heap.size w wr) (fun i _ => n - (intOf i).toNat)
  case atStart => exact ⟨0, by omega, rfl, rfl, Below.refl _ _⟩
  case round =>
    obtain ⟨j, hj, rfl, HA, hB⟩ := hrel
    by_cases hlt : j < n
    · have hlt2 : (j : Int) < (n : Int) := by omega
      obtain ⟨g, o, rfl, -, hg, x0, x1, x2, x3, x4, x5, x6, x7, x8, x9, ⟨z0, z1, z2, z3, z4, z5, z6, z7, z8, z9⟩, ⟨⟨e0, b0⟩, ⟨e1, b1⟩, e2, ⟨e3, b3⟩, ⟨e4, b4⟩, ⟨e5, b5⟩, ⟨e6, b6⟩, ⟨e7, b7⟩, ⟨r8, q8⟩, ⟨r9, q9⟩⟩⟩ := row_exprs (hr.later hB) hf hlt
      obtain ⟨g2, o2, rfl, -, hg2, y0, y1, y2, y3, y4, y5, y6, y7, y8, y9, ⟨k0, k1, k2, k3, k4, k5, k6, k7, k8, k9⟩, ⟨⟨l0, m0⟩, ⟨l1, m1⟩, l2, ⟨l3, m3⟩, ⟨l4, m4⟩, ⟨l5, m5⟩, ⟨l6, m6⟩, ⟨l7, m7⟩, ⟨s8, t8⟩, ⟨s9, t9⟩⟩⟩ := row_exprs (hs.later hB) hf' hlt
      have hE := fun (v : World) (h : Below wr.heap.size wr v) => IH j hlt x0 x1 x2 x3 x4 x5 x6 x7 x8 x9 y0 y1 y2 y3 y4 y5 y6 y7 y8 y9 v (Rd.later r8 h) q8 (Rd.later r9 h) q9 (Rd.later s8 h) t8 (Rd.later s9 h) t9
      simp only [← sameC_expr e0 l0 e1 l1 e2 l2 e3 l3 e4 l4 e5 l5 e6 l6 e7 l7] at hE
      clear e0 l0 e1 l1 e2 l2 e3 l3 e4 l4 e5 l5 e6 l6 e7 l7
      replace z0 := lat_cell z0
      replace k0 := lat_cell k0
      replace z1 := lat_cell z1
      replace k1 := lat_cell k1
      replace z2 := lat_cell z2
      replace k2 := lat_cell k2
      replace z3 := lat_cell z3
      replace k3 := lat_cell k3
      replace z4 := lat_cell z4
      replace k4 := lat_cell k4
      replace z5 := lat_cell z5
      replace k5 := lat_cell k5
      replace z6 := lat_cell z6
      replace k6 := lat_cell k6
      replace z7 := lat_cell z7
      replace k7 := lat_cell k7
      replace z8 := lat_cell z8
      replace k8 := lat_cell k8
      replace z9 := lat_cell z9
      replace k9 := lat_cell k9
      cases hV : sameC exprTy (f j) (f' j)
      all_goals
        rw [hV] at hE
        have HV2 := Lib.hid hV
        clear hV
        go_wp2_with fail
        refine region_lat (by kernel_rfl) (by kernel_rfl) ?_
        iterate 10 (go_big_quiet_step ((refine (hE _ (lat_below wr _)).mono ?_; rintro e w'' ⟨rfl, hb''⟩; exact ⟨rfl, lat_to hb''⟩)))
        refine wpQuiet_nil ?_
        rintro _ ⟨nq, rfl⟩
        have hbq := hB.trans ((lat_below wr nq).mono hB.size)
        clear hE z0 k0 z1 k1 z2 k2 z3 k3 z4 k4 z5 k5 z6 k6 z7 k7 z8 k8 z9 k9
        generalize lat wr nq = wq at hbq ⊢
      · go_wp2_with fail
        go_ret
        refine ⟨?_, hbq⟩
        have h : ((List.range n).all fun i => sameC exprTy (f i) (f' i)) = false := by
          rw [List.all_eq_false]
          exact ⟨j, List.mem_range.2 hlt, by rw [HV2.out]; simp⟩
        rw [h]
        rfl
      · have HA2 : Hid (((List.range (j + 1)).all fun i => sameC exprTy (f i) (f' i)) = true) := by show _ = true; rw [all_succ, HA.out, HV2.out]; rfl
        go_wp2_with fail
        go_roundw
        case rel => exact ⟨j + 1, by omega, by go_num, HA2, hbq⟩
        case measure => simp [intOf]; omega
    · obtain rfl : n = j := by omega
      go_wp2_with fail
      go_ret
      exact ⟨by rw [HA.out]; rfl, hB⟩
end Go.Proofs.Ytkacelpndeoogaa
