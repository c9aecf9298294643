/- Joined texts: ItemI FrameI NodeI StE OksI. -/
import Derived.Test.YtcliijfdlcagoaaGreatQZAP
import Derived.Test.YtcliijfdlcagoaaGreatQZAQ
import Derived.Test.YtcliijfdlcagoaaGreatQHShapeI
import Derived.Test.YtcliijfdlcagoaaGreatQZAN
import Derived.Test.YtcliijfdlcagoaaGreatQHSameQX
import Derived.Test.YtcliijfdlcagoaaGreatQZAO
import Derived.Deep.RegionWith
namespace Go.Proofs.YtcliijfdlcagoaaGreat
set_option linter.unusedVariables false
set_option linter.unusedSimpArgs false
open Go.RowKit
theorem num_v {d : Dat} {k : IntKind} {n : Int} (h : d = .v (.int k n)) : d.num = n := by rw [h]; rfl
theorem tru_v {d : Dat} {b : Bool} (h : d = .v (.bool b)) : d.tru = b := by rw [h]; rfl
theorem txt_v {d : Dat} {s : ByteArray} (h : d = .v (.string s)) : d.txt = s := by rw [h]; rfl
theorem zero_out (w : World) : OutK exprTy w [.int .i64 0, .int .i64 0, .bool false, .int .i64 0, .int .i64 0, .string ⟨#[]⟩, .string ⟨#[]⟩, .string ⟨#[]⟩, .slice none 0 0, .slice none 0 0] [zeroNd] := OutK.one rfl (fun m hm => match m, hm with
  | 0, _ => ⟨_, rfl, rfl, ⟨_, rfl, by decide, by decide⟩⟩
  | 1, _ => ⟨_, rfl, rfl, ⟨_, rfl, by decide, by decide⟩⟩
  | 2, _ => ⟨_, rfl, rfl, ⟨_, rfl⟩⟩
  | 3, _ => ⟨_, rfl, rfl, ⟨_, rfl, by decide, by decide⟩⟩
  | 4, _ => ⟨_, rfl, rfl, ⟨_, rfl, by decide, by decide⟩⟩
  | 5, _ => ⟨_, rfl, rfl, ⟨_, rfl, by decide⟩⟩
  | 6, _ => ⟨_, rfl, rfl, ⟨_, rfl, by decide⟩⟩
  | 7, _ => ⟨_, rfl, rfl, ⟨_, rfl, by decide⟩⟩
  | 8, _ => ⟨_, rfl, ⟨none, 0, rfl, Nat.le_refl _, fun _ => rfl, .inl rfl⟩, ⟨rfl, by decide, rfl, fun i hi => absurd hi (Nat.not_lt_zero i)⟩⟩
  | 9, _ => ⟨_, rfl, ⟨none, 0, rfl, Nat.le_refl _, fun _ => rfl, .inl rfl⟩, ⟨rfl, by decide, rfl, fun i hi => absurd hi (Nat.not_lt_zero i)⟩⟩
  | m + 10, hm => absurd hm (by simp [exprTy]))
theorem msr_zero (k : Nat) (f : Nat → Nat → Dat) : msr (.sl 0 k f) = 0 := by unfold msr; rfl
theorem zero_bd : Bd zeroNd := by
  refine ⟨?_, ?_, ⟨rfl, by decide, rfl, fun i hi => absurd hi (Nat.not_lt_zero i)⟩, ⟨rfl, by decide, rfl, fun i hi => absurd hi (Nat.not_lt_zero i)⟩⟩
  · show msr (.sl 0 10 _) ≤ _; rw [msr_zero]; exact Nat.zero_le _
  · show msr (.sl 0 6 _) ≤ _; rw [msr_zero]; exact Nat.zero_le _
set_option maxRecDepth 100000 in
set_option maxHeartbeats 8000000 in
theorem sourceOk_any (w0 : World) (c : Nd) (ys : List Value) (W : World) (hys : OutK (rowTy .sources) w0 ys [c]) (_hb0 : Below w0.heap.size w0 W) :
    Calls Tryz.prog 93 #[.agg ys.toArray] W (BoolE (sourceB c) W) := by
  obtain ⟨x0, x1, ax2, nx2, px2, rfl, ⟨e0, b0⟩, ⟨e1, b1⟩, ⟨r2, q2⟩⟩ := hys.sourceRow
  have hv : sourceB c = (okLen x0.size && (optB x1 && decide (nx2 ≤ 1))) := by unfold sourceB; rw [txt_v e0, txt_v e1, r2.slen q2 rfl]
  rw [hv]
  have R := RowAt.new W 113 #[.string x0, .string x1, .slice ax2 nx2 px2]
  have hB : Below W.heap.size W (W.alloc (.cells #[.string x0, .string x1, .slice ax2 nx2 px2] 113)) := (Below.refl _ _).alloc (Nat.le_refl _) _
  have HB := Lib.hid hB
  have z0 := R.cell (i := 0) (v := .string x0) rfl
  have z1 := R.cell (i := 1) (v := .string x1) rfl
  have z2 := R.cell (i := 2) (v := .slice ax2 nx2 px2) rfl
  have hN := fun w => nameOk_impl x0 w b0
  have hO := fun w => opt_impl x1 w b1
  have h2 : decide ((nx2 : Int) ≤ (1 : Int)) = decide (nx2 ≤ 1) := by rw [decide_eq_decide]; omega
  clear hv hys hB e0 b0 e1 b1 r2 q2 R
  generalize okLen x0.size = u0 at hN ⊢
  generalize optB x1 = u1 at hO ⊢
  generalize decide (nx2 ≤ 1) = u2 at h2 ⊢
  go_enter Tryz.func93, Tryz.ntmps93
  cases u0
  · go_wp2_with fail
    refine (hN _).mono ?_
    rintro e w1 ⟨rfl, rfl⟩
    go_wp2_with fail
    go_ret
    exact ⟨rfl, HB.out⟩
  · go_wp2_with fail
    refine (hN _).mono ?_
    rintro e w1 ⟨rfl, rfl⟩
    cases u1
    · go_wp2_with fail
      refine (hO _).mono ?_
      rintro e w1 ⟨rfl, rfl⟩
      go_wp2_with fail
      go_ret
      exact ⟨rfl, HB.out⟩
    · go_wp2_with fail
      refine (hO _).mono ?_
      rintro e w1 ⟨rfl, rfl⟩
      go_wp2_with fail
      go_ret
      exact ⟨rfl, HB.out⟩
set_option maxRecDepth 100000 in
set_option maxHeartbeats 8000000 in
theorem itemOk_any (w0 : World) (c : Nd) (ys : List Value) (W : World) (hys : OutK (rowTy .items) w0 ys [c]) (_hb0 : Below w0.heap.size w0 W) (m10 : msr (c 10) ≤ 1048576) (m11 : msr (c 11) ≤ 1048576) (hw : msr (c 10) + msr (c 11) ≤ 1999999) :
    Calls Tryz.prog 91 #[.agg ys.toArray] W (BoolE (itemB c) W) := by
  obtain ⟨x0, x1, x2, x3, x4, x5, x6, x7, x8, x9, ax10, nx10, px10, ax11, nx11, px11, x12, rfl, e0, ⟨e1, b1⟩, ⟨e2, b2⟩, ⟨e3, b3⟩, e4, ⟨e5, b5⟩, ⟨e6, b6⟩, ⟨e7, b7⟩, ⟨e8, b8⟩, ⟨e9, b9⟩, ⟨r10, q10⟩, ⟨r11, q11⟩, ⟨e12, b12⟩⟩ := hys.itemRow
  have hin : OutK exprTy w0 [.int .i64 x2, .int .i64 x3, .bool x4, .int .i64 x5, .int .i64 x6, .string x7, .string x8, .string x9, .slice ax10 nx10 px10, .slice ax11 nx11 px11] [cut 2 c] := OutK.one rfl (fun m hm => match m, hm with
    | 0, _ => ⟨_, rfl, (show Rd w0 0 _ (c 2) by rw [e2]; exact rfl), (show Fits (c 2) .int by rw [e2]; exact ⟨_, rfl, b2⟩)⟩
    | 1, _ => ⟨_, rfl, (show Rd w0 0 _ (c 3) by rw [e3]; exact rfl), (show Fits (c 3) .int by rw [e3]; exact ⟨_, rfl, b3⟩)⟩
    | 2, _ => ⟨_, rfl, (show Rd w0 0 _ (c 4) by rw [e4]; exact rfl), (show Fits (c 4) .bool by rw [e4]; exact ⟨_, rfl⟩)⟩
    | 3, _ => ⟨_, rfl, (show Rd w0 0 _ (c 5) by rw [e5]; exact rfl), (show Fits (c 5) .int by rw [e5]; exact ⟨_, rfl, b5⟩)⟩
    | 4, _ => ⟨_, rfl, (show Rd w0 0 _ (c 6) by rw [e6]; exact rfl), (show Fits (c 6) .int by rw [e6]; exact ⟨_, rfl, b6⟩)⟩
    | 5, _ => ⟨_, rfl, (show Rd w0 0 _ (c 7) by rw [e7]; exact rfl), (show Fits (c 7) .str by rw [e7]; exact ⟨_, rfl, b7⟩)⟩
    | 6, _ => ⟨_, rfl, (show Rd w0 0 _ (c 8) by rw [e8]; exact rfl), (show Fits (c 8) .str by rw [e8]; exact ⟨_, rfl, b8⟩)⟩
    | 7, _ => ⟨_, rfl, (show Rd w0 0 _ (c 9) by rw [e9]; exact rfl), (show Fits (c 9) .str by rw [e9]; exact ⟨_, rfl, b9⟩)⟩
    | 8, _ => ⟨_, rfl, r10, q10⟩
    | 9, _ => ⟨_, rfl, r11, q11⟩
    | m + 10, hm => absurd hm (by simp [exprTy]))
  have hbd : Bd (cut 2 c) := ⟨m10, m11, q10, q11⟩
  have hS := fun w h => SameExpr_any w0 (cut 2 c) zeroNd _ _ w hin (zero_out w0) h hbd zero_bd (show msr (c 10) + msr (c 11) + 1 ≤ _ by omega)
  have hv : itemB c = (if x0 then optB x1 && (emptyB x12 && sameC exprTy (cut 2 c) zeroNd) else emptyB x1 && optB x12) := by unfold itemB; rw [tru_v e0, txt_v e1, txt_v e12]
  rw [hv]
  have R := RowAt.new W 111 #[.bool x0, .string x1, .int .i64 x2, .int .i64 x3, .bool x4, .int .i64 x5, .int .i64 x6, .string x7, .string x8, .string x9, .slice ax10 nx10 px10, .slice ax11 nx11 px11, .string x12]
  have hB : Below W.heap.size W (W.alloc (.cells #[.bool x0, .string x1, .int .i64 x2, .int .i64 x3, .bool x4, .int .i64 x5, .int .i64 x6, .string x7, .string x8, .string x9, .slice ax10 nx10 px10, .slice ax11 nx11 px11, .string x12] 111)) := (Below.refl _ _).alloc (Nat.le_refl _) _
  have HB := Lib.hid hB
  have hz := _hb0.trans (hB.mono _hb0.size)
  have z0 := R.cell (i := 0) (v := .bool x0) rfl
  have z1 := R.cell (i := 1) (v := .string x1) rfl
  have z2 := R.cell (i := 2) (v := .int .i64 x2) rfl
  have z3 := R.cell (i := 3) (v := .int .i64 x3) rfl
  have z4 := R.cell (i := 4) (v := .bool x4) rfl
  have z5 := R.cell (i := 5) (v := .int .i64 x5) rfl
  have z6 := R.cell (i := 6) (v := .int .i64 x6) rfl
  have z7 := R.cell (i := 7) (v := .string x7) rfl
  have z8 := R.cell (i := 8) (v := .string x8) rfl
  have z9 := R.cell (i := 9) (v := .string x9) rfl
  have z10 := R.cell (i := 10) (v := .slice ax10 nx10 px10) rfl
  have z11 := R.cell (i := 11) (v := .slice ax11 nx11 px11) rfl
  have z12 := R.cell (i := 12) (v := .string x12) rfl
  have hO1 := fun w => opt_impl x1 w b1
  have hO12 := fun w => opt_impl x12 w b12
  have h1 := empty_eq x1
  have h12 := empty_eq x12
  generalize sameC exprTy (cut 2 c) zeroNd = us at hS ⊢
  clear hv hys hB hin hbd m10 m11 hw R e0 e1 e2 e3 e4 e5 e6 e7 e8 e9 e12 r10 q10 r11 q11
  cases x0
  case false =>
    show Calls _ _ _ _ (BoolE (emptyB x1 && optB x12) W)
    clear hO1 h12 hS
    generalize emptyB x1 = u1 at h1 ⊢
    generalize optB x12 = u2 at hO12 ⊢
    go_enter Tryz.func91, Tryz.ntmps91
    cases u1
    · go_wp2_with fail
      go_ret
      exact ⟨rfl, HB.out⟩
    · go_wp2_with fail
      refine (hO12 _).mono ?_
      rintro e w1 ⟨rfl, rfl⟩
      go_wp2_with fail
      go_ret
      exact ⟨rfl, HB.out⟩
  case true =>
    show Calls _ _ _ _ (BoolE (optB x1 && (emptyB x12 && us)) W)
    clear hO12 h1
    generalize optB x1 = u1 at hO1 ⊢
    generalize emptyB x12 = u2 at h12 ⊢
    go_enter Tryz.func91, Tryz.ntmps91
    cases u1
    · go_wp2_with fail
      refine (hO1 _).mono ?_
      rintro e w1 ⟨rfl, rfl⟩
      go_wp2_with fail
      go_ret
      exact ⟨rfl, HB.out⟩
    · cases u2
      · go_wp2_with fail
        refine (hO1 _).mono ?_
        rintro e w1 ⟨rfl, rfl⟩
        go_wp2_with fail
        go_ret
        exact ⟨rfl, HB.out⟩
      · go_wp2_with fail
        refine (hO1 _).mono ?_
        rintro e w1 ⟨rfl, rfl⟩
        go_wp2_with fail
        refine (hS _ hz).mono ?_
        rintro e w2 ⟨rfl, hb2⟩
        have hf := HB.out.trans (hb2.mono HB.out.size)
        go_wp2_with fail
        go_ret
        exact ⟨rfl, hf⟩
theorem item_bd {d : Dat} (hf : Fits d .items) (hm : msr d ≤ 1048576) {x : Nd} (hx : x ∈ d.els) : msr (x 10) ≤ 1048576 ∧ msr (x 11) ≤ 1048576 ∧ msr (x 10) + msr (x 11) ≤ 1999999 := by
  obtain ⟨n, k, f, rfl⟩ := hf.deep rfl
  have hk : k = 13 := hf.2.2.1
  subst hk
  obtain ⟨i, hi, rfl⟩ := List.mem_map.1 hx
  rw [List.mem_range] at hi
  have h1 := msr_el (n := n) (k := 13) (f := f) (i := i) (j := 10) hi (by decide)
  have h2 := msr_el (n := n) (k := 13) (f := f) (i := i) (j := 11) hi (by decide)
  have h3 : wt (cut 2 (f i)) ≤ wsum ((Dat.sl n 13 f).els.map (cut 2)) := by
    have : ∀ (l : List Nd) (x : Nd), x ∈ l → wt x ≤ wsum l := fun l x h => by
      induction l with
      | nil => cases h
      | cons a l ih =>
        rw [wsum_cons]
        rcases List.mem_cons.1 h with rfl | h
        · omega
        · have := ih h; omega
    exact this _ _ (List.mem_map.2 ⟨f i, List.mem_map.2 ⟨i, List.mem_range.2 hi, rfl⟩, rfl⟩)
  have h4 := wsum_items hf
  have h5 : wt (cut 2 (f i)) = msr (f i 10) + msr (f i 11) + 1 := rfl
  refine ⟨Nat.le_trans h1 hm, Nat.le_trans h2 hm, ?_⟩
  show msr (f i 10) + msr (f i 11) ≤ _
  omega
set_option maxRecDepth 100000 in
set_option maxHeartbeats 8000000 in
theorem frameOk_any (w0 : World) (c : Nd) (ys : List Value) (W : World) (hys : OutK (rowTy .queries) w0 ys [c]) (_hb0 : Below w0.heap.size w0 W) (hq : BdQ c) :
    Calls Tryz.prog 51 #[.agg ys.toArray] W (BoolE (frameB c) W) := by
  obtain ⟨x0, ax1, nx1, px1, ax2, nx2, px2, ax3, nx3, px3, ax4, nx4, px4, x5, rfl, e0, ⟨r1, q1⟩, ⟨r2, q2⟩, ⟨r3, q3⟩, ⟨r4, q4⟩, ⟨e5, -⟩⟩ := hys.queryRow
  have hm := hq.m
  have hv : frameB c = ((decide (1 ≤ nx1) && decide (nx1 ≤ 12)) && ((c 1).els.all itemB && ((decide (1 ≤ nx2) && decide (nx2 ≤ 3)) && ((c 2).els.all sourceB && (firstB (c 2) && (decide (nx3 ≤ 1) && (decide (nx4 ≤ 12) && decide (-1 ≤ x5)))))))) := by
    unfold frameB; rw [r1.slen q1 rfl, r2.slen q2 rfl, r3.slen q3 rfl, r4.slen q4 rfl, num_v e5]
  rw [hv]
  have R := RowAt.new W 39 #[.bool x0, .slice ax1 nx1 px1, .slice ax2 nx2 px2, .slice ax3 nx3 px3, .slice ax4 nx4 px4, .int .i64 x5]
  have hB : Below W.heap.size W (W.alloc (.cells #[.bool x0, .slice ax1 nx1 px1, .slice ax2 nx2 px2, .slice ax3 nx3 px3, .slice ax4 nx4 px4, .int .i64 x5] 39)) := (Below.refl _ _).alloc (Nat.le_refl _) _
  have HB := Lib.hid hB
  have hz := _hb0.trans (hB.mono _hb0.size)
  have hI : ∀ W', Below w0.heap.size w0 W' → Calls Tryz.prog 90 #[.slice ax1 nx1 px1, .func (.func 91) #[] #[]] W' (BoolE ((c 1).els.all itemB) W') := fun W' hb => by
    obtain ⟨n1, h1⟩ := r1.lkE q1 rfl hb
    have h := every_items w0 W' ax1 px1 _ hb h1 hq.lens.1 fun c' hc' ys W' h hb' => itemOk_any w0 c' ys W' h hb' (item_bd q1 (by omega) hc').1 (item_bd q1 (by omega) hc').2.1 (item_bd q1 (by omega) hc').2.2
    rw [n1] at h
    exact h
  have hS : ∀ W', Below w0.heap.size w0 W' → Calls Tryz.prog 92 #[.slice ax2 nx2 px2, .func (.func 93) #[] #[]] W' (BoolE ((c 2).els.all sourceB) W') := fun W' hb => by
    obtain ⟨n1, h1⟩ := r2.lkE q2 rfl hb
    have h := every_sources w0 W' ax2 px2 _ hb h1 hq.lens.2.1 fun c' _ ys W' h hb' => sourceOk_any w0 c' ys W' h hb'
    rw [n1] at h
    exact h
  have hF : 1 ≤ nx2 → ∃ (g o : Nat) (a : Option Addr) (n p : Nat), ax2 = some ⟨g, o, none⟩ ∧ (∀ W', Below w0.heap.size w0 W' → W'.cell? ⟨g, o + 2, none⟩ = some (.slice a n p)) ∧ firstB (c 2) = (n == 0) := fun h1n => by
    obtain ⟨n1, h1⟩ := r2.lkE q2 rfl (Below.refl _ _)
    have hlt : 0 < (c 2).els.length := by omega
    obtain ⟨g, o, cap', ys, hv, hys', -, hg, hcell⟩ := h1.at (List.getElem?_eq_getElem hlt)
    injection hv with e1 _ e3
    obtain ⟨y0, y1, a, n, p, rfl, -, -, ⟨r, q⟩⟩ := hys'.sourceRow
    refine ⟨g, o, a, n, p, e1, fun W' hb => ?_, ?_⟩
    · have := hcell 2 _ rfl
      rw [Nat.zero_mul, Nat.add_zero] at this
      exact (hb.cell (p := ⟨g, o + 2, none⟩) hg).trans this
    · unfold firstB
      have e : (c 2).els[0] = (c 2).el 0 := by simp [Dat.els]
      rw [e] at r q
      rw [r.slen q rfl]
  have tn1a : decide ((1 : Int) ≤ (nx1 : Int)) = decide (1 ≤ nx1) := by rw [decide_eq_decide]; omega
  have tn1b : decide ((nx1 : Int) ≤ (12 : Int)) = decide (nx1 ≤ 12) := by rw [decide_eq_decide]; omega
  have tn2a : decide ((1 : Int) ≤ (nx2 : Int)) = decide (1 ≤ nx2) := by rw [decide_eq_decide]; omega
  have tn2b : decide ((nx2 : Int) ≤ (3 : Int)) = decide (nx2 ≤ 3) := by rw [decide_eq_decide]; omega
  have tn3 : decide ((nx3 : Int) ≤ (1 : Int)) = decide (nx3 ≤ 1) := by rw [decide_eq_decide]; omega
  have tn4 : decide ((nx4 : Int) ≤ (12 : Int)) = decide (nx4 ≤ 12) := by rw [decide_eq_decide]; omega
  have HQ := Lib.hid hF
  have HR := Lib.hid R
  have z0 := R.cell (i := 0) (v := .bool x0) rfl
  have z1 := R.cell (i := 1) (v := .slice ax1 nx1 px1) rfl
  have z2 := R.cell (i := 2) (v := .slice ax2 nx2 px2) rfl
  have z3 := R.cell (i := 3) (v := .slice ax3 nx3 px3) rfl
  have z4 := R.cell (i := 4) (v := .slice ax4 nx4 px4) rfl
  have z5 := R.cell (i := 5) (v := .int .i64 x5) rfl
  clear hv hys hB e0 e5 r1 r2 r3 r4 q1 q2 q3 q4 hq hm R hF
  generalize (c 1).els.all itemB = u3 at hI ⊢
  generalize (c 2).els.all sourceB = u6 at hS ⊢
  generalize hu7 : firstB (c 2) = u7
  generalize hu1 : decide (1 ≤ nx1) = u1 at tn1a ⊢
  generalize hu2 : decide (nx1 ≤ 12) = u2 at tn1b ⊢
  generalize hu4 : decide (1 ≤ nx2) = u4 at tn2a ⊢
  generalize hu5 : decide (nx2 ≤ 3) = u5 at tn2b ⊢
  generalize hu8 : decide (nx3 ≤ 1) = u8 at tn3 ⊢
  generalize hu9 : decide (nx4 ≤ 12) = u9 at tn4 ⊢
  generalize hu10 : decide (-1 ≤ x5) = u10
  have HU4 := Lib.hid hu4
  have HU7 := Lib.hid hu7
  clear hu1 hu2 hu4 hu5 hu7 hu8 hu9
  go_enter Tryz.func51, Tryz.ntmps51
  cases u1
  · go_wp2_with fail
    go_ret
    exact ⟨rfl, HB.out⟩
  · cases u2
    · go_wp2_with fail
      go_ret
      exact ⟨rfl, HB.out⟩
    · cases u3
      · go_wp2_with fail
        refine (hI _ hz).mono ?_
        rintro e w2 ⟨rfl, hb2⟩
        have hB2 := HB.out.trans (hb2.mono HB.out.size)
        clear hI hb2 z0 z1 z2 z3 z4 z5
        go_wp2_with fail
        go_ret
        exact ⟨rfl, hB2⟩
      · go_wp2_with fail
        refine (hI _ hz).mono ?_
        rintro e w2 ⟨rfl, hb2⟩
        have hB2 := HB.out.trans (hb2.mono HB.out.size)
        have hz2 := hz.trans (hb2.mono hz.size)
        have R2 := HR.out.later hb2
        clear z0 z1 z2 z3 z4 z5
        have z0 := R2.cell (i := 0) (v := .bool x0) rfl
        have z1 := R2.cell (i := 1) (v := .slice ax1 nx1 px1) rfl
        have z2 := R2.cell (i := 2) (v := .slice ax2 nx2 px2) rfl
        have z3 := R2.cell (i := 3) (v := .slice ax3 nx3 px3) rfl
        have z4 := R2.cell (i := 4) (v := .slice ax4 nx4 px4) rfl
        have z5 := R2.cell (i := 5) (v := .int .i64 x5) rfl
        clear hI hb2
        cases u4
        · go_wp2_with fail
          go_ret
          exact ⟨rfl, hB2⟩
        · cases u5
          · go_wp2_with fail
            go_ret
            exact ⟨rfl, hB2⟩
          · obtain ⟨gf, of, af, nf, pf, rfl, hcf, hff⟩ := HQ.out (of_decide_eq_true HU4.out)
            have hp2 := of_decide_eq_true HU4.out
            have hp3 : (0 : Int) < (nx2 : Int) := by omega
            clear HQ HU4
            cases u6
            · go_wp2_with fail
              refine (hS _ hz2).mono ?_
              rintro e w3 ⟨rfl, hb3⟩
              have hB3 := hB2.trans (hb3.mono hB2.size)
              clear hS hcf hff HU7 hb3 R2 z0 z1 z2 z3 z4 z5
              go_wp2_with fail
              go_ret
              exact ⟨rfl, hB3⟩
            · go_wp2_with fail
              refine (hS _ hz2).mono ?_
              rintro e w3 ⟨rfl, hb3⟩
              have hB3 := hB2.trans (hb3.mono hB2.size)
              have hz3 := hz2.trans (hb3.mono hz2.size)
              have R3 := R2.later hb3
              clear z0 z1 z2 z3 z4 z5
              have z0 := R3.cell (i := 0) (v := .bool x0) rfl
              have z1 := R3.cell (i := 1) (v := .slice ax1 nx1 px1) rfl
              have z2 := R3.cell (i := 2) (v := .slice (some ⟨gf, of, none⟩) nx2 px2) rfl
              have z3 := R3.cell (i := 3) (v := .slice ax3 nx3 px3) rfl
              have z4 := R3.cell (i := 4) (v := .slice ax4 nx4 px4) rfl
              have z5 := R3.cell (i := 5) (v := .int .i64 x5) rfl
              have zf := hcf _ hz3
              have h7 : ((nf : Int) == (0 : Int)) = u7 := by rw [← HU7.out, hff, Bool.eq_iff_iff, beq_iff_eq, beq_iff_eq]; omega
              clear hS hcf hff HU7 hb3 hz3 R3 R2
              cases u7
              · go_wp2_with fail
                go_ret
                exact ⟨rfl, hB3⟩
              · cases u8
                · go_wp2_with fail
                  go_ret
                  exact ⟨rfl, hB3⟩
                · cases u9
                  · go_wp2_with fail
                    go_ret
                    exact ⟨rfl, hB3⟩
                  · cases u10
                    · go_wp2_with fail
                      go_ret
                      exact ⟨rfl, hB3⟩
                    · go_wp2_with fail
                      go_ret
                      exact ⟨rfl, hB3⟩
attribute [local go_sem] Oper.semAt_some
theorem Bd.query {c : Nd} (h : Bd c) : ∀ q ∈ (c 9).els, BdQ q := by
  intro q hq
  have h9 := h.m9
  have hf := h.f9
  obtain ⟨n, k, f, e⟩ := hf.deep rfl
  rw [e] at hf hq h9
  have hk : k = 6 := hf.2.2.1
  subst hk
  have hfq := fitsQ_of hf hq
  obtain ⟨i, hi, rfl⟩ := List.mem_map.1 hq
  rw [List.mem_range] at hi
  exact ⟨hfq, Nat.le_trans (row_msr hi) h9⟩
theorem shape_v {c : Nd} {c0 c1 : Int} {c2 : Bool} {c3 c4 : Int} {c5 c6 c7 : ByteArray} {n8 n9 : Nat} (e0 : c 0 = .v (.int .i64 c0)) (e1 : c 1 = .v (.int .i64 c1)) (e2 : c 2 = .v (.bool c2)) (e3 : c 3 = .v (.int .i64 c3)) (e4 : c 4 = .v (.int .i64 c4)) (e5 : c 5 = .v (.string c5)) (e6 : c 6 = .v (.string c6)) (e7 : c 7 = .v (.string c7)) (l8 : (c 8).len = n8) (l9 : (c 9).len = n9) :
    shapeB c = (headB c0 c1 c2 c3 c4 c5 && (namesB c0 c6 c7 && takesB c0 n8 n9)) := by
  unfold shapeB shapeF
  rw [num_v e0, num_v e1, tru_v e2, num_v e3, num_v e4, txt_v e5, txt_v e6, txt_v e7, l8, l9]
set_option maxRecDepth 100000 in
set_option maxHeartbeats 8000000 in
theorem nodeOk_any (w0 : World) (c : Nd) (ys : List Value) (W : World) (hys : OutK exprTy w0 ys [c]) (hb0 : Below w0.heap.size w0 W) (hbd : Bd c) :
    Calls Tryz.prog 58 #[.agg ys.toArray] W (BoolE (nodeB c) W) := by
  obtain ⟨c0, c1, c2, c3, c4, c5, c6, c7, a8, n8, p8, a9, n9, p9, rfl, ⟨e0, -⟩, ⟨e1, -⟩, e2, ⟨e3, -⟩, ⟨e4, -⟩, ⟨e5, b5⟩, ⟨e6, b6⟩, ⟨e7, b7⟩, ⟨r8, q8⟩, ⟨r9, q9⟩⟩ := hys.ten
  have hv : nodeB c = (headB c0 c1 c2 c3 c4 c5 && (namesB c0 c6 c7 && (takesB c0 n8 n9 && (c 9).els.all frameB))) := by
    unfold nodeB; rw [shape_v e0 e1 e2 e3 e4 e5 e6 e7 (r8.slen q8 rfl) (r9.slen q9 rfl)]; simp only [Bool.and_assoc]
  rw [hv]
  have R := RowAt.new W 79 #[.int .i64 c0, .int .i64 c1, .bool c2, .int .i64 c3, .int .i64 c4, .string c5, .string c6, .string c7, .slice a8 n8 p8, .slice a9 n9 p9]
  have hB : Below W.heap.size W (W.alloc (.cells #[.int .i64 c0, .int .i64 c1, .bool c2, .int .i64 c3, .int .i64 c4, .string c5, .string c6, .string c7, .slice a8 n8 p8, .slice a9 n9 p9] 79)) := (Below.refl _ _).alloc (Nat.le_refl _) _
  have HB := Lib.hid hB
  have hz := hb0.trans (hB.mono hb0.size)
  have hF := fun w => fields_any c0 c1 c2 c3 c4 c5 w b5
  have hN := fun w => names_any c0 c1 c2 c3 c4 c5 c6 c7 w b6 b7
  have hT := fun w => takes_any c0 c1 c2 c3 c4 c5 n8 n9 w
  have hQ : ∀ W', Below w0.heap.size w0 W' → Calls Tryz.prog 100 #[.slice a9 n9 p9, .func (.func 51) #[] #[]] W' (BoolE ((c 9).els.all frameB) W') := fun W' hb => by
    obtain ⟨n1, h1⟩ := r9.lkE q9 rfl hb
    have h := every_queries w0 W' a9 p9 _ hb h1 (Nat.le_trans els_msr hbd.m9) fun q hq ys W' h hb' => frameOk_any w0 q ys W' h hb' (hbd.query q hq)
    rw [n1] at h
    exact h
  have HR := Lib.hid R
  have x0 := R.cell (i := 0) (v := .int .i64 c0) rfl
  have x1 := R.cell (i := 1) (v := .int .i64 c1) rfl
  have x2 := R.cell (i := 2) (v := .bool c2) rfl
  have x3 := R.cell (i := 3) (v := .int .i64 c3) rfl
  have x4 := R.cell (i := 4) (v := .int .i64 c4) rfl
  have x5 := R.cell (i := 5) (v := .string c5) rfl
  have x6 := R.cell (i := 6) (v := .string c6) rfl
  have x7 := R.cell (i := 7) (v := .string c7) rfl
  have x8 := R.cell (i := 8) (v := .slice a8 n8 p8) rfl
  have x9 := R.cell (i := 9) (v := .slice a9 n9 p9) rfl
  clear hv hys hB e0 e1 e2 e3 e4 e5 e6 e7 b5 b6 b7 r8 r9 q8 q9 hbd R
  generalize headB c0 c1 c2 c3 c4 c5 = u1 at hF ⊢
  generalize namesB c0 c6 c7 = u2 at hN ⊢
  generalize takesB c0 n8 n9 = u3 at hT ⊢
  generalize (c 9).els.all frameB = u4 at hQ ⊢
  go_enter Tryz.func58, Tryz.ntmps58
  go_wp2_with fail
  refine (nodeOf_any _ _ _ _ _ _ _ _ _ _ _ _ _ _ _).mono ?_
  rintro e w2 ⟨rfl, hb2⟩
  have hB2 := HB.out.trans (hb2.mono HB.out.size)
  have hz2 := hz.trans (hb2.mono hz.size)
  have R2 := HR.out.later hb2
  have RN := RowAt.new w2 144 #[.int .i64 c0, .int .i64 c1, .bool c2, .int .i64 c3, .int .i64 c4, .string c5, .string c6, .string c7]
  have hal : Below w2.heap.size w2 (w2.alloc (.cells #[.int .i64 c0, .int .i64 c1, .bool c2, .int .i64 c3, .int .i64 c4, .string c5, .string c6, .string c7] 144)) := (Below.refl _ _).alloc (Nat.le_refl _) _
  have hB3 := hB2.trans (hal.mono hB2.size)
  have hz3 := hz2.trans (hal.mono hz2.size)
  have R3 := R2.later hal
  clear hb2 hB2 hz2 R2 hal HR hz
  clear x0 x1 x2 x3 x4 x5 x6 x7 x8 x9
  go_wp2_with fail
  generalize w2.alloc (.cells #[.int .i64 c0, .int .i64 c1, .bool c2, .int .i64 c3, .int .i64 c4, .string c5, .string c6, .string c7] 144) = w3 at RN hB3 hz3 R3 ⊢
  generalize w2.heap.size = BN at RN ⊢
  have hRN3 := RN
  have x0 := R3.cell (i := 0) (v := .int .i64 c0) rfl
  have x1 := R3.cell (i := 1) (v := .int .i64 c1) rfl
  have x2 := R3.cell (i := 2) (v := .bool c2) rfl
  have x3 := R3.cell (i := 3) (v := .int .i64 c3) rfl
  have x4 := R3.cell (i := 4) (v := .int .i64 c4) rfl
  have x5 := R3.cell (i := 5) (v := .string c5) rfl
  have x6 := R3.cell (i := 6) (v := .string c6) rfl
  have x7 := R3.cell (i := 7) (v := .string c7) rfl
  have x8 := R3.cell (i := 8) (v := .slice a8 n8 p8) rfl
  have x9 := R3.cell (i := 9) (v := .slice a9 n9 p9) rfl
  have y0 := RN.cell (i := 0) (v := .int .i64 c0) rfl
  have y1 := RN.cell (i := 1) (v := .int .i64 c1) rfl
  have y2 := RN.cell (i := 2) (v := .bool c2) rfl
  have y3 := RN.cell (i := 3) (v := .int .i64 c3) rfl
  have y4 := RN.cell (i := 4) (v := .int .i64 c4) rfl
  have y5 := RN.cell (i := 5) (v := .string c5) rfl
  have y6 := RN.cell (i := 6) (v := .string c6) rfl
  have y7 := RN.cell (i := 7) (v := .string c7) rfl
  have RN3 := RN
  clear RN hRN3
  cases u1
  · go_wp2_with fail
    refine (hF _).mono ?_
    rintro e w4 ⟨rfl, hb⟩
    have hB4 := hB3.trans (hb.mono hB3.size)
    clear hb
    clear x0 x1 x2 x3 x4 x5 x6 x7 x8 x9 y0 y1 y2 y3 y4 y5 y6 y7
    go_wp2_with fail
    go_ret
    exact ⟨rfl, hB4⟩
  · go_wp2_with fail
    refine (hF _).mono ?_
    rintro e w4 ⟨rfl, hb⟩
    have hB4 := hB3.trans (hb.mono hB3.size)
    have hz4 := hz3.trans (hb.mono hz3.size)
    have R4 := R3.later hb
    have RN4 := RN3.later hb
    clear hb
    clear x0 x1 x2 x3 x4 x5 x6 x7 x8 x9 y0 y1 y2 y3 y4 y5 y6 y7
    have x0 := R4.cell (i := 0) (v := .int .i64 c0) rfl
    have x1 := R4.cell (i := 1) (v := .int .i64 c1) rfl
    have x2 := R4.cell (i := 2) (v := .bool c2) rfl
    have x3 := R4.cell (i := 3) (v := .int .i64 c3) rfl
    have x4 := R4.cell (i := 4) (v := .int .i64 c4) rfl
    have x5 := R4.cell (i := 5) (v := .string c5) rfl
    have x6 := R4.cell (i := 6) (v := .string c6) rfl
    have x7 := R4.cell (i := 7) (v := .string c7) rfl
    have x8 := R4.cell (i := 8) (v := .slice a8 n8 p8) rfl
    have x9 := R4.cell (i := 9) (v := .slice a9 n9 p9) rfl
    have y0 := RN4.cell (i := 0) (v := .int .i64 c0) rfl
    have y1 := RN4.cell (i := 1) (v := .int .i64 c1) rfl
    have y2 := RN4.cell (i := 2) (v := .bool c2) rfl
    have y3 := RN4.cell (i := 3) (v := .int .i64 c3) rfl
    have y4 := RN4.cell (i := 4) (v := .int .i64 c4) rfl
    have y5 := RN4.cell (i := 5) (v := .string c5) rfl
    have y6 := RN4.cell (i := 6) (v := .string c6) rfl
    have y7 := RN4.cell (i := 7) (v := .string c7) rfl
    cases u2
    · go_wp2_with fail
      refine (hN _).mono ?_
      rintro e w5 ⟨rfl, hb⟩
      have hB5 := hB4.trans (hb.mono hB4.size)
      clear hb
      clear x0 x1 x2 x3 x4 x5 x6 x7 x8 x9 y0 y1 y2 y3 y4 y5 y6 y7
      go_wp2_with fail
      go_ret
      exact ⟨rfl, hB5⟩
    · go_wp2_with fail
      refine (hN _).mono ?_
      rintro e w5 ⟨rfl, hb⟩
      have hB5 := hB4.trans (hb.mono hB4.size)
      have hz5 := hz4.trans (hb.mono hz4.size)
      have R5 := R4.later hb
      have RN5 := RN4.later hb
      clear hb
      clear x0 x1 x2 x3 x4 x5 x6 x7 x8 x9 y0 y1 y2 y3 y4 y5 y6 y7
      have x0 := R5.cell (i := 0) (v := .int .i64 c0) rfl
      have x1 := R5.cell (i := 1) (v := .int .i64 c1) rfl
      have x2 := R5.cell (i := 2) (v := .bool c2) rfl
      have x3 := R5.cell (i := 3) (v := .int .i64 c3) rfl
      have x4 := R5.cell (i := 4) (v := .int .i64 c4) rfl
      have x5 := R5.cell (i := 5) (v := .string c5) rfl
      have x6 := R5.cell (i := 6) (v := .string c6) rfl
      have x7 := R5.cell (i := 7) (v := .string c7) rfl
      have x8 := R5.cell (i := 8) (v := .slice a8 n8 p8) rfl
      have x9 := R5.cell (i := 9) (v := .slice a9 n9 p9) rfl
      have y0 := RN5.cell (i := 0) (v := .int .i64 c0) rfl
      have y1 := RN5.cell (i := 1) (v := .int .i64 c1) rfl
      have y2 := RN5.cell (i := 2) (v := .bool c2) rfl
      have y3 := RN5.cell (i := 3) (v := .int .i64 c3) rfl
      have y4 := RN5.cell (i := 4) (v := .int .i64 c4) rfl
      have y5 := RN5.cell (i := 5) (v := .string c5) rfl
      have y6 := RN5.cell (i := 6) (v := .string c6) rfl
      have y7 := RN5.cell (i := 7) (v := .string c7) rfl
      cases u3
      · go_wp2_with fail
        refine (hT _).mono ?_
        rintro e w6 ⟨rfl, hb⟩
        have hB6 := hB5.trans (hb.mono hB5.size)
        clear hb
        clear x0 x1 x2 x3 x4 x5 x6 x7 x8 x9 y0 y1 y2 y3 y4 y5 y6 y7
        go_wp2_with fail
        go_ret
        exact ⟨rfl, hB6⟩
      · go_wp2_with fail
        refine (hT _).mono ?_
        rintro e w6 ⟨rfl, hb⟩
        have hB6 := hB5.trans (hb.mono hB5.size)
        have hz6 := hz5.trans (hb.mono hz5.size)
        have R6 := R5.later hb
        have RN6 := RN5.later hb
        clear hb
        clear x0 x1 x2 x3 x4 x5 x6 x7 x8 x9 y0 y1 y2 y3 y4 y5 y6 y7
        have x0 := R6.cell (i := 0) (v := .int .i64 c0) rfl
        have x1 := R6.cell (i := 1) (v := .int .i64 c1) rfl
        have x2 := R6.cell (i := 2) (v := .bool c2) rfl
        have x3 := R6.cell (i := 3) (v := .int .i64 c3) rfl
        have x4 := R6.cell (i := 4) (v := .int .i64 c4) rfl
        have x5 := R6.cell (i := 5) (v := .string c5) rfl
        have x6 := R6.cell (i := 6) (v := .string c6) rfl
        have x7 := R6.cell (i := 7) (v := .string c7) rfl
        have x8 := R6.cell (i := 8) (v := .slice a8 n8 p8) rfl
        have x9 := R6.cell (i := 9) (v := .slice a9 n9 p9) rfl
        have y0 := RN6.cell (i := 0) (v := .int .i64 c0) rfl
        have y1 := RN6.cell (i := 1) (v := .int .i64 c1) rfl
        have y2 := RN6.cell (i := 2) (v := .bool c2) rfl
        have y3 := RN6.cell (i := 3) (v := .int .i64 c3) rfl
        have y4 := RN6.cell (i := 4) (v := .int .i64 c4) rfl
        have y5 := RN6.cell (i := 5) (v := .string c5) rfl
        have y6 := RN6.cell (i := 6) (v := .string c6) rfl
        have y7 := RN6.cell (i := 7) (v := .string c7) rfl
        go_wp2_with fail
        refine (hQ _ hz6).mono ?_
        rintro e w7 ⟨rfl, hb⟩
        have hB7 := hB6.trans (hb.mono hB6.size)
        clear hb
        clear x0 x1 x2 x3 x4 x5 x6 x7 x8 x9 y0 y1 y2 y3 y4 y5 y6 y7
        go_wp2_with fail
        go_ret
        exact ⟨rfl, hB7⟩
theorem execOp_stE (ρ : Operand → Value) (dst : Option Tmp) (x y : Operand) (ty : TypeId) (pos : String) (after : Array Edge) (guard : Option (Nat × Bool)) :
    execOp ρ { dst := dst, op := .store 79 x y, type := ty, pos := pos, after := after, guard := guard } = stX 79 (ρ x) (ρ y) := rfl
theorem stE_new {w : World} {ys : List Value} (hl : ys.length = 10) (ho : ys.all Value.oneCell' = true) :
    (stX 79 (.pointer (some ⟨w.heap.size, 0, none⟩)) (.agg ys.toArray)).run Tryz.prog (w.alloc (.cells #[.int .i64 0, .int .i64 0, .bool false, .int .i64 0, .int .i64 0, .string ⟨#[]⟩, .string ⟨#[]⟩, .string ⟨#[]⟩, .slice none 0 0, .slice none 0 0] 79)) = .ok .skip (w.alloc (.cells ys.toArray 79)) := by
  have h := storeAt_row (P := Tryz.prog) (zs := #[.int .i64 0, .int .i64 0, .bool false, .int .i64 0, .int .i64 0, .string ⟨#[]⟩, .string ⟨#[]⟩, .string ⟨#[]⟩, .slice none 0 0, .slice none 0 0]) ys (fun w => by rw [hl]; exact Tryz.sizeOf79 w) hl ho (RowAt.new w 79 #[.int .i64 0, .int .i64 0, .bool false, .int .i64 0, .int .i64 0, .string ⟨#[]⟩, .string ⟨#[]⟩, .string ⟨#[]⟩, .slice none 0 0, .slice none 0 0])
  rw [setRow_new] at h
  simp [stX, h, Result.andThen]
attribute [local go_sem] Oper.semAt_some
attribute [local go_sem ↓] execOp_ldE execOp_stE
def AllS (xs : List (Nat × Nd)) (i : Nat) : Prop := ∀ j p, j < i → xs[j]? = some p → stepOk j p = true
def SomeS (xs : List (Nat × Nd)) : Prop := ∃ j p, xs[j]? = some p ∧ stepOk j p = false
set_option maxRecDepth 100000 in
set_option maxHeartbeats 8000000 in
theorem exprsOk_any (w0 W : World) (L : List Nd) (v : Value) (hb0 : Below w0.heap.size w0 W) (hv : LK exprTy w0 W (fun _ => True) v L) (hL : ∀ c ∈ L, Bd c) (hlen : (L.flatMap (pre 1)).length ≤ 2000000) :
    Calls Tryz.prog 23 #[v] W fun e w' => e = .returned (.bool (listOk L)) ∧ Below W.heap.size W w' := by
  obtain ⟨a0, cap, rfl⟩ := hv.slice
  have hz := hb0.size
  have hT := @listOk_true L
  have hF := @listOk_false L
  generalize listOk L = res at hT hF ⊢
  generalize hxs : L.flatMap (pre 1) = xs at hlen
  have hT1 := fun h => hT hxs h
  have hF1 := fun {i p} h1 h2 => hF hxs (i := i) (p := p) h1 h2
  clear hT hF
  have HB : ∀ d c, (d, c) ∈ xs → Bd c := fun d c h => by
    rw [← hxs, List.mem_flatMap] at h
    obtain ⟨c', hc', h⟩ := h
    exact (hL c' hc').pre 1 _ h
  refine (callsIn_wide (n := 5)).1 ?_
  refine callsIn_of_wp_marks Tryz.func23 rfl trivial ?_ rfl
  simp only [Tryz.ntmps23, List.size_toArray, List.length_cons, List.length_nil, Nat.reduceAdd, Nat.reduceSub, Array.replicate_succ, Array.replicate_zero, List.push_toArray, List.append_toArray, List.nil_append, List.cons_append]
  have H0 : RowAt ((W.alloc (.cells #[.bool false] 4)).alloc (.cells #[.int .i64 0] 3)) W.heap.size 4 #[.bool false] := (RowAt.new W 4 #[.bool false]).alloc _
  have G0 : RowAt ((W.alloc (.cells #[.bool false] 4)).alloc (.cells #[.int .i64 0] 3)) (W.heap.size + 1) 3 #[.int .i64 0] := RowAt.new1 W _ _ _
  have B0 : Below W.heap.size W ((W.alloc (.cells #[.bool false] 4)).alloc (.cells #[.int .i64 0] 3)) := ((Below.refl _ _).alloc (Nat.le_refl _) _).alloc (by simp) _
  have s0 : ((W.alloc (.cells #[.bool false] 4)).alloc (.cells #[.int .i64 0] 3)).heap.size = W.heap.size + 2 := by simp
  gi_wp2
  generalize (W.alloc (.cells #[.bool false] 4)).alloc (.cells #[.int .i64 0] 3) = w1 at *
  refine ⟨trivial, (callsIn_wide.2 (visitsE_any _ _ ⟨_, _, _, rfl⟩ ⟨_, rfl⟩ w1)).mono ?_⟩
  rintro e w3 ⟨rfl, hw3⟩
  have k1 : w3.cell? ⟨w1.heap.size, 0, none⟩ = some (.slice a0 L.length cap) := by rw [hw3]; exact ((RowAt.new w1 36 #[.slice a0 L.length cap]).alloc _).cell (i := 0) rfl
  have k2 : w3.cell? ⟨w1.heap.size + 1, 0, none⟩ = some (.func (.func 57) #[] #[]) := by
    have h := (RowAt.new (w1.alloc (.cells #[.slice a0 L.length cap] 36)) 92 #[.func (.func 57) #[] #[]]).cell (i := 0) rfl
    rw [World.size_alloc] at h
    rw [hw3]; exact h
  have b3 : Below w1.heap.size w1 w3 := by rw [hw3]; exact ((Below.refl _ _).alloc (Nat.le_refl _) _).alloc (by simp) _
  have s3 : w3.heap.size = W.heap.size + 4 := by rw [hw3]; simp [s0]
  clear hw3
  have H3 := H0.later b3
  have G3 := G0.later b3
  have B3 : Below W.heap.size W w3 := B0.trans (b3.mono (by omega))
  rw [s0] at k1 k2
  gi_wp2
  refine wpIn_rangeV (α := Nat × Nd) rfl (by decide) (gf := VE) (lb := #[.pointer (some ⟨W.heap.size + 2, 0, none⟩), .pointer (some ⟨W.heap.size + 2 + 1, 0, none⟩)]) rfl trivial (enters_of Tryz.func94 (by kernel_rfl) rfl)
    (visE_any pre parts (fun _ => True) w0 w3 L _ _ _ (fun k => k = W.heap.size ∨ k = W.heap.size + 1) xs _ hxs.symm hlen (hb0.trans (B3.mono hz)) (fun k hk => ⟨by omega, by omega⟩) k1 k2 (by omega)
      (hv.keep B3.size (fun g _ hlt => B3.block g hlt) fun g _ hlt => by omega) (fun d c h _ => partsOf_any w0 c (HB d c h)) pre_hd (fun d c h _ => pre_eq d (HB d c h).f8 (HB d c h).f9))
    (fun k hk => by omega) (fun x v h => by obtain ⟨ys, _, rfl⟩ := h; rfl)
    (fun i Wr => RowAt Wr W.heap.size 4 #[.bool false] ∧ RowAt Wr (W.heap.size + 1) 3 #[.int .i64 ((i : Nat) : Int)] ∧ Below W.heap.size W Wr ∧ AllS xs i)
    (fun c i Wr => c = .ret ∧ RowAt Wr W.heap.size 4 #[.bool false] ∧ Below W.heap.size W Wr ∧ SomeS xs)
    (fun i A B h hb => ⟨(hb.block _ (by omega)).trans h.1, (hb.block _ (by omega)).trans h.2.1, h.2.2.1.trans (hb.mono (by omega)), h.2.2.2⟩) (fun c i A B h hb => ⟨h.1, (hb.block _ (by omega)).trans h.2.1, h.2.2.1.trans (hb.mono (by omega)), h.2.2.2⟩) ⟨H3, G3, B3, fun j p hj => absurd hj (Nat.not_lt_zero j)⟩
    (fun x a Wr => ∃ (ys : List Value) (Bx : Nat), OutK exprTy w0 ys [x.2] ∧ w3.heap.size + 1 < Bx ∧ RowAt Wr Bx 79 ys.toArray ∧
      a = { tmps := #[.slice a0 L.length cap, undef, .pointer (some ⟨W.heap.size, 0, none⟩), .pointer (some ⟨W.heap.size + 1, 0, none⟩), .int .i64 (x.1 : Int), .pointer (some ⟨Bx, 0, none⟩), .slice a0 L.length cap, .func (.func VE) #[] #[.pointer (some ⟨W.heap.size + 2, 0, none⟩), .pointer (some ⟨W.heap.size + 2 + 1, 0, none⟩)], .int .i64 (x.1 : Int), .agg ys.toArray, undef, undef, undef, undef, undef, undef, undef, undef, undef, undef, undef, undef, undef], defers := [] })
    (fun x a A B h hk => by obtain ⟨ys, Bx, h1, h2, h3, h4⟩ := h; exact ⟨ys, Bx, h1, h2, (hk Bx h2).trans h3, h4⟩) ?assign ?body ?done ?stop
  case assign =>
    rintro l ⟨d, c⟩ v W1 K ⟨ys, hys, rfl⟩ hsz hK
    have hyl : ys.length = 10 := hys.1
    have hyo : ys.all Value.oneCell' = true := List.all_eq_true.2 hys.ones
    have hst := stE_new (w := W1) hyl hyo
    gi_wp2
    exact hK _ _ ⟨ys, W1.heap.size, hys, hsz, RowAt.new W1 _ _, rfl⟩ ((Below.refl _ _).alloc (Nat.le_refl _) _)
  case body =>
    rintro l i ⟨d, c⟩ a1 W1 hx ⟨hI, hG, hB, hA⟩ hsz ⟨ys, Bx, hys, hBx, hR, rfl⟩
    have hyl : ys.length = 10 := hys.1
    have hmem : (d, c) ∈ xs := List.mem_of_getElem? hx
    have hil : i < xs.length := (List.getElem?_eq_some_iff.1 hx).1
    have hN := fun w h => nodeOk_any w0 c ys w hys h (HB d c hmem)
    have hdb : (d : Int) ≤ 3000000 ∨ (3000000 : Int) < d := by omega
    have hval : stepOk i (d, c) = (decide (d ≤ 24) && (decide (i + 1 ≤ 200) && nodeB c)) := rfl
    have g0 := hG.cell (i := 0) (v := .int .i64 ((i : Nat) : Int)) rfl
    have g1 := hG.soft 0
    have hG2 : RowAt (W1.setCell ⟨W.heap.size + 1, 0, none⟩ (.int .i64 ((i : Int) + 1))) (W.heap.size + 1) 3 #[.int .i64 ((i : Int) + 1)] := hG.set 0 _
    have hI2 : RowAt (W1.setCell ⟨W.heap.size + 1, 0, none⟩ (.int .i64 ((i : Int) + 1))) W.heap.size 4 #[.bool false] := hI.other (by omega)
    have hR2 : RowAt (W1.setCell ⟨W.heap.size + 1, 0, none⟩ (.int .i64 ((i : Int) + 1))) Bx 79 ys.toArray := hR.other (by omega)
    have hB2 := hB.setCell (p := ⟨W.heap.size + 1, 0, none⟩) (by show W.heap.size ≤ W.heap.size + 1; omega) (.int .i64 ((i : Int) + 1))
    have hbut : But (fun k => k = W.heap.size ∨ k = W.heap.size + 1) W1 (W1.setCell ⟨W.heap.size + 1, 0, none⟩ (.int .i64 ((i : Int) + 1))) := But.setCell _ ⟨W.heap.size + 1, 0, none⟩ _ (Or.inr rfl)
    have t1 : decide ((24 : Int) < (d : Int)) = !decide (d ≤ 24) := by rw [← decide_not, decide_eq_decide]; omega
    have t2 : decide ((200 : Int) < (i : Int) + 1) = !decide (i + 1 ≤ 200) := by rw [← decide_not, decide_eq_decide]; omega
    have hb2 := hb0.trans (hB2.mono hz)
    have hi2 : (i : Int) ≤ 2000000 := by omega
    have hstp : stepOk i (d, c) = false → SomeS xs := fun h => ⟨i, (d, c), hx, h⟩
    have hall : stepOk i (d, c) = true → AllS xs (i + 1) := fun h j p hj hp => by
      by_cases e : j = i
      · subst e
        rw [hx] at hp
        cases hp; exact h
      · exact hA j p (by omega) hp
    have HS := Lib.hid hstp
    have HA := Lib.hid hall
    have HV := Lib.hid hval
    generalize decide (d ≤ 24) = u1 at t1 HV
    generalize decide (i + 1 ≤ 200) = u2 at t2 HV
    clear hstp hall hval hdb hx hA hmem hlen
    have hret : ∀ w4 : World, Below (W1.setCell ⟨W.heap.size + 1, 0, none⟩ (.int .i64 ((i : Int) + 1))).heap.size (W1.setCell ⟨W.heap.size + 1, 0, none⟩ (.int .i64 ((i : Int) + 1))) w4 → stepOk i (d, c) = false →
        But (fun k => k = W.heap.size ∨ k = W.heap.size + 1) W1 (w4.setCell ⟨W.heap.size, 0, none⟩ (.bool false)) ∧ RowAt (w4.setCell ⟨W.heap.size, 0, none⟩ (.bool false)) W.heap.size 4 #[.bool false] ∧ Below W.heap.size W (w4.setCell ⟨W.heap.size, 0, none⟩ (.bool false)) ∧ SomeS xs := fun w4 hb4 hs =>
      ⟨(hbut.trans (But.below hb4)).trans (But.setCell _ ⟨W.heap.size, 0, none⟩ _ (Or.inl rfl)), (hI2.later hb4).set 0 _, (hB2.trans (hb4.mono hB2.size)).setCell (p := ⟨W.heap.size, 0, none⟩) (Nat.le_refl _) _, HS.out hs⟩
    have c0 : ∀ w4 : World, Below (W1.setCell ⟨W.heap.size + 1, 0, none⟩ (.int .i64 ((i : Int) + 1))).heap.size (W1.setCell ⟨W.heap.size + 1, 0, none⟩ (.int .i64 ((i : Int) + 1))) w4 → w4.cell? ⟨W.heap.size, 0, none⟩ = some (.bool false) ∧ w4.frozen? ⟨W.heap.size, 0, none⟩ = false := fun w4 hb4 => ⟨(hI2.later hb4).cell (i := 0) rfl, (hI2.later hb4).soft 0⟩
    have ld : (ldX 79 (.pointer (some ⟨Bx, 0, none⟩))).run Tryz.prog (W1.setCell ⟨W.heap.size + 1, 0, none⟩ (.int .i64 ((i : Int) + 1))) = .ok (.value (.agg ys.toArray)) (W1.setCell ⟨W.heap.size + 1, 0, none⟩ (.int .i64 ((i : Int) + 1))) := run_ldX (P := Tryz.prog) (o := 0) hyl Tryz.isAgg79 Tryz.sizeOf79 fun j u hj => by rw [Nat.zero_add]; exact hR2.cell (i := j) (by simpa using hj)
    have ic := (hG2.cell (i := 0) (v := .int .i64 ((i : Int) + 1)) rfl)
    cases u1
    case false =>
      obtain ⟨ca, cb⟩ := c0 _ (Below.refl _ _)
      have hr := Lib.hid (hret _ (Below.refl _ _) (by rw [HV.out]; rfl))
      clear hret c0 hN ld
      gi_wp2
      refine ⟨trivial, ?_⟩
      gi_wp2
      exact ⟨hr.out.1, rfl, hr.out.2.1, hr.out.2.2.1, hr.out.2.2.2⟩
    case true =>
      cases u2
      case false =>
        obtain ⟨ca, cb⟩ := c0 _ (Below.refl _ _)
        have hr := Lib.hid (hret _ (Below.refl _ _) (by rw [HV.out]; rfl))
        clear hret c0 hN ld
        gi_wp2
        refine ⟨trivial, ?_⟩
        gi_wp2
        exact ⟨hr.out.1, rfl, hr.out.2.1, hr.out.2.2.1, hr.out.2.2.2⟩
      case true =>
        have hcall := hN _ hb2
        generalize nodeB c = u3 at hcall HV
        cases u3
        case false =>
          gi_wp2
          refine ⟨trivial, (CallsIn.inRound l (callsIn_wide.2 hcall)).mono ?_⟩
          rintro e w4 ⟨rfl, hb4⟩
          obtain ⟨ca, cb⟩ := c0 _ hb4
          have hr := Lib.hid (hret _ hb4 (by rw [HV.out]; rfl))
          clear hret c0 hN ld hcall
          gi_wp2
          exact ⟨hr.out.1, rfl, hr.out.2.1, hr.out.2.2.1, hr.out.2.2.2⟩
        case true =>
          gi_wp2
          refine ⟨trivial, (CallsIn.inRound l (callsIn_wide.2 hcall)).mono ?_⟩
          rintro e w4 ⟨rfl, hb4⟩
          clear hret c0 hN ld hcall
          gi_wp2
          exact ⟨hbut.trans (But.below hb4), trivial, hI2.later hb4, hG2.later hb4, hB2.trans (hb4.mono hB2.size), HA.out (by rw [HV.out]; rfl)⟩
  case done =>
    rintro D W1 hD ⟨hI, hG, hB, hA⟩ hK
    have x0 := hI.cell (i := 0) (v := .bool false) rfl
    have x1 := hI.soft 0
    have hI5 : RowAt (W1.setCell ⟨W.heap.size, 0, none⟩ (.bool true)) W.heap.size 4 #[.bool true] := hI.set 0 _
    have hB5 := hB.setCell (p := ⟨W.heap.size, 0, none⟩) (Nat.le_refl _) (.bool true)
    have hK5 : (W1.setCell ⟨W.heap.size, 0, none⟩ (.bool true)).heap[D]? = some (.deferred (some [])) := (heap_setCell_other W1 ⟨W.heap.size, 0, none⟩ D _ (by show D ≠ W.heap.size; omega)).trans hK
    gi_wp2
    have hI6 : RowAt ((W1.setCell ⟨W.heap.size, 0, none⟩ (.bool true)).putObj D (.deferred none)) W.heap.size 4 #[.bool true] := (World.putObj_heap_other (by omega)).trans hI5
    have f0 := hI6.cell (i := 0) (v := .bool true) rfl
    have hB6 := hB5.trans (below_put (W1.setCell ⟨W.heap.size, 0, none⟩ (.bool true)) D (.deferred none) (by omega))
    refine ⟨by simp, .inl ⟨_, _, rfl, run_takeDeferred hK5, ?_⟩⟩
    generalize (W1.setCell ⟨W.heap.size, 0, none⟩ (.bool true)).putObj D (.deferred none) = w9 at f0 hB6 ⊢
    refine ⟨.bool true, by simp [results, Tryz.results23, go_sem, f0], ?_, hB6⟩
    rw [hT1 fun j p hj => hA j p (List.getElem?_eq_some_iff.1 hj).1 hj]
  case stop =>
    rintro D c i W1 hD hle ⟨rfl, hI, hB, j, p, hj, hs⟩ hK
    gi_wp2
    have hI6 : RowAt (W1.putObj D (.deferred none)) W.heap.size 4 #[.bool false] := (World.putObj_heap_other (by omega)).trans hI
    have f0 := hI6.cell (i := 0) (v := .bool false) rfl
    have hB6 := hB.trans (below_put W1 D (.deferred none) (by omega))
    refine ⟨by simp, .inl ⟨_, _, rfl, run_takeDeferred hK, ?_⟩⟩
    generalize W1.putObj D (.deferred none) = w9 at f0 hB6 ⊢
    refine ⟨.bool false, by simp [results, Tryz.results23, go_sem, f0], ?_, hB6⟩
    rw [hF1 hj hs]
end Go.Proofs.YtcliijfdlcagoaaGreat
