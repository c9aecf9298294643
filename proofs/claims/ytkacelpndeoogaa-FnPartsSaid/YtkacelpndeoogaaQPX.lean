/- Joined texts: PartsL. -/
import Derived.Test.YtkacelpndeoogaaQPQ
import Derived.Test.YtkacelpndeoogaaQPW
import Derived.Test.YtkacelpndeoogaaQPT
/- The walk of the law FnParts. -/
namespace Go.Proofs.Ytkacelpndeoogaa
open Go.RowKit

/-- what fits is the same as itself -/
theorem same_refl : ∀ (d : Dat) (ty : Ty), Fits d ty → same d d ty = true
  | .v x, ty, h => by
    cases ty
    case int => obtain ⟨n, rfl, _⟩ := h; rw [same_int]; simp
    case bool => obtain ⟨n, rfl⟩ := h; rw [same_bool]; simp
    case str => obtain ⟨n, rfl, _⟩ := h; rw [same_str]; simp
    all_goals exact h.elim
  | .sl n k f, ty, h => by
    obtain ⟨_, _, hk, hf⟩ := h
    rw [same_sl, Bool.and_eq_true]
    refine ⟨by simp, List.all_eq_true.2 fun i hi => ?_⟩
    unfold sameC
    refine List.all_eq_true.2 fun j hj => ?_
    have hj' : j < (rowTy ty).length := List.mem_range.1 hj
    have hg : (rowTy ty).getD j .int = (rowTy ty)[j] := by simp [List.getD_eq_getElem?_getD, List.getElem?_eq_getElem hj']
    rw [hg]
    exact same_refl (f i j) _ (hf i (List.mem_range.1 hi) j hj')
theorem sameC_refl {w0 : World} {ys : List Value} {c : Nd} (h : OutK exprTy w0 ys [c]) : sameC exprTy c c = true := by
  unfold sameC
  refine List.all_eq_true.2 fun j hj => ?_
  have hj' : j < exprTy.length := List.mem_range.1 hj
  have hg : exprTy.getD j .int = exprTy[j] := by simp [List.getD_eq_getElem?_getD, List.getElem?_eq_getElem hj']
  rw [hg]
  obtain ⟨y, _, _, hf⟩ := h.cellOf j hj'
  exact same_refl (c j) _ hf
/-- the parts of what is right -/
theorem parts_ok {c : Nd} {n8 n9 : Nat} {f8 f9 : Nat → Nat → Dat} (e8 : c 8 = .sl n8 10 f8) (e9 : c 9 = .sl n9 6 f9) (hf : Fits (.sl n9 6 f9) .queries) (h : listOk [c] = true) :
    (∀ j, j < n8 → listOk [f8 j] = true ∧ foldE depA (f8 j) < 24) ∧ ∀ k, k < n9 → queryOk (f9 k) = true := by
  rw [listOk_one] at h
  simp only [Bool.and_eq_true, decide_eq_true_eq] at h
  obtain ⟨h1, h2, h3⟩ := h
  have hD : foldE depA c = max (dUp (fun i => foldE depA (f8 i)) n8) (dUp (fun i => foldQ depA (f9 i)) n9) + 1 := by
    show max (fold depA (c 8) .exprs) (fold depA (c 9) .queries) + 1 = _
    rw [e8, e9]; rfl
  have hS : foldE sizA c = sUp (fun i => foldE sizA (f8 i)) n8 + sUp (fun i => foldQ sizA (f9 i)) n9 + 1 := by
    show fold sizA (c 8) .exprs + fold sizA (c 9) .queries + 1 = _
    rw [e8, e9]; rfl
  have hd : ∀ (g : Nat → Nat) (n j : Nat), j < n → g j ≤ dUp g n := fun g n => by
    induction n with
    | zero => intro j hj; omega
    | succ n ih =>
      intro j hj
      rw [dUp_succ]
      by_cases e : j = n
      · subst e; omega
      · have := ih j (by omega); omega
  have hs : ∀ (g : Nat → Nat) (n j : Nat), j < n → g j ≤ sUp g n := fun g n => by
    induction n with
    | zero => intro j hj; omega
    | succ n ih =>
      intro j hj
      rw [sUp_succ]
      by_cases e : j = n
      · subst e; omega
      · have := ih j (by omega); omega
  have hR : foldE rightA c = true := by rw [rightE_ok]; exact h1
  have hR2 : (shapeB c && (fold rightA (c 8) .exprs && fold rightA (c 9) .queries)) = true := hR
  rw [e8, e9] at hR2
  simp only [Bool.and_eq_true] at hR2
  have hk8 : rightA.of ((List.range n8).map fun i => foldE rightA (f8 i)) = true := hR2.2.1
  have hk9 : rightA.of ((List.range n9).map fun i => foldQ rightA (f9 i)) = true := hR2.2.2
  rw [rightA_of, List.all_map, List.all_eq_true] at hk8 hk9
  refine ⟨fun j hj => ?_, fun k hk => ?_⟩
  · have k1 := hk8 j (List.mem_range.2 hj)
    have k2 := hd (fun i => foldE depA (f8 i)) n8 j hj
    have k3 := hs (fun i => foldE sizA (f8 i)) n8 j hj
    have k4 : foldE okA (f8 j) = true := by rw [← rightE_ok]; exact k1
    rw [listOk_one, k4]
    simp only [Bool.true_and, Bool.and_eq_true, decide_eq_true_eq]
    omega
  · have k1 : foldQ rightA (f9 k) = true := hk9 k (List.mem_range.2 hk)
    have k2 := hd (fun i => foldQ depA (f9 i)) n9 k hk
    have k3 := hs (fun i => foldQ sizA (f9 i)) n9 k hk
    rw [queryOk_is (q := f9 k) (fitsQ_of hf (List.mem_map.2 ⟨k, List.mem_range.2 hk, rfl⟩)), k1]
    simp only [Bool.true_and, Bool.and_eq_true, decide_eq_true_eq]
    omega
set_option maxRecDepth 100000 in
set_option maxHeartbeats 16000000 in
theorem parts_law (a : Option Addr) (len cap : Nat) (w : World) (hrow : RowB w.heap.size a len w) :
    Calls Try.prog 4 #[.slice a len cap] w (BoolE true w) := by
  have hlen := hrow.1
  by_cases hbig : 1048576 < len
  · go_enter Try.func4, Try.ntmps4
    go_wp2_with fail
    refine (big_yes a len cap _ hlen hbig).mono ?_
    rintro e w' ⟨rfl, rfl⟩
    go_wp2_with fail
    go_ret
    exact ⟨rfl, Below.refl _ _⟩
  · go_enter Try.func4, Try.ntmps4
    go_wp2_with fail
    refine (big_no a len cap _ hbig).mono ?_
    rintro e w' ⟨rfl, rfl⟩
    go_wp2_with fail
    refine (drawExprOk_any a len cap _ hrow).mono ?_
    rintro e w1 ⟨L, τ, ys, rfl, hy, hI, -, hb1⟩
    obtain ⟨c, hout, hm, -⟩ := tree_out hI hy
    clear hI hy hrow
    have hout0 := hout
    obtain ⟨c0, c1, c2, c3, c4, c5, c6, c7, a8, n8, p8, a9, n9, p9, rfl, ⟨e0, b0⟩, ⟨e1, b1⟩, e2, ⟨e3, b3⟩, ⟨e4, b4⟩, ⟨e5, b5⟩, ⟨e6, b6⟩, ⟨e7, b7⟩, ⟨r8, q8⟩, ⟨r9, q9⟩⟩ := hout.ten
    have hbd : Bd c := ⟨by omega, by omega, q8, q9⟩
    have hwt : wt c ≤ 2000000 := by show msr (c 8) + msr (c 9) + 1 ≤ _; omega
    have hsr := sameC_refl hout0
    have hEI := fun v hv => ExprOk_any w1 c _ v hout0 hv hbd hwt
    have hSI := fun v hv => SameExpr_any w1 c c _ _ v hout0 hout0 hv hbd hbd hwt
    rw [hsr] at hSI
    have hES := fun v s8 s9 => exprOk_spec c c0 c1 c2 c3 c4 c5 c6 c7 (.slice a8 n8 p8) (.slice a9 n9 p9) v e0 e1 e2 e3 e4 e5 e6 e7 b5 b6 b7 s8 s9 hbd
    obtain ⟨f8, e8, r8, q8⟩ := r8.openS q8 rfl
    obtain ⟨f9, e9, r9, q9⟩ := r9.openS q9 rfl
    replace e8 : c 8 = .sl n8 10 f8 := e8
    replace e9 : c 9 = .sl n9 6 f9 := e9
    replace r8 : Rd w1 0 (.slice a8 n8 p8) (.sl n8 10 f8) := r8
    replace r9 : Rd w1 0 (.slice a9 n9 p9) (.sl n9 6 f9) := r9
    replace q8 : Fits (.sl n8 10 f8) .exprs := q8
    replace q9 : Fits (.sl n9 6 f9) .queries := q9
    have hP := parts_ok e8 e9 q9
    rw [e8, e9] at hES
    rw [e8, e9] at hm
    have st1 := stE_new (w := w1) (ys := [.int .i64 c0, .int .i64 c1, .bool c2, .int .i64 c3, .int .i64 c4, .string c5, .string c6, .string c7, .slice a8 n8 p8, .slice a9 n9 p9]) rfl rfl
    have HB := RowAt.new w1 29 #[.int .i64 c0, .int .i64 c1, .bool c2, .int .i64 c3, .int .i64 c4, .string c5, .string c6, .string c7, .slice a8 n8 p8, .slice a9 n9 p9]
    have hb2 := (Below.refl w1.heap.size w1).alloc (Nat.le_refl _) (.cells #[.int .i64 c0, .int .i64 c1, .bool c2, .int .i64 c3, .int .i64 c4, .string c5, .string c6, .string c7, .slice a8 n8 p8, .slice a9 n9 p9] 29)
    have hbw : Below w.heap.size w (w1.alloc (.cells #[.int .i64 c0, .int .i64 c1, .bool c2, .int .i64 c3, .int .i64 c4, .string c5, .string c6, .string c7, .slice a8 n8 p8, .slice a9 n9 p9] 29)) := hb1.trans (hb2.mono hb1.size)
    replace r8 := r8.later hb2
    replace r9 := r9.later hb2
    generalize listOk [c] = V at hEI hES hP
    have hn8 : n8 ≤ 1048576 := by have := msr_n n8 10 f8; omega
    have hn9 : n9 ≤ 1048576 := by have := msr_n n9 6 f9; omega
    have hmsr8 : msr (.sl n8 10 f8) ≤ 1048576 := by omega
    have hmsr9 : msr (.sl n9 6 f9) ≤ 1048576 := by omega
    have HP := Lib.hid hP
    have HEI := Lib.hid hEI
    have HSI := Lib.hid hSI
    have HES := Lib.hid hES
    have HR := Lib.hid (And.intro r8 r9)
    clear hP hEI hSI hES r8 r9 hout hout0 hsr e0 e1 e2 e3 e4 e5 e6 e7 e8 e9 hm hwt hbd
    go_wp2_with fail
    clear st1
    generalize w1.alloc (.cells #[.int .i64 c0, .int .i64 c1, .bool c2, .int .i64 c3, .int .i64 c4, .string c5, .string c6, .string c7, .slice a8 n8 p8, .slice a9 n9 p9] 29) = W at HB hbw hb2 HR ⊢
    have hbx := HB.lt
    generalize w1.heap.size = b9 at HB hbx ⊢
    have hI1 : ∀ v, Calls Try.prog 17 #[.agg #[.int .i64 c0, .int .i64 c1, .bool c2, .int .i64 c3, .int .i64 c4, .string c5, .string c6, .string c7, .slice a8 n8 p8, .slice a9 n9 p9]] (lat W v) (BoolE V (lat W v)) := fun v => HEI.out _ (hb2.trans ((lat_below W v).mono hb2.size))
    have hS1 : ∀ v, Calls Try.prog 18 #[.agg #[.int .i64 c0, .int .i64 c1, .bool c2, .int .i64 c3, .int .i64 c4, .string c5, .string c6, .string c7, .slice a8 n8 p8, .slice a9 n9 p9]] (lat W v) (BoolE V (lat W v)) := fun v => HES.out _ (HR.out.1.later (lat_below W v)) (HR.out.2.later (lat_below W v))
    have x0 := lat_cell (HB.cell (i := 0) (v := .int .i64 c0) rfl)
    have x1 := lat_cell (HB.cell (i := 1) (v := .int .i64 c1) rfl)
    have x2 := lat_cell (HB.cell (i := 2) (v := .bool c2) rfl)
    have x3 := lat_cell (HB.cell (i := 3) (v := .int .i64 c3) rfl)
    have x4 := lat_cell (HB.cell (i := 4) (v := .int .i64 c4) rfl)
    have x5 := lat_cell (HB.cell (i := 5) (v := .string c5) rfl)
    have x6 := lat_cell (HB.cell (i := 6) (v := .string c6) rfl)
    have x7 := lat_cell (HB.cell (i := 7) (v := .string c7) rfl)
    have x8 := lat_cell (HB.cell (i := 8) (v := .slice a8 n8 p8) rfl)
    have x9 := lat_cell (HB.cell (i := 9) (v := .slice a9 n9 p9) rfl)
    refine region_lat (by kernel_rfl) (by kernel_rfl) ?_
    iterate 5 go_big_quiet_step (first | ((refine (hI1 _).mono ?_; rintro e w'' ⟨rfl, hb''⟩; exact ⟨rfl, lat_to hb''⟩)) | ((refine (hS1 _).mono ?_; rintro e w'' ⟨rfl, hb''⟩; exact ⟨rfl, lat_to hb''⟩)))
    refine wpQuiet_nil ?_
    rintro _ ⟨nq, rfl⟩
    clear x0 x1 x2 x3 x4 x5 x6 x7 x8 x9 hS1
    have hbq := lat_below W nq
    replace HB := HB.later hbq
    have hI2 := hI1 nq
    clear hI1
    generalize lat W nq = W4 at hbq HB hI2 ⊢
    have hbel := hbq
    have hbW : Below w.heap.size w W4 := hbw.trans (hbq.mono hbw.size)
    have x0 := HB.cell (i := 0) (v := .int .i64 c0) rfl
    have x1 := HB.cell (i := 1) (v := .int .i64 c1) rfl
    have x2 := HB.cell (i := 2) (v := .bool c2) rfl
    have x3 := HB.cell (i := 3) (v := .int .i64 c3) rfl
    have x4 := HB.cell (i := 4) (v := .int .i64 c4) rfl
    have x5 := HB.cell (i := 5) (v := .string c5) rfl
    have x6 := HB.cell (i := 6) (v := .string c6) rfl
    have x7 := HB.cell (i := 7) (v := .string c7) rfl
    have x8 := HB.cell (i := 8) (v := .slice a8 n8 p8) rfl
    have x9 := HB.cell (i := 9) (v := .slice a9 n9 p9) rfl
    go_wp2_with fail
    refine hI2.mono ?_
    rintro e W5 ⟨rfl, hb5⟩
    clear x0 x1 x2 x3 x4 x5 x6 x7 x8 x9 hI2
    replace HB := HB.later hb5
    have hbel5 : Below W.heap.size W W5 := hbel.trans (hb5.mono hbel.size)
    have hbw5 : Below w.heap.size w W5 := hbW.trans (hb5.mono hbW.size)
    cases V
    · go_wp2_with fail
      go_ret
      exact ⟨rfl, hbw5⟩
    · obtain ⟨HK, HQ⟩ := HP.out rfl
      have HKH := Lib.hid HK
      have HQH := Lib.hid HQ
      have HB0 := HB
      clear HK HQ HP hbW hbel hbq
      go_wp2_with fail
      go_loopw [4] (fun i wr => ∃ j : Nat, j ≤ n8 ∧ i = .int .i64 (j : Int) ∧ Below W5.heap.size W5 wr) (fun i _ => n8 - (intOf i).toNat)
      case atStart => exact ⟨0, Nat.zero_le _, rfl, Below.refl _ _⟩
      case round =>
        obtain ⟨j, hj, rfl, hbr⟩ := hrel
        have hbr0 := hbel5.trans (hbr.mono hbel5.size)
        replace HB := HB0.later hbr
        have x8 := HB.cell (i := 8) (v := .slice a8 n8 p8) rfl
        by_cases hlt : j < n8
        · have hlt2 : decide ((j : Int) < (n8 : Int)) = true := by simp; omega
          have ⟨k1, k2⟩ := HKH.out j hlt
          obtain ⟨g, o, rfl, -, hg, y0, y1, y2, y3, y4, y5, y6, y7, y8, y9, ⟨z0, z1, z2, z3, z4, z5, z6, z7, z8, z9⟩, hfacts⟩ := row_exprs (HR.out.1.later hbr0) q8 hlt
          have hoj := out_exprs hfacts
          obtain ⟨⟨-, d0⟩, ⟨-, d1⟩, -, ⟨-, d3⟩, ⟨-, d4⟩, ⟨-, d5⟩, ⟨-, d6⟩, ⟨-, d7⟩, ⟨s8, t8⟩, ⟨s9, t9⟩⟩ := hfacts
          have hmk := kid_msr (f := f8) hlt
          have hOk := fun v hv => ExprOk_any wr (f8 j) _ v hoj hv ⟨by omega, by omega, t8, t9⟩ (by show msr (f8 j 8) + msr (f8 j 9) + 1 ≤ _; omega)
          rw [k1] at hOk
          have hDk := fun v u8 u9 => DepthOf_impl (f8 j) (by omega) t8 t9 y0 y1 y2 y3 y4 y5 y6 y7 y8 y9 v d0 d1 d3 d4 d5 d6 d7 u8 t8 u9 t9
          generalize foldE depA (f8 j) = dk at hDk k2
          have hge : decide ((24 : Int) ≤ (dk : Int)) = false := by simp; omega
          clear k1 hoj d0 d1 d3 d4 d5 d6 d7
          go_wp2_with fail
          refine (hOk _ (Below.refl _ _)).mono ?_
          rintro e v1 ⟨rfl, hv1⟩
          have Z0 := (hv1.cell (p := ⟨g, o + j * 10, none⟩) hg).trans z0
          have Z1 := (hv1.cell (p := ⟨g, o + j * 10 + 1, none⟩) hg).trans z1
          have Z2 := (hv1.cell (p := ⟨g, o + j * 10 + 2, none⟩) hg).trans z2
          have Z3 := (hv1.cell (p := ⟨g, o + j * 10 + 3, none⟩) hg).trans z3
          have Z4 := (hv1.cell (p := ⟨g, o + j * 10 + 4, none⟩) hg).trans z4
          have Z5 := (hv1.cell (p := ⟨g, o + j * 10 + 5, none⟩) hg).trans z5
          have Z6 := (hv1.cell (p := ⟨g, o + j * 10 + 6, none⟩) hg).trans z6
          have Z7 := (hv1.cell (p := ⟨g, o + j * 10 + 7, none⟩) hg).trans z7
          have Z8 := (hv1.cell (p := ⟨g, o + j * 10 + 8, none⟩) hg).trans z8
          have Z9 := (hv1.cell (p := ⟨g, o + j * 10 + 9, none⟩) hg).trans z9
          clear z0 z1 z2 z3 z4 z5 z6 z7 z8 z9 x8 hOk
          replace s8 := s8.later hv1
          replace s9 := s9.later hv1
          replace HB := HB.later hv1
          have x8 := HB.cell (i := 8) (v := .slice (some ⟨g, o, none⟩) n8 p8) rfl
          replace hbr := hbr.trans (hv1.mono hbr.size)
          go_wp2_with fail
          refine (hDk _ s8 s9).mono ?_
          rintro e v2 ⟨rfl, hv2⟩
          replace hbr := hbr.trans (hv2.mono hbr.size)
          go_wp2_with fail
          go_roundw
          case rel => exact ⟨j + 1, hlt, by go_num, hbr⟩
          case measure => simp [intOf]; omega
        · have hlt2 : decide ((j : Int) < (n8 : Int)) = false := by simp; omega
          clear hj
          have hbr1 := hbr
          go_wp2_with fail
          go_loopw [5] (fun i wr => ∃ k : Nat, k ≤ n9 ∧ i = .int .i64 (k : Int) ∧ Below W5.heap.size W5 wr) (fun i _ => n9 - (intOf i).toNat)
          case atStart => exact ⟨0, Nat.zero_le _, rfl, hbr1⟩
          case round =>
            obtain ⟨k, hk, rfl, hbr⟩ := hrel
            have hbr0 := hbel5.trans (hbr.mono hbel5.size)
            replace HB := HB0.later hbr
            have x9 := HB.cell (i := 9) (v := .slice a9 n9 p9) rfl
            by_cases hlt : k < n9
            · have hlt3 : decide ((k : Int) < (n9 : Int)) = true := by simp; omega
              have k1 := HQH.out k hlt
              obtain ⟨g, o, rfl, -, hg, y0, y1, y2, y3, y4, y5, ⟨z0, z1, z2, z3, z4, z5⟩, hfacts⟩ := row_queries (HR.out.2.later hbr0) q9 hlt
              have hok := out_queries hfacts
              obtain ⟨-, ⟨s1, v1⟩, ⟨s2, v2⟩, ⟨s3, v3⟩, ⟨s4, v4⟩, ⟨-, d5⟩⟩ := hfacts
              have hmk := sub_msr (f := f9) hlt
              have hOk := fun v hv => QueryOk_any wr (f9 k) _ v hok hv ⟨⟨v1, v2, v3, v4⟩, by omega⟩
              rw [k1] at hOk
              clear k1 hok d5
              go_wp2_with fail
              refine (hOk _ (Below.refl _ _)).mono ?_
              rintro e v1 ⟨rfl, hv1⟩
              replace hbr := hbr.trans (hv1.mono hbr.size)
              go_wp2_with fail
              go_roundw
              case rel => exact ⟨k + 1, hlt, by go_num, hbr⟩
              case measure => simp [intOf]; omega
            · have hlt3 : decide ((k : Int) < (n9 : Int)) = false := by simp; omega
              have x0 := HB.cell (i := 0) (v := .int .i64 c0) rfl
              have x1 := HB.cell (i := 1) (v := .int .i64 c1) rfl
              have x2 := HB.cell (i := 2) (v := .bool c2) rfl
              have x3 := HB.cell (i := 3) (v := .int .i64 c3) rfl
              have x4 := HB.cell (i := 4) (v := .int .i64 c4) rfl
              have x5 := HB.cell (i := 5) (v := .string c5) rfl
              have x6 := HB.cell (i := 6) (v := .string c6) rfl
              have x7 := HB.cell (i := 7) (v := .string c7) rfl
              have x8 := HB.cell (i := 8) (v := .slice a8 n8 p8) rfl
              have hbS := hb2.trans (hbr0.mono hb2.size)
              have hbf := hbw.trans (hbr0.mono hbw.size)
              go_wp2_with fail
              refine (HSI.out _ hbS).mono ?_
              rintro e v1 ⟨rfl, hv1⟩
              have hff := hbf.trans (hv1.mono hbf.size)
              go_wp2_with fail
              go_ret
              exact ⟨rfl, hff⟩
end Go.Proofs.Ytkacelpndeoogaa
