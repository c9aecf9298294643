/- Joined texts: WrapdI NeedsL. -/
import Derived.Test.YtfmgkinindkedaaQHNeedI
import Derived.Test.YtfmgkinindkedaaQNDK
import Derived.Test.YtfmgkinindkedaaQNDF
import Derived.Test.YtfmgkinindkedaaQNDB
import Derived.Test.YtfmgkinindkedaaQNDW
import Derived.Test.YtfmgkinindkedaaQNDY
/- The program's Wrapped. -/
namespace Go.Proofs.Ytfmgkinindkedaa
open Go.RowKit

set_option maxRecDepth 100000 in
set_option maxHeartbeats 8000000 in
theorem wrapped_any (w0 : World) (c : Nd) (ys : List Value) (w : World) (hys : OutK exprTy w0 ys [c]) (hb0 : Below w0.heap.size w0 w) (k : Int) :
    Calls Try.prog 26 #[.agg ys.toArray, .int .i64 k] w (BoolE (wrapB c k) w) := by
  obtain ⟨c0, c1, c2, c3, c4, c5, c6, c7, a8, n8, p8, a9, n9, p9, rfl, ⟨e0, -⟩, ⟨e1, -⟩, -, -, -, -, -, -, ⟨r8, q8⟩, -⟩ := hys.ten
  obtain ⟨f8, e8, r8, q8⟩ := r8.openS q8 rfl
  replace r8 := Rd.later r8 hb0
  replace e8 : c 8 = .sl n8 10 f8 := e8
  have hR := wrapB_is e0 e1 e8 k
  clear e0 e1 e8 hb0 hys
  have hn8 := q8.2.1
  have HB := BX.new w 56 #[.int .i64 c0, .int .i64 c1, .bool c2, .int .i64 c3, .int .i64 c4, .string c5, .string c6, .string c7, .slice a8 n8 p8, .slice a9 n9 p9]
  have x0 := HB.box.cell (i := 0) (v := .int .i64 c0) rfl
  have x1 := HB.box.cell (i := 1) (v := .int .i64 c1) rfl
  have x2 := HB.box.cell (i := 2) (v := .bool c2) rfl
  have x3 := HB.box.cell (i := 3) (v := .int .i64 c3) rfl
  have x4 := HB.box.cell (i := 4) (v := .int .i64 c4) rfl
  have x5 := HB.box.cell (i := 5) (v := .string c5) rfl
  have x6 := HB.box.cell (i := 6) (v := .string c6) rfl
  have x7 := HB.box.cell (i := 7) (v := .string c7) rfl
  have x8 := HB.box.cell (i := 8) (v := .slice a8 n8 p8) rfl
  have x9 := HB.box.cell (i := 9) (v := .slice a9 n9 p9) rfl
  have hN := fun w => needs_impl c0 c1 c2 c3 c4 c5 c6 c7 a8 n8 p8 a9 n9 p9 k w
  have hI := fun w => hasKid_any c0 c1 c2 c3 c4 c5 c6 c7 a8 n8 p8 a9 n9 p9 k w
  generalize needV c0 (levV c0 c1) n8 k = N at hN hR
  generalize wrapB c k = R at hR ⊢
  have HR := Lib.hid hR
  clear hR
  go_enter Try.func26, Try.ntmps26
  go_wp2_with fail
  have hbw := HB.b
  generalize w.alloc (.cells #[.int .i64 c0, .int .i64 c1, .bool c2, .int .i64 c3, .int .i64 c4, .string c5, .string c6, .string c7, .slice a8 n8 p8, .slice a9 n9 p9] 56) = W at HB hbw x0 x1 x2 x3 x4 x5 x6 x7 x8 x9 ⊢
  cases hk : isKid n8 k
  · rw [hk] at hI
    have hr : R = false := by rw [HR.out, hk]; rfl
    subst hr
    clear hk hN HR
    replace x0 := lat_cell x0
    replace x1 := lat_cell x1
    replace x2 := lat_cell x2
    replace x3 := lat_cell x3
    replace x4 := lat_cell x4
    replace x5 := lat_cell x5
    replace x6 := lat_cell x6
    replace x7 := lat_cell x7
    replace x8 := lat_cell x8
    replace x9 := lat_cell x9
    refine region_lat (by kernel_rfl) (by kernel_rfl) ?_
    iterate 2 go_big_quiet_step (fail)
    go_big_quiet_step ((refine (hI _).mono ?_; rintro e w'' ⟨rfl, hb''⟩; exact ⟨rfl, lat_to hb''⟩))
    iterate 13 go_big_quiet_step (fail)
    refine wpQuiet_nil ?_
    rintro _ ⟨nq, rfl⟩
    have hbq := hbw.trans ((lat_below W nq).mono hbw.size)
    go_wp2_with fail
    go_ret
    exact ⟨rfl, hbq⟩
  · obtain ⟨j, rfl, hj⟩ := isKid_true hk
    rw [hk] at hI
    have HR2 : Hid (R = decide (levV (f8 j 0).num (f8 j 1).num < N)) := by show R = _; rw [HR.out, hk]; rfl
    clear hk HR
    obtain ⟨g, o, rfl, -, hg, y0, y1, y2, y3, y4, y5, y6, y7, y8, y9, ⟨z0, z1, z2, z3, z4, z5, z6, z7, z8, z9⟩, ⟨⟨e0, -⟩, ⟨e1, -⟩, -, -, -, -, -, -, ⟨s8, t8⟩, ⟨s9, t9⟩⟩⟩ := row_exprs (r8.later hbw) q8 hj
    obtain ⟨ka, kn, kp, rfl⟩ := s8.slice_of t8 rfl
    obtain ⟨la, ln, lp, rfl⟩ := s9.slice_of t9 rfl
    have hj2 : (j : Int) < (n8 : Int) := by omega
    have hL := fun w => levelOf_impl y0 y1 y2 y3 y4 y5 y6 y7 ka kn kp la ln lp w
    have hR3 : R = decide (levV y0 y1 < N) := by rw [HR2.out, num_is e0, num_is e1]
    clear HR2
    generalize levV y0 y1 = L at hL hR3
    clear e0 e1 s8 t8 s9 t9
    replace x0 := lat_cell x0
    replace x1 := lat_cell x1
    replace x2 := lat_cell x2
    replace x3 := lat_cell x3
    replace x4 := lat_cell x4
    replace x5 := lat_cell x5
    replace x6 := lat_cell x6
    replace x7 := lat_cell x7
    replace x8 := lat_cell x8
    replace x9 := lat_cell x9
    replace z0 := lat_cell z0
    replace z1 := lat_cell z1
    replace z2 := lat_cell z2
    replace z3 := lat_cell z3
    replace z4 := lat_cell z4
    replace z5 := lat_cell z5
    replace z6 := lat_cell z6
    replace z7 := lat_cell z7
    replace z8 := lat_cell z8
    replace z9 := lat_cell z9
    cases R
    all_goals
      have hV2 := hR3.symm
      clear hR3
      refine region_lat (by kernel_rfl) (by kernel_rfl) ?_
      iterate 2 go_big_quiet_step (fail)
      go_big_quiet_step ((refine (hI _).mono ?_; rintro e w'' ⟨rfl, hb''⟩; exact ⟨rfl, lat_to hb''⟩))
      iterate 6 go_big_quiet_step (fail)
      go_big_quiet_step ((refine (hL _).mono ?_; rintro e w'' ⟨rfl, hb''⟩; exact ⟨rfl, lat_to hb''⟩))
      iterate 2 go_big_quiet_step (fail)
      go_big_quiet_step ((refine (hN _).mono ?_; rintro e w'' ⟨rfl, hb''⟩; exact ⟨rfl, lat_to hb''⟩))
      iterate 3 go_big_quiet_step (fail)
      refine wpQuiet_nil ?_
      rintro _ ⟨nq, rfl⟩
      have hbq := hbw.trans ((lat_below W nq).mono hbw.size)
      go_wp2_with fail
      go_ret
      exact ⟨rfl, hbq⟩
end Go.Proofs.Ytfmgkinindkedaa

/- The walk of the law FnNeeds. -/
namespace Go.Proofs.Ytfmgkinindkedaa
open Go.RowKit

theorem needV_8 (c0 c1 : Int) (n : Nat) (k : Int) : 0 ≤ needV c0 (levV c0 c1) n k ∧ needV c0 (levV c0 c1) n k ≤ 8 := by
  have h := lev_cases c0 c1
  have hl := lev_le c0 c1
  unfold needV needK
  repeat' split
  all_goals omega
set_option maxRecDepth 100000 in
set_option maxHeartbeats 16000000 in
theorem needs_law (a : Option Addr) (len cap : Nat) (w : World) (hrow : RowB w.heap.size a len w) :
    Calls Try.prog 9 #[.slice a len cap] w (BoolE true w) := by
  have hlen := hrow.1
  by_cases hbig : 1048576 < len
  · go_enter Try.func9, Try.ntmps9
    go_wp2_with fail
    refine (big_yes a len cap _ hlen hbig).mono ?_
    rintro e w' ⟨rfl, rfl⟩
    go_wp2_with fail
    go_ret
    exact ⟨rfl, Below.refl _ _⟩
  · go_enter Try.func9, Try.ntmps9
    go_wp2_with fail
    refine (big_no a len cap _ hbig).mono ?_
    rintro e w' ⟨rfl, rfl⟩
    go_wp2_with fail
    refine (drawNeeds_any a len cap _ hrow).mono ?_
    rintro e w1 ⟨L, τ, ys, k, rfl, hy, hI, -, ⟨hk0, hk1⟩, hb1⟩
    obtain ⟨c, hout, -, -⟩ := tree_out hI hy
    clear hI hy hrow
    have hout0 := hout
    obtain ⟨c0, c1, c2, c3, c4, c5, c6, c7, a8, n8, p8, a9, n9, p9, rfl, ⟨e0, -⟩, ⟨e1, -⟩, -, -, -, -, -, -, ⟨r8, q8⟩, -⟩ := hout.ten
    obtain ⟨f8, e8, r8, q8⟩ := r8.openS q8 rfl
    replace e8 : c 8 = .sl n8 10 f8 := e8
    have hR := wrapB_is e0 e1 e8 k
    have hn8 := q8.2.1
    have st1 := stE_new (w := w1) (ys := [.int .i64 c0, .int .i64 c1, .bool c2, .int .i64 c3, .int .i64 c4, .string c5, .string c6, .string c7, .slice a8 n8 p8, .slice a9 n9 p9]) rfl rfl
    have HB := RowAt.new w1 56 #[.int .i64 c0, .int .i64 c1, .bool c2, .int .i64 c3, .int .i64 c4, .string c5, .string c6, .string c7, .slice a8 n8 p8, .slice a9 n9 p9]
    have hb2 := (Below.refl w1.heap.size w1).alloc (Nat.le_refl _) (.cells #[.int .i64 c0, .int .i64 c1, .bool c2, .int .i64 c3, .int .i64 c4, .string c5, .string c6, .string c7, .slice a8 n8 p8, .slice a9 n9 p9] 56)
    have hbw : Below w.heap.size w (w1.alloc (.cells #[.int .i64 c0, .int .i64 c1, .bool c2, .int .i64 c3, .int .i64 c4, .string c5, .string c6, .string c7, .slice a8 n8 p8, .slice a9 n9 p9] 56)) := hb1.trans (hb2.mono hb1.size)
    replace r8 := r8.later hb2
    have hW : ∀ v, Below (w1.alloc (.cells #[.int .i64 c0, .int .i64 c1, .bool c2, .int .i64 c3, .int .i64 c4, .string c5, .string c6, .string c7, .slice a8 n8 p8, .slice a9 n9 p9] 56)).heap.size (w1.alloc (.cells #[.int .i64 c0, .int .i64 c1, .bool c2, .int .i64 c3, .int .i64 c4, .string c5, .string c6, .string c7, .slice a8 n8 p8, .slice a9 n9 p9] 56)) v → Calls Try.prog 26 #[.agg #[.int .i64 c0, .int .i64 c1, .bool c2, .int .i64 c3, .int .i64 c4, .string c5, .string c6, .string c7, .slice a8 n8 p8, .slice a9 n9 p9], .int .i64 k] v (BoolE (wrapB c k) v) := fun v hv => wrapped_any w1 c _ v hout0 (hb2.trans (hv.mono hb2.size)) k
    have h8 := needV_8 c0 c1 n8 k
    have hz : isKid n8 k = false → needV c0 (levV c0 c1) n8 k = 0 := fun h => by unfold needV; rw [h]; rfl
    have hNI := fun v => needs_impl c0 c1 c2 c3 c4 c5 c6 c7 a8 n8 p8 a9 n9 p9 k v
    have hNS := fun v => needs_spec c0 c1 c2 c3 c4 c5 c6 c7 a8 n8 p8 a9 n9 p9 k v hn8
    generalize needV c0 (levV c0 c1) n8 k = N at hNI hNS h8 hz hR
    generalize wrapB c k = R at hR hW
    have hd0 : decide (N < 0) = false := by simp; omega
    have hd8 : decide (8 < N) = false := by simp; omega
    have HZ := Lib.hid hz
    have HR := Lib.hid hR
    have HW := Lib.hid hW
    clear hz hR hW e0 e1 e8 hout hout0
    go_wp2_with fail
    clear st1
    generalize w1.alloc (.cells #[.int .i64 c0, .int .i64 c1, .bool c2, .int .i64 c3, .int .i64 c4, .string c5, .string c6, .string c7, .slice a8 n8 p8, .slice a9 n9 p9] 56) = W at HB hbw r8 HW hb2 ⊢
    have hbx := HB.lt
    generalize w1.heap.size = b3 at HB hbx ⊢
    refine (hNI _).mono ?_
    rintro e W3 ⟨rfl, hb3⟩
    clear hNI
    replace HB := HB.later hb3
    have x0 := HB.cell (i := 0) (v := .int .i64 c0) rfl
    have x1 := HB.cell (i := 1) (v := .int .i64 c1) rfl
    have x2 := HB.cell (i := 2) (v := .bool c2) rfl
    have x3 := HB.cell (i := 3) (v := .int .i64 c3) rfl
    have x4 := HB.cell (i := 4) (v := .int .i64 c4) rfl
    have x5 := HB.cell (i := 5) (v := .string c5) rfl
    have x6 := HB.cell (i := 6) (v := .string c6) rfl
    have x7 := HB.cell (i := 7) (v := .string c7) rfl
    have x8 := HB.cell (i := 8) (v := .slice a8 n8 p8) rfl
    have x9 := HB.cell (i := 9) (v := .slice a9 n9 p9) rfl
    go_wp2_with fail
    clear x0 x1 x2 x3 x4 x5 x6 x7 x8 x9
    refine (hNS _).mono ?_
    rintro e W4 ⟨rfl, hb4⟩
    clear hNS
    replace HB := HB.later hb4
    replace hb4 := hb3.trans (hb4.mono hb3.size)
    replace hbw := hbw.trans (hb4.mono hbw.size)
    replace r8 := r8.later hb4
    clear hb3
    have x0 := HB.cell (i := 0) (v := .int .i64 c0) rfl
    have x1 := HB.cell (i := 1) (v := .int .i64 c1) rfl
    have x2 := HB.cell (i := 2) (v := .bool c2) rfl
    have x3 := HB.cell (i := 3) (v := .int .i64 c3) rfl
    have x4 := HB.cell (i := 4) (v := .int .i64 c4) rfl
    have x5 := HB.cell (i := 5) (v := .string c5) rfl
    have x6 := HB.cell (i := 6) (v := .string c6) rfl
    have x7 := HB.cell (i := 7) (v := .string c7) rfl
    have x8 := HB.cell (i := 8) (v := .slice a8 n8 p8) rfl
    have x9 := HB.cell (i := 9) (v := .slice a9 n9 p9) rfl
    cases hk : isKid n8 k
    · have hr : R = false := by rw [HR.out, hk]; rfl
      obtain rfl := HZ.out hk
      subst hr
      have hW4 := HW.out W4 hb4
      by_cases hneg : k < 0
      · have hn1 : decide (k < 0) = true := decide_eq_true hneg
        clear hk HR HW HZ
        go_wp2_with fail
        refine hW4.mono ?_
        rintro e W5 ⟨rfl, hb5⟩
        go_wp2_with fail
        go_ret
        exact ⟨rfl, hbw.trans (hb5.mono hbw.size)⟩
      · have hn1 : decide (k < 0) = false := decide_eq_false hneg
        have hn2 : decide ((n8 : Int) ≤ k) = true := by
          have h := of_decide_eq_false hk
          simp
          omega
        clear hk HR HW HZ
        go_wp2_with fail
        refine hW4.mono ?_
        rintro e W5 ⟨rfl, hb5⟩
        go_wp2_with fail
        go_ret
        exact ⟨rfl, hbw.trans (hb5.mono hbw.size)⟩
    · obtain ⟨j, rfl, hj⟩ := isKid_true hk
      have HR2 : Hid (R = decide (levV (f8 j 0).num (f8 j 1).num < N)) := by show R = _; rw [HR.out, hk]; rfl
      clear hk HR HZ
      obtain ⟨g, o, rfl, -, hg, y0, y1, y2, y3, y4, y5, y6, y7, y8, y9, ⟨z0, z1, z2, z3, z4, z5, z6, z7, z8, z9⟩, ⟨⟨e0, -⟩, ⟨e1, -⟩, -, -, -, -, -, -, ⟨s8, t8⟩, ⟨s9, t9⟩⟩⟩ := row_exprs r8 q8 hj
      obtain ⟨ka, kn, kp, rfl⟩ := s8.slice_of t8 rfl
      obtain ⟨la, ln, lp, rfl⟩ := s9.slice_of t9 rfl
      have hj2 : (j : Int) < (n8 : Int) := by omega
      have hn1 : decide ((j : Int) < 0) = false := by simp
      have hn2 : decide ((n8 : Int) ≤ (j : Int)) = false := by simp; omega
      have hL := fun v => levelOf_impl y0 y1 y2 y3 y4 y5 y6 y7 ka kn kp la ln lp v
      have hR3 : R = decide (levV y0 y1 < N) := by rw [HR2.out, num_is e0, num_is e1]
      clear HR2
      generalize levV y0 y1 = K at hL hR3
      clear e0 e1 s8 t8 s9 t9 r8 q8
      have hlW : ∀ v, Calls Try.prog 26 #[.agg #[.int .i64 c0, .int .i64 c1, .bool c2, .int .i64 c3, .int .i64 c4, .string c5, .string c6, .string c7, .slice (some ⟨g, o, none⟩) n8 p8, .slice a9 n9 p9], .int .i64 (j : Int)] (lat W4 v) (BoolE R (lat W4 v)) := fun v => HW.out _ (hb4.trans ((lat_below W4 v).mono hb4.size))
      clear HW
      go_wp2_with fail
      replace x0 := lat_cell x0
      replace x1 := lat_cell x1
      replace x2 := lat_cell x2
      replace x3 := lat_cell x3
      replace x4 := lat_cell x4
      replace x5 := lat_cell x5
      replace x6 := lat_cell x6
      replace x7 := lat_cell x7
      replace x8 := lat_cell x8
      replace x9 := lat_cell x9
      replace z0 := lat_cell z0
      replace z1 := lat_cell z1
      replace z2 := lat_cell z2
      replace z3 := lat_cell z3
      replace z4 := lat_cell z4
      replace z5 := lat_cell z5
      replace z6 := lat_cell z6
      replace z7 := lat_cell z7
      replace z8 := lat_cell z8
      replace z9 := lat_cell z9
      by_cases h9 : K = 9
      · subst h9
        obtain rfl : R = false := by rw [hR3]; simp; omega
        have hV2 := hR3.symm
        clear hR3
        refine region_lat (by kernel_rfl) (by kernel_rfl) ?_
        iterate 28 go_big_quiet_step (first | ((refine (hlW _).mono ?_; rintro e w'' ⟨rfl, hb''⟩; exact ⟨rfl, lat_to hb''⟩)) | ((refine (hL _).mono ?_; rintro e w'' ⟨rfl, hb''⟩; exact ⟨rfl, lat_to hb''⟩)))
        refine wpQuiet_nil ?_
        rintro _ ⟨nq, rfl⟩
        have hbq := hbw.trans ((lat_below W4 nq).mono hbw.size)
        go_wp2_with fail
        go_ret
        exact ⟨rfl, hbq⟩
      · have h9b : (K != 9) = true := by simpa using h9
        have h9c : (K == 9) = false := by simpa using h9
        clear h9
        cases R
        all_goals
          have hV2 := hR3.symm
          clear hR3
          refine region_lat (by kernel_rfl) (by kernel_rfl) ?_
          iterate 28 go_big_quiet_step (first | ((refine (hlW _).mono ?_; rintro e w'' ⟨rfl, hb''⟩; exact ⟨rfl, lat_to hb''⟩)) | ((refine (hL _).mono ?_; rintro e w'' ⟨rfl, hb''⟩; exact ⟨rfl, lat_to hb''⟩)))
          refine wpQuiet_nil ?_
          rintro _ ⟨nq, rfl⟩
          have hbq := hbw.trans ((lat_below W4 nq).mono hbw.size)
          go_wp2_with fail
          go_ret
          exact ⟨rfl, hbq⟩
end Go.Proofs.Ytfmgkinindkedaa
