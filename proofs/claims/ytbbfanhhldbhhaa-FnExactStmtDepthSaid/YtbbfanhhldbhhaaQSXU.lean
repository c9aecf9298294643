/- Joined texts: FrameI Deep TreeI NodeI. -/
import Derived.Test.YtbbfanhhldbhhaaQSXT
import Derived.Test.YtbbfanhhldbhhaaQHSameQX
import Derived.Test.YtbbfanhhldbhhaaQSXK
import Derived.Test.YtbbfanhhldbhhaaQSXB
import Derived.Test.YtbbfanhhldbhhaaQHExLaw
import Derived.Shelf.Abstract
/- The program's test on a query's frame. -/
namespace Go.Proofs.Ytbbfanhhldbhhaa
open Go.RowKit

theorem item_bd {d : Dat} (hf : Fits d .items) (hm : msr d ≤ 1048576) {x : Nd} (hx : x ∈ d.els) : msr (x 10) ≤ 1048576 ∧ msr (x 11) ≤ 1048576 ∧ msr (x 10) + msr (x 11) ≤ 1999999 := by
  obtain ⟨n, k, f, rfl⟩ := hf.deep rfl
  have hk : k = 13 := hf.2.2.1
  subst hk
  obtain ⟨i, hi, rfl⟩ := List.mem_map.1 hx
  rw [List.mem_range] at hi
  have h1 := msr_el (n := n) (k := 13) (f := f) (i := i) (j := 10) hi (by decide)
  have h2 := msr_el (n := n) (k := 13) (f := f) (i := i) (j := 11) hi (by decide)
  have h3 : wt (cut 2 (f i)) ≤ wsum ((Dat.sl n 13 f).els.map (cut 2)) := by
    have : ∀ (l : List Nd) (x : Nd), x ∈ l → wt x ≤ wsum l := fun l x h => by
      induction l with
      | nil => cases h
      | cons a l ih =>
        rw [wsum_cons]
        rcases List.mem_cons.1 h with rfl | h
        · omega
        · have := ih h; omega
    exact this _ _ (List.mem_map.2 ⟨f i, List.mem_map.2 ⟨i, List.mem_range.2 hi, rfl⟩, rfl⟩)
  have h4 := wsum_items hf
  have h5 : wt (cut 2 (f i)) = msr (f i 10) + msr (f i 11) + 1 := rfl
  refine ⟨Nat.le_trans h1 hm, Nat.le_trans h2 hm, ?_⟩
  show msr (f i 10) + msr (f i 11) ≤ _
  omega
set_option maxRecDepth 100000 in
set_option maxHeartbeats 8000000 in
theorem frameOk_any (w0 : World) (c : Nd) (ys : List Value) (W : World) (hys : OutK (rowTy .queries) w0 ys [c]) (_hb0 : Below w0.heap.size w0 W) (hq : BdQ c) :
    Calls Try.prog 86 #[.agg ys.toArray] W (BoolE (frameB c) W) := by
  obtain ⟨x0, ax1, nx1, px1, ax2, nx2, px2, ax3, nx3, px3, ax4, nx4, px4, x5, rfl, e0, ⟨r1, q1⟩, ⟨r2, q2⟩, ⟨r3, q3⟩, ⟨r4, q4⟩, ⟨e5, -⟩⟩ := hys.queryRow
  have hm := hq.m
  have hv : frameB c = ((decide (1 ≤ nx1) && decide (nx1 ≤ 12)) && ((c 1).els.all itemB && ((decide (1 ≤ nx2) && decide (nx2 ≤ 3)) && ((c 2).els.all sourceB && (firstB (c 2) && (decide (nx3 ≤ 1) && (decide (nx4 ≤ 12) && decide (-1 ≤ x5)))))))) := by
    unfold frameB; rw [r1.slen q1 rfl, r2.slen q2 rfl, r3.slen q3 rfl, r4.slen q4 rfl, num_v e5]
  rw [hv]
  have R := RowAt.new W 49 #[.bool x0, .slice ax1 nx1 px1, .slice ax2 nx2 px2, .slice ax3 nx3 px3, .slice ax4 nx4 px4, .int .i64 x5]
  have hB : Below W.heap.size W (W.alloc (.cells #[.bool x0, .slice ax1 nx1 px1, .slice ax2 nx2 px2, .slice ax3 nx3 px3, .slice ax4 nx4 px4, .int .i64 x5] 49)) := (Below.refl _ _).alloc (Nat.le_refl _) _
  have HB := Lib.hid hB
  have hz := _hb0.trans (hB.mono _hb0.size)
  have hI : ∀ W', Below w0.heap.size w0 W' → Calls Try.prog 149 #[.slice ax1 nx1 px1, .func (.func 150) #[] #[]] W' (BoolE ((c 1).els.all itemB) W') := fun W' hb => by
    obtain ⟨n1, h1⟩ := r1.lkE q1 rfl hb
    have h := every_items w0 W' ax1 px1 _ hb h1 hq.lens.1 fun c' hc' ys W' h hb' => itemOk_any w0 c' ys W' h hb' (item_bd q1 (by omega) hc').1 (item_bd q1 (by omega) hc').2.1 (item_bd q1 (by omega) hc').2.2
    rw [n1] at h
    exact h
  have hS : ∀ W', Below w0.heap.size w0 W' → Calls Try.prog 151 #[.slice ax2 nx2 px2, .func (.func 152) #[] #[]] W' (BoolE ((c 2).els.all sourceB) W') := fun W' hb => by
    obtain ⟨n1, h1⟩ := r2.lkE q2 rfl hb
    have h := every_sources w0 W' ax2 px2 _ hb h1 hq.lens.2.1 fun c' _ ys W' h hb' => sourceOk_any w0 c' ys W' h hb'
    rw [n1] at h
    exact h
  have hF : 1 ≤ nx2 → ∃ (g o : Nat) (a : Option Addr) (n p : Nat), ax2 = some ⟨g, o, none⟩ ∧ (∀ W', Below w0.heap.size w0 W' → W'.cell? ⟨g, o + 2, none⟩ = some (.slice a n p)) ∧ firstB (c 2) = (n == 0) := fun h1n => by
    obtain ⟨n1, h1⟩ := r2.lkE q2 rfl (Below.refl _ _)
    have hlt : 0 < (c 2).els.length := by omega
    obtain ⟨g, o, cap', ys, hv, hys', -, hg, hcell⟩ := h1.at (List.getElem?_eq_getElem hlt)
    injection hv with e1 _ e3
    obtain ⟨y0, y1, a, n, p, rfl, -, -, ⟨r, q⟩⟩ := hys'.sourceRow
    refine ⟨g, o, a, n, p, e1, fun W' hb => ?_, ?_⟩
    · have := hcell 2 _ rfl
      rw [Nat.zero_mul, Nat.add_zero] at this
      exact (hb.cell (p := ⟨g, o + 2, none⟩) hg).trans this
    · unfold firstB
      have e : (c 2).els[0] = (c 2).el 0 := by simp [Dat.els]
      rw [e] at r q
      rw [r.slen q rfl]
  have tn1a : decide ((1 : Int) ≤ (nx1 : Int)) = decide (1 ≤ nx1) := by rw [decide_eq_decide]; omega
  have tn1b : decide ((nx1 : Int) ≤ (12 : Int)) = decide (nx1 ≤ 12) := by rw [decide_eq_decide]; omega
  have tn2a : decide ((1 : Int) ≤ (nx2 : Int)) = decide (1 ≤ nx2) := by rw [decide_eq_decide]; omega
  have tn2b : decide ((nx2 : Int) ≤ (3 : Int)) = decide (nx2 ≤ 3) := by rw [decide_eq_decide]; omega
  have tn3 : decide ((nx3 : Int) ≤ (1 : Int)) = decide (nx3 ≤ 1) := by rw [decide_eq_decide]; omega
  have tn4 : decide ((nx4 : Int) ≤ (12 : Int)) = decide (nx4 ≤ 12) := by rw [decide_eq_decide]; omega
  have HQ := Lib.hid hF
  have HR := Lib.hid R
  have z0 := R.cell (i := 0) (v := .bool x0) rfl
  have z1 := R.cell (i := 1) (v := .slice ax1 nx1 px1) rfl
  have z2 := R.cell (i := 2) (v := .slice ax2 nx2 px2) rfl
  have z3 := R.cell (i := 3) (v := .slice ax3 nx3 px3) rfl
  have z4 := R.cell (i := 4) (v := .slice ax4 nx4 px4) rfl
  have z5 := R.cell (i := 5) (v := .int .i64 x5) rfl
  clear hv hys hB e0 e5 r1 r2 r3 r4 q1 q2 q3 q4 hq hm R hF
  generalize (c 1).els.all itemB = u3 at hI ⊢
  generalize (c 2).els.all sourceB = u6 at hS ⊢
  generalize hu7 : firstB (c 2) = u7
  generalize hu1 : decide (1 ≤ nx1) = u1 at tn1a ⊢
  generalize hu2 : decide (nx1 ≤ 12) = u2 at tn1b ⊢
  generalize hu4 : decide (1 ≤ nx2) = u4 at tn2a ⊢
  generalize hu5 : decide (nx2 ≤ 3) = u5 at tn2b ⊢
  generalize hu8 : decide (nx3 ≤ 1) = u8 at tn3 ⊢
  generalize hu9 : decide (nx4 ≤ 12) = u9 at tn4 ⊢
  generalize hu10 : decide (-1 ≤ x5) = u10
  have HU4 := Lib.hid hu4
  have HU7 := Lib.hid hu7
  clear hu1 hu2 hu4 hu5 hu7 hu8 hu9
  go_enter Try.func86, Try.ntmps86
  cases u1
  · go_wp2_with fail
    go_ret
    exact ⟨rfl, HB.out⟩
  · cases u2
    · go_wp2_with fail
      go_ret
      exact ⟨rfl, HB.out⟩
    · cases u3
      · go_wp2_with fail
        refine (hI _ hz).mono ?_
        rintro e w2 ⟨rfl, hb2⟩
        have hB2 := HB.out.trans (hb2.mono HB.out.size)
        clear hI hb2 z0 z1 z2 z3 z4 z5
        go_wp2_with fail
        go_ret
        exact ⟨rfl, hB2⟩
      · go_wp2_with fail
        refine (hI _ hz).mono ?_
        rintro e w2 ⟨rfl, hb2⟩
        have hB2 := HB.out.trans (hb2.mono HB.out.size)
        have hz2 := hz.trans (hb2.mono hz.size)
        have R2 := HR.out.later hb2
        clear z0 z1 z2 z3 z4 z5
        have z0 := R2.cell (i := 0) (v := .bool x0) rfl
        have z1 := R2.cell (i := 1) (v := .slice ax1 nx1 px1) rfl
        have z2 := R2.cell (i := 2) (v := .slice ax2 nx2 px2) rfl
        have z3 := R2.cell (i := 3) (v := .slice ax3 nx3 px3) rfl
        have z4 := R2.cell (i := 4) (v := .slice ax4 nx4 px4) rfl
        have z5 := R2.cell (i := 5) (v := .int .i64 x5) rfl
        clear hI hb2
        cases u4
        · go_wp2_with fail
          go_ret
          exact ⟨rfl, hB2⟩
        · cases u5
          · go_wp2_with fail
            go_ret
            exact ⟨rfl, hB2⟩
          · obtain ⟨gf, of, af, nf, pf, rfl, hcf, hff⟩ := HQ.out (of_decide_eq_true HU4.out)
            have hp2 := of_decide_eq_true HU4.out
            have hp3 : (0 : Int) < (nx2 : Int) := by omega
            clear HQ HU4
            cases u6
            · go_wp2_with fail
              refine (hS _ hz2).mono ?_
              rintro e w3 ⟨rfl, hb3⟩
              have hB3 := hB2.trans (hb3.mono hB2.size)
              clear hS hcf hff HU7 hb3 R2 z0 z1 z2 z3 z4 z5
              go_wp2_with fail
              go_ret
              exact ⟨rfl, hB3⟩
            · go_wp2_with fail
              refine (hS _ hz2).mono ?_
              rintro e w3 ⟨rfl, hb3⟩
              have hB3 := hB2.trans (hb3.mono hB2.size)
              have hz3 := hz2.trans (hb3.mono hz2.size)
              have R3 := R2.later hb3
              clear z0 z1 z2 z3 z4 z5
              have z0 := R3.cell (i := 0) (v := .bool x0) rfl
              have z1 := R3.cell (i := 1) (v := .slice ax1 nx1 px1) rfl
              have z2 := R3.cell (i := 2) (v := .slice (some ⟨gf, of, none⟩) nx2 px2) rfl
              have z3 := R3.cell (i := 3) (v := .slice ax3 nx3 px3) rfl
              have z4 := R3.cell (i := 4) (v := .slice ax4 nx4 px4) rfl
              have z5 := R3.cell (i := 5) (v := .int .i64 x5) rfl
              have zf := hcf _ hz3
              have h7 : ((nf : Int) == (0 : Int)) = u7 := by rw [← HU7.out, hff, Bool.eq_iff_iff, beq_iff_eq, beq_iff_eq]; omega
              clear hS hcf hff HU7 hb3 hz3 R3 R2
              cases u7
              · go_wp2_with fail
                go_ret
                exact ⟨rfl, hB3⟩
              · cases u8
                · go_wp2_with fail
                  go_ret
                  exact ⟨rfl, hB3⟩
                · cases u9
                  · go_wp2_with fail
                    go_ret
                    exact ⟨rfl, hB3⟩
                  · cases u10
                    · go_wp2_with fail
                      go_ret
                      exact ⟨rfl, hB3⟩
                    · go_wp2_with fail
                      go_ret
                      exact ⟨rfl, hB3⟩
end Go.Proofs.Ytbbfanhhldbhhaa

/- The program's depth and size of expressions and queries. -/
namespace Go.Proofs.Ytbbfanhhldbhhaa
open Go.RowKit
attribute [local go_sem] Oper.semAt_some

set_option maxRecDepth 100000 in
theorem partsOf_any (w0 : World) (c : Nd) (hc : Bd c) : PartsE 138 parts w0 c := by
  intro ys W hys hb0
  have hB := below_exprs w0
  obtain ⟨c0, c1, c2, c3, c4, c5, c6, c7, a8, n8, p8, a9, n9, p9, rfl, -⟩ := hys.ten
  have H := RowAt.new W 34 #[.int .i64 c0, .int .i64 c1, .bool c2, .int .i64 c3, .int .i64 c4, .string c5, .string c6, .string c7, .slice a8 n8 p8, .slice a9 n9 p9]
  have hal : Below W.heap.size W (W.alloc (.cells #[.int .i64 c0, .int .i64 c1, .bool c2, .int .i64 c3, .int .i64 c4, .string c5, .string c6, .string c7, .slice a8 n8 p8, .slice a9 n9 p9] 34)) := (Below.refl _ _).alloc (Nat.le_refl _) _
  have x0 := H.cell (i := 0) (v := .int .i64 c0) rfl
  have x1 := H.cell (i := 1) (v := .int .i64 c1) rfl
  have x2 := H.cell (i := 2) (v := .bool c2) rfl
  have x3 := H.cell (i := 3) (v := .int .i64 c3) rfl
  have x4 := H.cell (i := 4) (v := .int .i64 c4) rfl
  have x5 := H.cell (i := 5) (v := .string c5) rfl
  have x6 := H.cell (i := 6) (v := .string c6) rfl
  have x7 := H.cell (i := 7) (v := .string c7) rfl
  have x8 := H.cell (i := 8) (v := .slice a8 n8 p8) rfl
  have x9 := H.cell (i := 9) (v := .slice a9 n9 p9) rfl
  go_enter Try.func138, Try.ntmps138
  go_wp2_with fail
  generalize W.alloc (.cells #[.int .i64 c0, .int .i64 c1, .bool c2, .int .i64 c3, .int .i64 c4, .string c5, .string c6, .string c7, .slice a8 n8 p8, .slice a9 n9 p9] 34) = w1 at H hal ⊢
  have hb1 := hb0.trans (hal.mono hb0.size)
  refine (hB w1 c _ hys hb1 hc).mono ?_
  rintro e w2 ⟨v, rfl, hp, hb⟩
  have hb2 := hal.trans (hb.mono hal.size)
  go_wp2_with fail
  go_ret
  refine ⟨v, rfl, (hp.lk (hb1.trans (hb.mono hb1.size))).keep (Nat.le_refl _) (fun _ _ _ => rfl) (fun g hg _ => hg.imp id fun h => by have := hal.size; omega), hb2⟩
theorem pre_hd (d : Nat) (c : Nd) : ∃ l, pre d c = (d, c) :: l := by
  unfold pre foldE
  exact ⟨_, by show (0 + d, c) :: _ = _; rw [Nat.zero_add]⟩
theorem visitsE_any (v pf : Value) (hv : ∃ a n p, v = .slice a n p) (hp : ∃ g, pf = .func (.func g) #[] #[]) (W : World) :
    Calls Try.prog 137 #[v, pf] W fun e w' => e = .returned (.func (.func VE) #[] #[.pointer (some ⟨W.heap.size, 0, none⟩), .pointer (some ⟨W.heap.size + 1, 0, none⟩)]) ∧
      w' = (W.alloc (.cells #[v] 31)).alloc (.cells #[pf] 157) := by
  obtain ⟨a, n, p, rfl⟩ := hv
  obtain ⟨g, rfl⟩ := hp
  go_enter Try.func137, Try.ntmps137
  go_wp2_with fail
  go_ret
  exact ⟨rfl, rfl⟩
set_option maxRecDepth 100000 in
set_option maxHeartbeats 4000000 in
theorem deepest_any (w0 W : World) (L : List Nd) (v : Value) (hb0 : Below w0.heap.size w0 W) (hv : LK exprTy w0 W (fun _ => True) v L) (hL : ∀ c ∈ L, Bd c) (hlen : (L.flatMap (pre 1)).length ≤ 2000000) :
    Calls Try.prog 97 #[v] W fun e w' => e = .returned (.int .i64 ((mx (L.flatMap (pre 1)) : Nat) : Int)) ∧ Below W.heap.size W w' := by
  obtain ⟨a0, cap, rfl⟩ := hv.slice
  have hz := hb0.size
  generalize hxs : L.flatMap (pre 1) = xs at hlen ⊢
  have HB : ∀ d c, (d, c) ∈ xs → Bd c := fun d c h => by
    rw [← hxs, List.mem_flatMap] at h
    obtain ⟨c', hc', h⟩ := h
    exact (hL c' hc').pre 1 _ h
  refine (callsIn_wide (n := 5)).1 ?_
  refine callsIn_of_wp_marks Try.func97 rfl trivial ?_ rfl
  simp only [Try.ntmps97, List.size_toArray, List.length_cons, List.length_nil, Nat.reduceAdd, Nat.reduceSub, Array.replicate_succ, Array.replicate_zero, List.push_toArray, List.append_toArray, List.nil_append, List.cons_append]
  have H0 := RowAt.new W 3 #[.int .i64 0]
  have B0 : Below W.heap.size W (W.alloc (.cells #[.int .i64 0] 3)) := (Below.refl _ _).alloc (Nat.le_refl _) _
  have s0 : (W.alloc (.cells #[.int .i64 0] 3)).heap.size = W.heap.size + 1 := by simp
  gi_wp2
  generalize W.alloc (.cells #[.int .i64 0] 3) = w1 at *
  refine ⟨trivial, (callsIn_wide.2 (visitsE_any _ _ ⟨_, _, _, rfl⟩ ⟨_, rfl⟩ w1)).mono ?_⟩
  rintro e w3 ⟨rfl, hw3⟩
  have k1 : w3.cell? ⟨w1.heap.size, 0, none⟩ = some (.slice a0 L.length cap) := by rw [hw3]; exact ((RowAt.new w1 31 #[.slice a0 L.length cap]).alloc _).cell (i := 0) rfl
  have k2 : w3.cell? ⟨w1.heap.size + 1, 0, none⟩ = some (.func (.func 138) #[] #[]) := by
    have h := (RowAt.new (w1.alloc (.cells #[.slice a0 L.length cap] 31)) 157 #[.func (.func 138) #[] #[]]).cell (i := 0) rfl
    rw [World.size_alloc] at h
    rw [hw3]; exact h
  have b3 : Below w1.heap.size w1 w3 := by rw [hw3]; exact ((Below.refl _ _).alloc (Nat.le_refl _) _).alloc (by simp) _
  have s3 : w3.heap.size = W.heap.size + 3 := by rw [hw3]; simp [s0]
  clear hw3
  have H3 := H0.later b3
  have B3 : Below W.heap.size W w3 := B0.trans (b3.mono (by omega))
  rw [s0] at k1 k2
  gi_wp2
  refine wpIn_rangeV (α := Nat × Nd) rfl (by decide) (gf := VE) (lb := #[.pointer (some ⟨W.heap.size + 1, 0, none⟩), .pointer (some ⟨W.heap.size + 1 + 1, 0, none⟩)]) rfl trivial (enters_of Try.func211 (by kernel_rfl) rfl)
    (visE_any pre parts (fun _ => True) w0 w3 L _ _ _ (fun k => k = W.heap.size) xs _ hxs.symm hlen (hb0.trans (B3.mono hz)) (fun k hk => ⟨by omega, by omega⟩) k1 k2 (by omega)
      (hv.keep B3.size (fun g _ hlt => B3.block g hlt) fun g _ hlt => by omega) (fun d c h _ => partsOf_any w0 c (HB d c h)) pre_hd (fun d c h _ => pre_eq d (HB d c h).f8 (HB d c h).f9))
    (fun k hk => by omega) (fun x v h => by obtain ⟨ys, _, rfl⟩ := h; rfl)
    (fun i Wr => RowAt Wr W.heap.size 3 #[.int .i64 ((mx (xs.take i) : Nat) : Int)] ∧ Below W.heap.size W Wr) (fun _ _ _ => False)
    (fun i A B h hb => ⟨(hb.block _ (by omega)).trans h.1, h.2.trans (hb.mono (by omega))⟩) (fun _ _ _ _ h _ => h) ⟨H3, B3⟩
    (fun x a _ => ∃ ys : List Value, a = { tmps := #[.slice a0 L.length cap, undef, .int .i64 0, .pointer (some ⟨W.heap.size, 0, none⟩), .int .i64 (x.1 : Int), .slice a0 L.length cap, .func (.func VE) #[] #[.pointer (some ⟨W.heap.size + 1, 0, none⟩), .pointer (some ⟨W.heap.size + 1 + 1, 0, none⟩)], .int .i64 (x.1 : Int), .agg ys.toArray, undef, undef, undef, undef], defers := [] }) (fun x a A B h _ => h) ?assign ?body ?done ?stop
  case assign =>
    rintro l x v W1 K ⟨ys, hys, rfl⟩ _ hK
    gi_wp2
    exact hK _ _ ⟨ys, rfl⟩ (Below.refl _ _)
  case body =>
    rintro l i ⟨d, c⟩ a1 W1 hx ⟨hI, hB⟩ hsz ⟨ys, rfl⟩
    have x0 := hI.cell (i := 0) (v := .int .i64 ((mx (xs.take i) : Nat) : Int)) rfl
    have x1 := hI.soft 0
    have hm : mx (xs.take (i + 1)) = max (mx (xs.take i)) d := by
      rw [take_next hx, mx_append]
      congr 1
      show max d 0 = d
      omega
    generalize mx (xs.take i) = m at *
    have hI2 : ∀ u, RowAt (W1.setCell ⟨W.heap.size, 0, none⟩ u) W.heap.size 3 #[u] := fun u => hI.set 0 u
    gi_wp2
    all_goals refine ⟨But.setCell _ ⟨W.heap.size, 0, none⟩ _ rfl, trivial, ?_, hB.setCell (p := ⟨W.heap.size, 0, none⟩) (Nat.le_refl _) _⟩
    all_goals rw [hm]
    all_goals first | (rw [show max m d = m by omega]; exact hI2 _) | (rw [show max m d = d by omega]; exact hI2 _)
  case done =>
    rintro D W1 hD ⟨hI, hB⟩ hK
    rw [List.take_length] at hI
    have x0 := hI.cell (i := 0) (v := .int .i64 ((mx xs : Nat) : Int)) rfl
    gi_wp2
    refine ⟨by simp, .inl ⟨_, _, rfl, run_takeDeferred hK, ?_⟩⟩
    exact ⟨_, results_tmp rfl _ _ _, rfl, hB.trans (below_put _ _ _ (by omega))⟩
  case stop => exact fun _ _ _ _ _ _ h _ => h.elim
set_option maxRecDepth 100000 in
set_option maxHeartbeats 4000000 in
theorem total_any (w0 W : World) (L : List Nd) (v : Value) (hb0 : Below w0.heap.size w0 W) (hv : LK exprTy w0 W (fun _ => True) v L) (hL : ∀ c ∈ L, Bd c) (hlen : (L.flatMap (pre 1)).length ≤ 2000000) :
    Calls Try.prog 98 #[v] W fun e w' => e = .returned (.int .i64 (((L.flatMap (pre 1)).length : Nat) : Int)) ∧ Below W.heap.size W w' := by
  obtain ⟨a0, cap, rfl⟩ := hv.slice
  have hz := hb0.size
  generalize hxs : L.flatMap (pre 1) = xs at hlen ⊢
  have HB : ∀ d c, (d, c) ∈ xs → Bd c := fun d c h => by
    rw [← hxs, List.mem_flatMap] at h
    obtain ⟨c', hc', h⟩ := h
    exact (hL c' hc').pre 1 _ h
  refine (callsIn_wide (n := 5)).1 ?_
  refine callsIn_of_wp_marks Try.func98 rfl trivial ?_ rfl
  simp only [Try.ntmps98, List.size_toArray, List.length_cons, List.length_nil, Nat.reduceAdd, Nat.reduceSub, Array.replicate_succ, Array.replicate_zero, List.push_toArray, List.append_toArray, List.nil_append, List.cons_append]
  have H0 := RowAt.new W 3 #[.int .i64 0]
  have B0 : Below W.heap.size W (W.alloc (.cells #[.int .i64 0] 3)) := (Below.refl _ _).alloc (Nat.le_refl _) _
  have s0 : (W.alloc (.cells #[.int .i64 0] 3)).heap.size = W.heap.size + 1 := by simp
  gi_wp2
  generalize W.alloc (.cells #[.int .i64 0] 3) = w1 at *
  refine ⟨trivial, (callsIn_wide.2 (visitsE_any _ _ ⟨_, _, _, rfl⟩ ⟨_, rfl⟩ w1)).mono ?_⟩
  rintro e w3 ⟨rfl, hw3⟩
  have k1 : w3.cell? ⟨w1.heap.size, 0, none⟩ = some (.slice a0 L.length cap) := by rw [hw3]; exact ((RowAt.new w1 31 #[.slice a0 L.length cap]).alloc _).cell (i := 0) rfl
  have k2 : w3.cell? ⟨w1.heap.size + 1, 0, none⟩ = some (.func (.func 138) #[] #[]) := by
    have h := (RowAt.new (w1.alloc (.cells #[.slice a0 L.length cap] 31)) 157 #[.func (.func 138) #[] #[]]).cell (i := 0) rfl
    rw [World.size_alloc] at h
    rw [hw3]; exact h
  have b3 : Below w1.heap.size w1 w3 := by rw [hw3]; exact ((Below.refl _ _).alloc (Nat.le_refl _) _).alloc (by simp) _
  have s3 : w3.heap.size = W.heap.size + 3 := by rw [hw3]; simp [s0]
  clear hw3
  have H3 := H0.later b3
  have B3 : Below W.heap.size W w3 := B0.trans (b3.mono (by omega))
  rw [s0] at k1 k2
  gi_wp2
  refine wpIn_rangeV (α := Nat × Nd) rfl (by decide) (gf := VE) (lb := #[.pointer (some ⟨W.heap.size + 1, 0, none⟩), .pointer (some ⟨W.heap.size + 1 + 1, 0, none⟩)]) rfl trivial (enters_of Try.func211 (by kernel_rfl) rfl)
    (visE_any pre parts (fun _ => True) w0 w3 L _ _ _ (fun k => k = W.heap.size) xs _ hxs.symm hlen (hb0.trans (B3.mono hz)) (fun k hk => ⟨by omega, by omega⟩) k1 k2 (by omega)
      (hv.keep B3.size (fun g _ hlt => B3.block g hlt) fun g _ hlt => by omega) (fun d c h _ => partsOf_any w0 c (HB d c h)) pre_hd (fun d c h _ => pre_eq d (HB d c h).f8 (HB d c h).f9))
    (fun k hk => by omega) (fun x v h => by obtain ⟨ys, _, rfl⟩ := h; rfl)
    (fun i Wr => RowAt Wr W.heap.size 3 #[.int .i64 ((i : Nat) : Int)] ∧ Below W.heap.size W Wr) (fun _ _ _ => False)
    (fun i A B h hb => ⟨(hb.block _ (by omega)).trans h.1, h.2.trans (hb.mono (by omega))⟩) (fun _ _ _ _ h _ => h) ⟨H3, B3⟩
    (fun x a _ => ∃ ys : List Value, a = { tmps := #[.slice a0 L.length cap, undef, .int .i64 0, .pointer (some ⟨W.heap.size, 0, none⟩), .slice a0 L.length cap, .func (.func VE) #[] #[.pointer (some ⟨W.heap.size + 1, 0, none⟩), .pointer (some ⟨W.heap.size + 1 + 1, 0, none⟩)], .int .i64 (x.1 : Int), .agg ys.toArray, undef, undef, undef], defers := [] }) (fun x a A B h _ => h) ?assign ?body ?done ?stop
  case assign =>
    rintro l x v W1 K ⟨ys, hys, rfl⟩ _ hK
    gi_wp2
    exact hK _ _ ⟨ys, by simp⟩ (Below.refl _ _)
  case body =>
    rintro l i ⟨d, c⟩ a1 W1 hx ⟨hI, hB⟩ hsz ⟨ys, rfl⟩
    have x0 := hI.cell (i := 0) (v := .int .i64 ((i : Nat) : Int)) rfl
    have x1 := hI.soft 0
    have hil : i < xs.length := (List.getElem?_eq_some_iff.1 hx).1
    have hI2 : ∀ u, RowAt (W1.setCell ⟨W.heap.size, 0, none⟩ u) W.heap.size 3 #[u] := fun u => hI.set 0 u
    gi_wp2
    exact ⟨But.setCell _ ⟨W.heap.size, 0, none⟩ _ rfl, trivial, hI2 _, hB.setCell (p := ⟨W.heap.size, 0, none⟩) (Nat.le_refl _) _⟩
  case done =>
    rintro D W1 hD ⟨hI, hB⟩ hK
    have x0 := hI.cell (i := 0) (v := .int .i64 ((xs.length : Nat) : Int)) rfl
    gi_wp2
    refine ⟨by simp, .inl ⟨_, _, rfl, run_takeDeferred hK, ?_⟩⟩
    exact ⟨_, results_tmp rfl _ _ _, rfl, hB.trans (below_put _ _ _ (by omega))⟩
  case stop => exact fun _ _ _ _ _ _ h _ => h.elim
end Go.Proofs.Ytbbfanhhldbhhaa

/- The program's DepthOf, SizeOf, QueryDepth and QuerySize, as the laws take them. -/
namespace Go.Proofs.Ytbbfanhhldbhhaa
open Go.RowKit

/-- an expression as the contracts take it -/
def ndOf (c0 c1 : Int) (c2 : Bool) (c3 c4 : Int) (c5 c6 c7 : ByteArray) (c : Nd) : Nd := fun j => match j with
  | 0 => .v (.int .i64 c0) | 1 => .v (.int .i64 c1) | 2 => .v (.bool c2) | 3 => .v (.int .i64 c3) | 4 => .v (.int .i64 c4) | 5 => .v (.string c5) | 6 => .v (.string c6) | 7 => .v (.string c7) | j => c j
theorem ndOf_out {c0 c1 : Int} {c2 : Bool} {c3 c4 : Int} {c5 c6 c7 : ByteArray} {c : Nd} {x8 x9 : Value} {w : World} (b0 : I64 c0) (b1 : I64 c1) (b3 : I64 c3) (b4 : I64 c4) (b5 : c5.size ≤ 9223372036854775807) (b6 : c6.size ≤ 9223372036854775807) (b7 : c7.size ≤ 9223372036854775807)
    (r8 : Rd w 0 x8 (c 8)) (q8 : Fits (c 8) .exprs) (r9 : Rd w 0 x9 (c 9)) (q9 : Fits (c 9) .queries) :
    OutP w [.int .i64 c0, .int .i64 c1, .bool c2, .int .i64 c3, .int .i64 c4, .string c5, .string c6, .string c7, x8, x9] [ndOf c0 c1 c2 c3 c4 c5 c6 c7 c] := OutP.one rfl (fun m hm => match m, hm with
  | 0, _ => ⟨_, rfl, rfl, ⟨_, rfl, b0⟩⟩
  | 1, _ => ⟨_, rfl, rfl, ⟨_, rfl, b1⟩⟩
  | 2, _ => ⟨_, rfl, rfl, ⟨_, rfl⟩⟩
  | 3, _ => ⟨_, rfl, rfl, ⟨_, rfl, b3⟩⟩
  | 4, _ => ⟨_, rfl, rfl, ⟨_, rfl, b4⟩⟩
  | 5, _ => ⟨_, rfl, rfl, ⟨_, rfl, b5⟩⟩
  | 6, _ => ⟨_, rfl, rfl, ⟨_, rfl, b6⟩⟩
  | 7, _ => ⟨_, rfl, rfl, ⟨_, rfl, b7⟩⟩
  | 8, _ => ⟨_, rfl, r8, q8⟩
  | 9, _ => ⟨_, rfl, r9, q9⟩
  | m + 10, hm => absurd hm (by simp [exprTy]))

theorem mem_exprsOf_bd {d : Dat} {ty : Ty} {M : Nat} (hf : Fits d ty) (hm : msr d ≤ M) (hM : M ≤ 1048576) (nd : Nd) (p : Nat × Nd) (hp : p ∈ fold preA d ty) (he : p.2 = nd) : Bd nd := by
  obtain ⟨a, b, c, e⟩ := pre_bd d ty hf p hp
  subst he
  exact ⟨by omega, by omega, c, e⟩
theorem queryBd {c : Nd} (q1 : Fits (c 1) .items) (q2 : Fits (c 2) .sources) (q3 : Fits (c 3) .exprs) (q4 : Fits (c 4) .keys) (m1 : msr (c 1) ≤ 1048576) (m2 : msr (c 2) ≤ 1048576) (m3 : msr (c 3) ≤ 1048576) (m4 : msr (c 4) ≤ 1048576) : ∀ nd ∈ exprsOf c, Bd nd := by
  intro nd hnd
  have hq : foldQ preA c = (exprsOf c).flatMap (foldE preA) := by
    rw [foldQ_is preA_good q1 q2 q3 q4, preA_of]; rfl
  have h0 : (0, nd) ∈ foldQ preA c := by
    rw [hq, List.mem_flatMap]
    exact ⟨nd, hnd, by unfold foldE; exact List.mem_cons_self ..⟩
  unfold foldQ at h0
  simp only [preA, List.mem_append] at h0
  rcases h0 with ((h | h) | h) | h
  · exact mem_exprsOf_bd q1 (Nat.le_refl _) m1 nd _ h rfl
  · exact mem_exprsOf_bd q2 (Nat.le_refl _) m2 nd _ h rfl
  · exact mem_exprsOf_bd q3 (Nat.le_refl _) m3 nd _ h rfl
  · exact mem_exprsOf_bd q4 (Nat.le_refl _) m4 nd _ h rfl
set_option maxRecDepth 100000 in
set_option maxHeartbeats 2000000 in
theorem DepthOf_impl : ∀ c : Nat → Dat, msr (c 8) + msr (c 9) ≤ 1048576 → Fits (c 8) .exprs → Fits (c 9) .queries → DepthOfI c := by
  intro c hm _ _ c0 c1 c2 c3 c4 c5 c6 c7 x8 x9 W b0 b1 b3 b4 b5 b6 b7 r8 q8 r9 q9
  have hout := ndOf_out (c2 := c2) b0 b1 b3 b4 b5 b6 b7 r8 q8 r9 q9
  have hbd : Bd (ndOf c0 c1 c2 c3 c4 c5 c6 c7 c) := ⟨by show msr (c 8) ≤ _; omega, by show msr (c 9) ≤ _; omega, q8, q9⟩
  have hfold : foldE depA (ndOf c0 c1 c2 c3 c4 c5 c6 c7 c) = foldE depA c := rfl
  have hsz : foldE sizA (ndOf c0 c1 c2 c3 c4 c5 c6 c7 c) ≤ 1048577 := by
    have g8 := siz_le (c 8) _ q8
    have g9 := siz_le (c 9) _ q9
    show (fold sizA (c 8) .exprs + fold sizA (c 9) .queries) + 1 ≤ _
    omega
  obtain ⟨a8, n8, p8, rfl⟩ := r8.slice_of q8 rfl
  obtain ⟨a9, n9, p9, rfl⟩ := r9.slice_of q9 rfl
  have HB := BX.new W 34 #[.int .i64 c0, .int .i64 c1, .bool c2, .int .i64 c3, .int .i64 c4, .string c5, .string c6, .string c7, .slice a8 n8 p8, .slice a9 n9 p9]
  rw [← hfold]
  generalize ndOf c0 c1 c2 c3 c4 c5 c6 c7 c = nd at hout hbd hsz ⊢
  have x0 := HB.box.cell (i := 0) (v := .int .i64 c0) rfl
  have x1 := HB.box.cell (i := 1) (v := .int .i64 c1) rfl
  have x2 := HB.box.cell (i := 2) (v := .bool c2) rfl
  have x3 := HB.box.cell (i := 3) (v := .int .i64 c3) rfl
  have x4 := HB.box.cell (i := 4) (v := .int .i64 c4) rfl
  have x5 := HB.box.cell (i := 5) (v := .string c5) rfl
  have x6 := HB.box.cell (i := 6) (v := .string c6) rfl
  have x7 := HB.box.cell (i := 7) (v := .string c7) rfl
  have x8 := HB.box.cell (i := 8) (v := .slice a8 n8 p8) rfl
  have x9 := HB.box.cell (i := 9) (v := .slice a9 n9 p9) rfl
  go_enter Try.func34, Try.ntmps34
  have s1 : (W.alloc (.cells #[.int .i64 c0, .int .i64 c1, .bool c2, .int .i64 c3, .int .i64 c4, .string c5, .string c6, .string c7, .slice a8 n8 p8, .slice a9 n9 p9] 34)).heap.size = W.heap.size + 1 := by simp
  go_wp2_with fail
  generalize W.alloc (.cells #[.int .i64 c0, .int .i64 c1, .bool c2, .int .i64 c3, .int .i64 c4, .string c5, .string c6, .string c7, .slice a8 n8 p8, .slice a9 n9 p9] 34) = w1 at HB s1 ⊢
  have h2 := RowAt.new w1 34 #[.int .i64 c0, .int .i64 c1, .bool c2, .int .i64 c3, .int .i64 c4, .string c5, .string c6, .string c7, .slice a8 n8 p8, .slice a9 n9 p9]
  have hal : Below w1.heap.size w1 (w1.alloc (.cells #[.int .i64 c0, .int .i64 c1, .bool c2, .int .i64 c3, .int .i64 c4, .string c5, .string c6, .string c7, .slice a8 n8 p8, .slice a9 n9 p9] 34)) := (Below.refl _ _).alloc (Nat.le_refl _) _
  rw [s1] at h2
  generalize w1.alloc (.cells #[.int .i64 c0, .int .i64 c1, .bool c2, .int .i64 c3, .int .i64 c4, .string c5, .string c6, .string c7, .slice a8 n8 p8, .slice a9 n9 p9] 34) = w2 at h2 hal ⊢
  have hB2 := HB.b.trans (hal.mono HB.b.size)
  have hlk : LK exprTy W w2 (fun _ => True) (.slice (some ⟨W.heap.size + 1, 0, none⟩) 1 1) [nd] :=
    ⟨_, 1, _, rfl, hout, .inr ⟨W.heap.size + 1, 0, rfl, Nat.le_refl _, trivial, h2.lt, fun j u hj => by rw [Nat.zero_add]; exact h2.cell (by simpa using hj)⟩⟩
  have hlen : ([nd].flatMap (pre 1)).length ≤ 2000000 := by
    rw [len_flat]
    show sizA.of [foldE sizA nd] ≤ _
    rw [sizA_good.of_cons]
    show _ + 0 ≤ _
    omega
  refine (deepest_any W w2 [nd] _ hB2 hlk (fun c hc => by rw [List.mem_singleton.1 hc]; exact hbd) hlen).mono ?_
  rintro e w3 ⟨rfl, hb3⟩
  have hval : mx ([nd].flatMap (pre 1)) = foldE depA nd := by
    rw [mx_flat]; show depA.of [foldE depA nd] = _; rw [depA_good.of_cons]; show max _ 0 = _; omega
  rw [hval]
  have hfb := hB2.trans (hb3.mono hB2.size)
  clear x0 x1 x2 x3 x4 x5 x6 x7 x8 x9
  go_wp2_with fail
  go_ret
  exact ⟨rfl, hfb⟩
set_option maxRecDepth 100000 in
set_option maxHeartbeats 2000000 in
theorem SizeOf_impl : ∀ c : Nat → Dat, msr (c 8) + msr (c 9) ≤ 1048576 → Fits (c 8) .exprs → Fits (c 9) .queries → SizeOfI c := by
  intro c hm _ _ c0 c1 c2 c3 c4 c5 c6 c7 x8 x9 W b0 b1 b3 b4 b5 b6 b7 r8 q8 r9 q9
  have hout := ndOf_out (c2 := c2) b0 b1 b3 b4 b5 b6 b7 r8 q8 r9 q9
  have hbd : Bd (ndOf c0 c1 c2 c3 c4 c5 c6 c7 c) := ⟨by show msr (c 8) ≤ _; omega, by show msr (c 9) ≤ _; omega, q8, q9⟩
  have hfold : foldE sizA (ndOf c0 c1 c2 c3 c4 c5 c6 c7 c) = foldE sizA c := rfl
  have hsz : foldE sizA (ndOf c0 c1 c2 c3 c4 c5 c6 c7 c) ≤ 1048577 := by
    have g8 := siz_le (c 8) _ q8
    have g9 := siz_le (c 9) _ q9
    show (fold sizA (c 8) .exprs + fold sizA (c 9) .queries) + 1 ≤ _
    omega
  obtain ⟨a8, n8, p8, rfl⟩ := r8.slice_of q8 rfl
  obtain ⟨a9, n9, p9, rfl⟩ := r9.slice_of q9 rfl
  have HB := BX.new W 34 #[.int .i64 c0, .int .i64 c1, .bool c2, .int .i64 c3, .int .i64 c4, .string c5, .string c6, .string c7, .slice a8 n8 p8, .slice a9 n9 p9]
  rw [← hfold]
  generalize ndOf c0 c1 c2 c3 c4 c5 c6 c7 c = nd at hout hbd hsz ⊢
  have x0 := HB.box.cell (i := 0) (v := .int .i64 c0) rfl
  have x1 := HB.box.cell (i := 1) (v := .int .i64 c1) rfl
  have x2 := HB.box.cell (i := 2) (v := .bool c2) rfl
  have x3 := HB.box.cell (i := 3) (v := .int .i64 c3) rfl
  have x4 := HB.box.cell (i := 4) (v := .int .i64 c4) rfl
  have x5 := HB.box.cell (i := 5) (v := .string c5) rfl
  have x6 := HB.box.cell (i := 6) (v := .string c6) rfl
  have x7 := HB.box.cell (i := 7) (v := .string c7) rfl
  have x8 := HB.box.cell (i := 8) (v := .slice a8 n8 p8) rfl
  have x9 := HB.box.cell (i := 9) (v := .slice a9 n9 p9) rfl
  go_enter Try.func35, Try.ntmps35
  have s1 : (W.alloc (.cells #[.int .i64 c0, .int .i64 c1, .bool c2, .int .i64 c3, .int .i64 c4, .string c5, .string c6, .string c7, .slice a8 n8 p8, .slice a9 n9 p9] 34)).heap.size = W.heap.size + 1 := by simp
  go_wp2_with fail
  generalize W.alloc (.cells #[.int .i64 c0, .int .i64 c1, .bool c2, .int .i64 c3, .int .i64 c4, .string c5, .string c6, .string c7, .slice a8 n8 p8, .slice a9 n9 p9] 34) = w1 at HB s1 ⊢
  have h2 := RowAt.new w1 34 #[.int .i64 c0, .int .i64 c1, .bool c2, .int .i64 c3, .int .i64 c4, .string c5, .string c6, .string c7, .slice a8 n8 p8, .slice a9 n9 p9]
  have hal : Below w1.heap.size w1 (w1.alloc (.cells #[.int .i64 c0, .int .i64 c1, .bool c2, .int .i64 c3, .int .i64 c4, .string c5, .string c6, .string c7, .slice a8 n8 p8, .slice a9 n9 p9] 34)) := (Below.refl _ _).alloc (Nat.le_refl _) _
  rw [s1] at h2
  generalize w1.alloc (.cells #[.int .i64 c0, .int .i64 c1, .bool c2, .int .i64 c3, .int .i64 c4, .string c5, .string c6, .string c7, .slice a8 n8 p8, .slice a9 n9 p9] 34) = w2 at h2 hal ⊢
  have hB2 := HB.b.trans (hal.mono HB.b.size)
  have hlk : LK exprTy W w2 (fun _ => True) (.slice (some ⟨W.heap.size + 1, 0, none⟩) 1 1) [nd] :=
    ⟨_, 1, _, rfl, hout, .inr ⟨W.heap.size + 1, 0, rfl, Nat.le_refl _, trivial, h2.lt, fun j u hj => by rw [Nat.zero_add]; exact h2.cell (by simpa using hj)⟩⟩
  have hlen : ([nd].flatMap (pre 1)).length ≤ 2000000 := by
    rw [len_flat]
    show sizA.of [foldE sizA nd] ≤ _
    rw [sizA_good.of_cons]
    show _ + 0 ≤ _
    omega
  refine (total_any W w2 [nd] _ hB2 hlk (fun c hc => by rw [List.mem_singleton.1 hc]; exact hbd) hlen).mono ?_
  rintro e w3 ⟨rfl, hb3⟩
  have hval : ([nd].flatMap (pre 1)).length = foldE sizA nd := by
    rw [len_flat]; show sizA.of [foldE sizA nd] = _; rw [sizA_good.of_cons]; rfl
  rw [hval]
  have hfb := hB2.trans (hb3.mono hB2.size)
  clear x0 x1 x2 x3 x4 x5 x6 x7 x8 x9
  go_wp2_with fail
  go_ret
  exact ⟨rfl, hfb⟩
set_option maxRecDepth 100000 in
set_option maxHeartbeats 2000000 in
theorem QueryDepth_impl : ∀ c : Nat → Dat, msr (c 1) + msr (c 2) + msr (c 3) + msr (c 4) ≤ 1048576 → Fits (c 1) .items → Fits (c 2) .sources → Fits (c 3) .exprs → Fits (c 4) .keys → QueryDepthI c := by
  intro c hm _ _ _ _ c0 x1 x2 x3 x4 c5 W b5 r1 q1 r2 q2 r3 q3 r4 q4
  have hbd : ∀ nd ∈ exprsOf c, Bd nd := queryBd q1 q2 q3 q4 (by omega) (by omega) (by omega) (by omega)
  have hsz : foldQ sizA c ≤ 1048576 := by
    have g1 := siz_le (c 1) _ q1
    have g2 := siz_le (c 2) _ q2
    have g3 := siz_le (c 3) _ q3
    have g4 := siz_le (c 4) _ q4
    show _ + _ + _ + _ ≤ _
    omega
  have hfq := foldQ_is depA_good q1 q2 q3 q4
  have hfs := foldQ_is sizA_good q1 q2 q3 q4
  rw [hfq]
  rw [hfs] at hsz
  clear hfq hfs
  obtain ⟨a1, n1, p1, rfl⟩ := r1.slice_of q1 rfl
  obtain ⟨a2, n2, p2, rfl⟩ := r2.slice_of q2 rfl
  obtain ⟨a3, n3, p3, rfl⟩ := r3.slice_of q3 rfl
  obtain ⟨a4, n4, p4, rfl⟩ := r4.slice_of q4 rfl
  obtain ⟨h1, E1, r1, q1⟩ := r1.openS q1 rfl
  obtain ⟨h2, E2, r2, q2⟩ := r2.openS q2 rfl
  obtain ⟨h3, E3, r3, q3⟩ := r3.openS q3 rfl
  obtain ⟨h4, E4, r4, q4⟩ := r4.openS q4 rfl
  have hN : n1 + (exFrom (.sl n2 3 h2)).length + n3 + n4 ≤ 1048576 := by
    rw [E1, E2, E3, E4] at hm
    replace hm : msr (.sl n1 13 h1) + msr (.sl n2 3 h2) + msr (.sl n3 10 h3) + msr (.sl n4 11 h4) ≤ 1048576 := hm
    have k1 := msr_n n1 13 h1
    have k2 := exFrom_msr q2
    have k3 := msr_n n3 10 h3
    have k4 := msr_n n4 11 h4
    omega
  have hex : exprsOf c = ((exItems (.sl n1 13 h1) ++ exFrom (.sl n2 3 h2)) ++ (Dat.sl n3 10 h3).els) ++ (Dat.sl n4 11 h4).els := by
    unfold exprsOf
    rw [E1, E2, E3, E4]
    rfl
  have HB := BX.new W 49 #[.bool c0, .slice a1 n1 p1, .slice a2 n2 p2, .slice a3 n3 p3, .slice a4 n4 p4, .int .i64 c5]
  have hcall := exprsIn_any W (W.alloc (.cells #[.bool c0, .slice a1 n1 p1, .slice a2 n2 p2, .slice a3 n3 p3, .slice a4 n4 p4, .int .i64 c5] 49)) c0 a1 n1 p1 a2 n2 p2 a3 n3 p3 a4 n4 p4 c5 h1 h2 h3 h4 HB.b r1 q1 r2 q2 r3 q3 r4 q4 hN
  rw [← hex] at hcall
  clear E1 E2 E3 E4 r1 r2 r3 r4 q1 q2 q3 q4 hN hm hex
  generalize exprsOf c = L at *
  have x0 := HB.box.cell (i := 0) (v := .bool c0) rfl
  have x1 := HB.box.cell (i := 1) (v := .slice a1 n1 p1) rfl
  have x2 := HB.box.cell (i := 2) (v := .slice a2 n2 p2) rfl
  have x3 := HB.box.cell (i := 3) (v := .slice a3 n3 p3) rfl
  have x4 := HB.box.cell (i := 4) (v := .slice a4 n4 p4) rfl
  have x5 := HB.box.cell (i := 5) (v := .int .i64 c5) rfl
  go_enter Try.func36, Try.ntmps36
  go_wp2_with fail
  refine hcall.mono ?_
  clear hcall x0 x1 x2 x3 x4 x5
  rintro e w2 ⟨v, rfl, ho, hb2⟩
  have hB2 := HB.b.trans (hb2.mono HB.b.size)
  have hlk : LK exprTy W w2 (fun _ => True) v L := ho.lk fun _ _ _ => trivial
  have hlen : (L.flatMap (pre 1)).length ≤ 2000000 := by rw [len_flat]; show sizA.of _ ≤ _; have : sizA.of (L.map (foldE sizA)) ≤ 1048576 := hsz; omega
  obtain ⟨vv, hvv⟩ : ∃ vv, vv = v := ⟨_, rfl⟩
  rw [← hvv] at hlk ⊢
  clear hvv
  have hD := deepest_any W w2 L vv hB2 hlk hbd hlen
  go_wp2_with fail
  refine hD.mono ?_
  clear hD
  rintro e w3 ⟨rfl, hb3⟩
  have hval : mx (L.flatMap (pre 1)) = depA.qn c (depA.of (L.map (foldE depA))) := by
    rw [mx_flat]; rfl
  rw [hval]
  have hfb := hB2.trans (hb3.mono hB2.size)
  go_wp2_with fail
  go_ret
  exact ⟨rfl, hfb⟩
set_option maxRecDepth 100000 in
set_option maxHeartbeats 2000000 in
theorem QuerySize_impl : ∀ c : Nat → Dat, msr (c 1) + msr (c 2) + msr (c 3) + msr (c 4) ≤ 1048576 → Fits (c 1) .items → Fits (c 2) .sources → Fits (c 3) .exprs → Fits (c 4) .keys → QuerySizeI c := by
  intro c hm _ _ _ _ c0 x1 x2 x3 x4 c5 W b5 r1 q1 r2 q2 r3 q3 r4 q4
  have hbd : ∀ nd ∈ exprsOf c, Bd nd := queryBd q1 q2 q3 q4 (by omega) (by omega) (by omega) (by omega)
  have hsz : foldQ sizA c ≤ 1048576 := by
    have g1 := siz_le (c 1) _ q1
    have g2 := siz_le (c 2) _ q2
    have g3 := siz_le (c 3) _ q3
    have g4 := siz_le (c 4) _ q4
    show _ + _ + _ + _ ≤ _
    omega
  have hfq := foldQ_is sizA_good q1 q2 q3 q4
  have hfs := foldQ_is sizA_good q1 q2 q3 q4
  rw [hfq]
  rw [hfs] at hsz
  clear hfq hfs
  obtain ⟨a1, n1, p1, rfl⟩ := r1.slice_of q1 rfl
  obtain ⟨a2, n2, p2, rfl⟩ := r2.slice_of q2 rfl
  obtain ⟨a3, n3, p3, rfl⟩ := r3.slice_of q3 rfl
  obtain ⟨a4, n4, p4, rfl⟩ := r4.slice_of q4 rfl
  obtain ⟨h1, E1, r1, q1⟩ := r1.openS q1 rfl
  obtain ⟨h2, E2, r2, q2⟩ := r2.openS q2 rfl
  obtain ⟨h3, E3, r3, q3⟩ := r3.openS q3 rfl
  obtain ⟨h4, E4, r4, q4⟩ := r4.openS q4 rfl
  have hN : n1 + (exFrom (.sl n2 3 h2)).length + n3 + n4 ≤ 1048576 := by
    rw [E1, E2, E3, E4] at hm
    replace hm : msr (.sl n1 13 h1) + msr (.sl n2 3 h2) + msr (.sl n3 10 h3) + msr (.sl n4 11 h4) ≤ 1048576 := hm
    have k1 := msr_n n1 13 h1
    have k2 := exFrom_msr q2
    have k3 := msr_n n3 10 h3
    have k4 := msr_n n4 11 h4
    omega
  have hex : exprsOf c = ((exItems (.sl n1 13 h1) ++ exFrom (.sl n2 3 h2)) ++ (Dat.sl n3 10 h3).els) ++ (Dat.sl n4 11 h4).els := by
    unfold exprsOf
    rw [E1, E2, E3, E4]
    rfl
  have HB := BX.new W 49 #[.bool c0, .slice a1 n1 p1, .slice a2 n2 p2, .slice a3 n3 p3, .slice a4 n4 p4, .int .i64 c5]
  have hcall := exprsIn_any W (W.alloc (.cells #[.bool c0, .slice a1 n1 p1, .slice a2 n2 p2, .slice a3 n3 p3, .slice a4 n4 p4, .int .i64 c5] 49)) c0 a1 n1 p1 a2 n2 p2 a3 n3 p3 a4 n4 p4 c5 h1 h2 h3 h4 HB.b r1 q1 r2 q2 r3 q3 r4 q4 hN
  rw [← hex] at hcall
  clear E1 E2 E3 E4 r1 r2 r3 r4 q1 q2 q3 q4 hN hm hex
  generalize exprsOf c = L at *
  have x0 := HB.box.cell (i := 0) (v := .bool c0) rfl
  have x1 := HB.box.cell (i := 1) (v := .slice a1 n1 p1) rfl
  have x2 := HB.box.cell (i := 2) (v := .slice a2 n2 p2) rfl
  have x3 := HB.box.cell (i := 3) (v := .slice a3 n3 p3) rfl
  have x4 := HB.box.cell (i := 4) (v := .slice a4 n4 p4) rfl
  have x5 := HB.box.cell (i := 5) (v := .int .i64 c5) rfl
  go_enter Try.func37, Try.ntmps37
  go_wp2_with fail
  refine hcall.mono ?_
  clear hcall x0 x1 x2 x3 x4 x5
  rintro e w2 ⟨v, rfl, ho, hb2⟩
  have hB2 := HB.b.trans (hb2.mono HB.b.size)
  have hlk : LK exprTy W w2 (fun _ => True) v L := ho.lk fun _ _ _ => trivial
  have hlen : (L.flatMap (pre 1)).length ≤ 2000000 := by rw [len_flat]; show sizA.of _ ≤ _; have : sizA.of (L.map (foldE sizA)) ≤ 1048576 := hsz; omega
  obtain ⟨vv, hvv⟩ : ∃ vv, vv = v := ⟨_, rfl⟩
  rw [← hvv] at hlk ⊢
  clear hvv
  have hD := total_any W w2 L vv hB2 hlk hbd hlen
  go_wp2_with fail
  refine hD.mono ?_
  clear hD
  rintro e w3 ⟨rfl, hb3⟩
  have hval : (L.flatMap (pre 1)).length = sizA.qn c (sizA.of (L.map (foldE sizA))) := by
    rw [len_flat]; rfl
  rw [hval]
  have hfb := hB2.trans (hb3.mono hB2.size)
  go_wp2_with fail
  go_ret
  exact ⟨rfl, hfb⟩
end Go.Proofs.Ytbbfanhhldbhhaa

/- The program's test on a node, on lists of trees, on an expression and on a query. -/
namespace Go.Proofs.Ytbbfanhhldbhhaa
open Go.RowKit
attribute [local go_sem] Oper.semAt_some

theorem Bd.query {c : Nd} (h : Bd c) : ∀ q ∈ (c 9).els, BdQ q := by
  intro q hq
  have h9 := h.m9
  have hf := h.f9
  obtain ⟨n, k, f, e⟩ := hf.deep rfl
  rw [e] at hf hq h9
  have hk : k = 6 := hf.2.2.1
  subst hk
  have hfq := fitsQ_of hf hq
  obtain ⟨i, hi, rfl⟩ := List.mem_map.1 hq
  rw [List.mem_range] at hi
  exact ⟨hfq, Nat.le_trans (row_msr hi) h9⟩
theorem shape_v {c : Nd} {c0 c1 : Int} {c2 : Bool} {c3 c4 : Int} {c5 c6 c7 : ByteArray} {n8 n9 : Nat} (e0 : c 0 = .v (.int .i64 c0)) (e1 : c 1 = .v (.int .i64 c1)) (e2 : c 2 = .v (.bool c2)) (e3 : c 3 = .v (.int .i64 c3)) (e4 : c 4 = .v (.int .i64 c4)) (e5 : c 5 = .v (.string c5)) (e6 : c 6 = .v (.string c6)) (e7 : c 7 = .v (.string c7)) (l8 : (c 8).len = n8) (l9 : (c 9).len = n9) :
    shapeB c = (headB c0 c1 c2 c3 c4 c5 && (namesB c0 c6 c7 && takesB c0 n8 n9)) := by
  unfold shapeB shapeF
  rw [num_v e0, num_v e1, tru_v e2, num_v e3, num_v e4, txt_v e5, txt_v e6, txt_v e7, l8, l9]
set_option maxRecDepth 100000 in
set_option maxHeartbeats 8000000 in
theorem nodeOk_any (w0 : World) (c : Nd) (ys : List Value) (W : World) (hys : OutK exprTy w0 ys [c]) (hb0 : Below w0.heap.size w0 W) (hbd : Bd c) :
    Calls Try.prog 139 #[.agg ys.toArray] W (BoolE (nodeB c) W) := by
  obtain ⟨c0, c1, c2, c3, c4, c5, c6, c7, a8, n8, p8, a9, n9, p9, rfl, ⟨e0, -⟩, ⟨e1, -⟩, e2, ⟨e3, -⟩, ⟨e4, -⟩, ⟨e5, b5⟩, ⟨e6, b6⟩, ⟨e7, b7⟩, ⟨r8, q8⟩, ⟨r9, q9⟩⟩ := hys.ten
  have hv : nodeB c = (headB c0 c1 c2 c3 c4 c5 && (namesB c0 c6 c7 && (takesB c0 n8 n9 && (c 9).els.all frameB))) := by
    unfold nodeB; rw [shape_v e0 e1 e2 e3 e4 e5 e6 e7 (r8.slen q8 rfl) (r9.slen q9 rfl)]; simp only [Bool.and_assoc]
  rw [hv]
  have R := RowAt.new W 34 #[.int .i64 c0, .int .i64 c1, .bool c2, .int .i64 c3, .int .i64 c4, .string c5, .string c6, .string c7, .slice a8 n8 p8, .slice a9 n9 p9]
  have hB : Below W.heap.size W (W.alloc (.cells #[.int .i64 c0, .int .i64 c1, .bool c2, .int .i64 c3, .int .i64 c4, .string c5, .string c6, .string c7, .slice a8 n8 p8, .slice a9 n9 p9] 34)) := (Below.refl _ _).alloc (Nat.le_refl _) _
  have HB := Lib.hid hB
  have hz := hb0.trans (hB.mono hb0.size)
  have hF := fun w => fields_any c0 c1 c2 c3 c4 c5 w b5
  have hN := fun w => names_any c0 c1 c2 c3 c4 c5 c6 c7 w b6 b7
  have hT := fun w => takes_any c0 c1 c2 c3 c4 c5 n8 n9 w
  have hQ : ∀ W', Below w0.heap.size w0 W' → Calls Try.prog 217 #[.slice a9 n9 p9, .func (.func 86) #[] #[]] W' (BoolE ((c 9).els.all frameB) W') := fun W' hb => by
    obtain ⟨n1, h1⟩ := r9.lkE q9 rfl hb
    have h := every_queries w0 W' a9 p9 _ hb h1 (Nat.le_trans els_msr hbd.m9) fun q hq ys W' h hb' => frameOk_any w0 q ys W' h hb' (hbd.query q hq)
    rw [n1] at h
    exact h
  have HR := Lib.hid R
  have x0 := R.cell (i := 0) (v := .int .i64 c0) rfl
  have x1 := R.cell (i := 1) (v := .int .i64 c1) rfl
  have x2 := R.cell (i := 2) (v := .bool c2) rfl
  have x3 := R.cell (i := 3) (v := .int .i64 c3) rfl
  have x4 := R.cell (i := 4) (v := .int .i64 c4) rfl
  have x5 := R.cell (i := 5) (v := .string c5) rfl
  have x6 := R.cell (i := 6) (v := .string c6) rfl
  have x7 := R.cell (i := 7) (v := .string c7) rfl
  have x8 := R.cell (i := 8) (v := .slice a8 n8 p8) rfl
  have x9 := R.cell (i := 9) (v := .slice a9 n9 p9) rfl
  clear hv hys hB e0 e1 e2 e3 e4 e5 e6 e7 b5 b6 b7 r8 r9 q8 q9 hbd R
  generalize headB c0 c1 c2 c3 c4 c5 = u1 at hF ⊢
  generalize namesB c0 c6 c7 = u2 at hN ⊢
  generalize takesB c0 n8 n9 = u3 at hT ⊢
  generalize (c 9).els.all frameB = u4 at hQ ⊢
  go_enter Try.func139, Try.ntmps139
  go_wp2_with fail
  refine (nodeOf_any _ _ _ _ _ _ _ _ _ _ _ _ _ _ _).mono ?_
  rintro e w2 ⟨rfl, hb2⟩
  have hB2 := HB.out.trans (hb2.mono HB.out.size)
  have hz2 := hz.trans (hb2.mono hz.size)
  have R2 := HR.out.later hb2
  have RN := RowAt.new w2 241 #[.int .i64 c0, .int .i64 c1, .bool c2, .int .i64 c3, .int .i64 c4, .string c5, .string c6, .string c7]
  have hal : Below w2.heap.size w2 (w2.alloc (.cells #[.int .i64 c0, .int .i64 c1, .bool c2, .int .i64 c3, .int .i64 c4, .string c5, .string c6, .string c7] 241)) := (Below.refl _ _).alloc (Nat.le_refl _) _
  have hB3 := hB2.trans (hal.mono hB2.size)
  have hz3 := hz2.trans (hal.mono hz2.size)
  have R3 := R2.later hal
  clear hb2 hB2 hz2 R2 hal HR hz
  clear x0 x1 x2 x3 x4 x5 x6 x7 x8 x9
  go_wp2_with fail
  generalize w2.alloc (.cells #[.int .i64 c0, .int .i64 c1, .bool c2, .int .i64 c3, .int .i64 c4, .string c5, .string c6, .string c7] 241) = w3 at RN hB3 hz3 R3 ⊢
  generalize w2.heap.size = BN at RN ⊢
  have hRN3 := RN
  have x0 := R3.cell (i := 0) (v := .int .i64 c0) rfl
  have x1 := R3.cell (i := 1) (v := .int .i64 c1) rfl
  have x2 := R3.cell (i := 2) (v := .bool c2) rfl
  have x3 := R3.cell (i := 3) (v := .int .i64 c3) rfl
  have x4 := R3.cell (i := 4) (v := .int .i64 c4) rfl
  have x5 := R3.cell (i := 5) (v := .string c5) rfl
  have x6 := R3.cell (i := 6) (v := .string c6) rfl
  have x7 := R3.cell (i := 7) (v := .string c7) rfl
  have x8 := R3.cell (i := 8) (v := .slice a8 n8 p8) rfl
  have x9 := R3.cell (i := 9) (v := .slice a9 n9 p9) rfl
  have y0 := RN.cell (i := 0) (v := .int .i64 c0) rfl
  have y1 := RN.cell (i := 1) (v := .int .i64 c1) rfl
  have y2 := RN.cell (i := 2) (v := .bool c2) rfl
  have y3 := RN.cell (i := 3) (v := .int .i64 c3) rfl
  have y4 := RN.cell (i := 4) (v := .int .i64 c4) rfl
  have y5 := RN.cell (i := 5) (v := .string c5) rfl
  have y6 := RN.cell (i := 6) (v := .string c6) rfl
  have y7 := RN.cell (i := 7) (v := .string c7) rfl
  have RN3 := RN
  clear RN hRN3
  cases u1
  · go_wp2_with fail
    refine (hF _).mono ?_
    rintro e w4 ⟨rfl, hb⟩
    have hB4 := hB3.trans (hb.mono hB3.size)
    clear hb
    clear x0 x1 x2 x3 x4 x5 x6 x7 x8 x9 y0 y1 y2 y3 y4 y5 y6 y7
    go_wp2_with fail
    go_ret
    exact ⟨rfl, hB4⟩
  · go_wp2_with fail
    refine (hF _).mono ?_
    rintro e w4 ⟨rfl, hb⟩
    have hB4 := hB3.trans (hb.mono hB3.size)
    have hz4 := hz3.trans (hb.mono hz3.size)
    have R4 := R3.later hb
    have RN4 := RN3.later hb
    clear hb
    clear x0 x1 x2 x3 x4 x5 x6 x7 x8 x9 y0 y1 y2 y3 y4 y5 y6 y7
    have x0 := R4.cell (i := 0) (v := .int .i64 c0) rfl
    have x1 := R4.cell (i := 1) (v := .int .i64 c1) rfl
    have x2 := R4.cell (i := 2) (v := .bool c2) rfl
    have x3 := R4.cell (i := 3) (v := .int .i64 c3) rfl
    have x4 := R4.cell (i := 4) (v := .int .i64 c4) rfl
    have x5 := R4.cell (i := 5) (v := .string c5) rfl
    have x6 := R4.cell (i := 6) (v := .string c6) rfl
    have x7 := R4.cell (i := 7) (v := .string c7) rfl
    have x8 := R4.cell (i := 8) (v := .slice a8 n8 p8) rfl
    have x9 := R4.cell (i := 9) (v := .slice a9 n9 p9) rfl
    have y0 := RN4.cell (i := 0) (v := .int .i64 c0) rfl
    have y1 := RN4.cell (i := 1) (v := .int .i64 c1) rfl
    have y2 := RN4.cell (i := 2) (v := .bool c2) rfl
    have y3 := RN4.cell (i := 3) (v := .int .i64 c3) rfl
    have y4 := RN4.cell (i := 4) (v := .int .i64 c4) rfl
    have y5 := RN4.cell (i := 5) (v := .string c5) rfl
    have y6 := RN4.cell (i := 6) (v := .string c6) rfl
    have y7 := RN4.cell (i := 7) (v := .string c7) rfl
    cases u2
    · go_wp2_with fail
      refine (hN _).mono ?_
      rintro e w5 ⟨rfl, hb⟩
      have hB5 := hB4.trans (hb.mono hB4.size)
      clear hb
      clear x0 x1 x2 x3 x4 x5 x6 x7 x8 x9 y0 y1 y2 y3 y4 y5 y6 y7
      go_wp2_with fail
      go_ret
      exact ⟨rfl, hB5⟩
    · go_wp2_with fail
      refine (hN _).mono ?_
      rintro e w5 ⟨rfl, hb⟩
      have hB5 := hB4.trans (hb.mono hB4.size)
      have hz5 := hz4.trans (hb.mono hz4.size)
      have R5 := R4.later hb
      have RN5 := RN4.later hb
      clear hb
      clear x0 x1 x2 x3 x4 x5 x6 x7 x8 x9 y0 y1 y2 y3 y4 y5 y6 y7
      have x0 := R5.cell (i := 0) (v := .int .i64 c0) rfl
      have x1 := R5.cell (i := 1) (v := .int .i64 c1) rfl
      have x2 := R5.cell (i := 2) (v := .bool c2) rfl
      have x3 := R5.cell (i := 3) (v := .int .i64 c3) rfl
      have x4 := R5.cell (i := 4) (v := .int .i64 c4) rfl
      have x5 := R5.cell (i := 5) (v := .string c5) rfl
      have x6 := R5.cell (i := 6) (v := .string c6) rfl
      have x7 := R5.cell (i := 7) (v := .string c7) rfl
      have x8 := R5.cell (i := 8) (v := .slice a8 n8 p8) rfl
      have x9 := R5.cell (i := 9) (v := .slice a9 n9 p9) rfl
      have y0 := RN5.cell (i := 0) (v := .int .i64 c0) rfl
      have y1 := RN5.cell (i := 1) (v := .int .i64 c1) rfl
      have y2 := RN5.cell (i := 2) (v := .bool c2) rfl
      have y3 := RN5.cell (i := 3) (v := .int .i64 c3) rfl
      have y4 := RN5.cell (i := 4) (v := .int .i64 c4) rfl
      have y5 := RN5.cell (i := 5) (v := .string c5) rfl
      have y6 := RN5.cell (i := 6) (v := .string c6) rfl
      have y7 := RN5.cell (i := 7) (v := .string c7) rfl
      cases u3
      · go_wp2_with fail
        refine (hT _).mono ?_
        rintro e w6 ⟨rfl, hb⟩
        have hB6 := hB5.trans (hb.mono hB5.size)
        clear hb
        clear x0 x1 x2 x3 x4 x5 x6 x7 x8 x9 y0 y1 y2 y3 y4 y5 y6 y7
        go_wp2_with fail
        go_ret
        exact ⟨rfl, hB6⟩
      · go_wp2_with fail
        refine (hT _).mono ?_
        rintro e w6 ⟨rfl, hb⟩
        have hB6 := hB5.trans (hb.mono hB5.size)
        have hz6 := hz5.trans (hb.mono hz5.size)
        have R6 := R5.later hb
        have RN6 := RN5.later hb
        clear hb
        clear x0 x1 x2 x3 x4 x5 x6 x7 x8 x9 y0 y1 y2 y3 y4 y5 y6 y7
        have x0 := R6.cell (i := 0) (v := .int .i64 c0) rfl
        have x1 := R6.cell (i := 1) (v := .int .i64 c1) rfl
        have x2 := R6.cell (i := 2) (v := .bool c2) rfl
        have x3 := R6.cell (i := 3) (v := .int .i64 c3) rfl
        have x4 := R6.cell (i := 4) (v := .int .i64 c4) rfl
        have x5 := R6.cell (i := 5) (v := .string c5) rfl
        have x6 := R6.cell (i := 6) (v := .string c6) rfl
        have x7 := R6.cell (i := 7) (v := .string c7) rfl
        have x8 := R6.cell (i := 8) (v := .slice a8 n8 p8) rfl
        have x9 := R6.cell (i := 9) (v := .slice a9 n9 p9) rfl
        have y0 := RN6.cell (i := 0) (v := .int .i64 c0) rfl
        have y1 := RN6.cell (i := 1) (v := .int .i64 c1) rfl
        have y2 := RN6.cell (i := 2) (v := .bool c2) rfl
        have y3 := RN6.cell (i := 3) (v := .int .i64 c3) rfl
        have y4 := RN6.cell (i := 4) (v := .int .i64 c4) rfl
        have y5 := RN6.cell (i := 5) (v := .string c5) rfl
        have y6 := RN6.cell (i := 6) (v := .string c6) rfl
        have y7 := RN6.cell (i := 7) (v := .string c7) rfl
        go_wp2_with fail
        refine (hQ _ hz6).mono ?_
        rintro e w7 ⟨rfl, hb⟩
        have hB7 := hB6.trans (hb.mono hB6.size)
        clear hb
        clear x0 x1 x2 x3 x4 x5 x6 x7 x8 x9 y0 y1 y2 y3 y4 y5 y6 y7
        go_wp2_with fail
        go_ret
        exact ⟨rfl, hB7⟩
end Go.Proofs.Ytbbfanhhldbhhaa
