/- Joined texts: RightQ. -/
import Derived.Test.YtcliijfdlcagoaaGreatQZAX
import Derived.Test.YtcliijfdlcagoaaGreatQZAY
namespace Go.Proofs.YtcliijfdlcagoaaGreat
set_option linter.unusedVariables false
set_option linter.unusedSimpArgs false
open Go.RowKit
theorem zero_rd8 (w : World) : Rd w 0 (.slice none 0 0) (zeroNd 8) := ⟨none, 0, rfl, Nat.le_refl _, fun _ => rfl, .inl rfl⟩
theorem zero_rd9 (w : World) : Rd w 0 (.slice none 0 0) (zeroNd 9) := ⟨none, 0, rfl, Nat.le_refl _, fun _ => rfl, .inl rfl⟩
theorem rightQ_val {q : Nd} (h : FitsQ q) : foldQ rightA q = (frameB q && (exprsOf q).all (foldE rightA)) := by
  rw [foldQ_is rightA_good h.1 h.2.1 h.2.2.1 h.2.2.2]
  show (frameB q && rightA.of _) = _
  rw [rightA_of, List.all_map]
  rfl
theorem all_els (n k : Nat) (f : Nat → Nat → Dat) (p : Nd → Bool) : (Dat.sl n k f).els.all p = (List.range n).all fun i => p (f i) := by
  show ((List.range n).map f).all p = _
  rw [List.all_map]; rfl
theorem frame_val {q : Nd} {n1 n2 n3 n4 : Nat} {f1 f2 f3 f4 : Nat → Nat → Dat} {c5 : Int} (h1 : q 1 = .sl n1 13 f1) (h2 : q 2 = .sl n2 3 f2) (h3 : q 3 = .sl n3 10 f3) (h4 : q 4 = .sl n4 11 f4) (e5 : q 5 = .v (.int .i64 c5)) :
    frameB q = ((decide (1 ≤ n1) && decide (n1 ≤ 12)) && ((List.range n1).all (fun i => itemB (f1 i)) && ((decide (1 ≤ n2) && decide (n2 ≤ 3)) && ((List.range n2).all (fun i => sourceB (f2 i)) && (((f2 0 2).len == 0) && (decide (n3 ≤ 1) && (decide (n4 ≤ 12) && decide (-1 ≤ c5)))))))) := by
  unfold frameB firstB
  rw [h1, h2, h3, h4, num_v e5, all_els, all_els]
  rfl
def srcB (f : Nat → Nat → Dat) (j : Nat) : Bool := sourceB (f j) && (!(j == 0) || ((f j 2).len == 0))
theorem src_all {n : Nat} {f : Nat → Nat → Dat} (h : 1 ≤ n) : (List.range n).all (fun i => srcB f i) = ((List.range n).all (fun i => sourceB (f i)) && ((f 0 2).len == 0)) := by
  rw [Bool.eq_iff_iff, Bool.and_eq_true, List.all_eq_true, List.all_eq_true]
  constructor
  · intro hh
    refine ⟨fun i hi => ?_, ?_⟩
    · have := hh i hi
      unfold srcB at this
      rw [Bool.and_eq_true] at this
      exact this.1
    · have := hh 0 (List.mem_range.2 (by omega))
      unfold srcB at this
      rw [Bool.and_eq_true] at this
      simpa using this.2
  · rintro ⟨h1, h2⟩ i hi
    unfold srcB
    rw [h1 i hi]
    by_cases e : i = 0
    · subst e; rw [h2]; rfl
    · rw [show (i == 0) = false by simpa using e]; rfl
set_option maxRecDepth 100000 in
set_option maxHeartbeats 8000000 in
theorem rightQ_step (q : Nd) (n1 n2 n3 n4 : Nat) (f1 f2 f3 f4 : Nat → Nat → Dat) (h1 : q 1 = .sl n1 13 f1) (h2 : q 2 = .sl n2 3 f2) (h3 : q 3 = .sl n3 10 f3) (h4 : q 4 = .sl n4 11 f4)
    (IH : ∀ e ∈ exprsOf q, RightP e) : RightQP q := by
  intro c0 x1 x2 x3 x4 c5 w e5 r1 r2 r3 r4 hq
  have q1 := hq.f.1
  have q2 := hq.f.2.1
  have q3 := hq.f.2.2.1
  have q4 := hq.f.2.2.2
  have hm := hq.m
  have hv := rightQ_val hq.f
  rw [frame_val h1 h2 h3 h4 e5] at hv
  have hbde : ∀ e ∈ exprsOf q, Bd e := queryBd q1 q2 q3 q4 (by omega) (by omega) (by omega) (by omega)
  have hL : exprsOf q = ((exItems (.sl n1 13 f1) ++ exFrom (.sl n2 3 f2)) ++ (Dat.sl n3 10 f3).els) ++ (Dat.sl n4 11 f4).els := by unfold exprsOf; rw [h1, h2, h3, h4]
  rw [h1] at r1 q1
  rw [h2] at r2 q2
  rw [h3] at r3 q3
  rw [h4] at r4 q4
  have hcnt : (exItems (.sl n1 13 f1)).length + (exFrom (.sl n2 3 f2)).length + n3 + n4 ≤ 1048576 := by
    rw [h1, h2, h3, h4] at hm
    have k1 := msr_n n1 13 f1
    have k0 : (exItems (.sl n1 13 f1)).length ≤ n1 := by
      unfold exItems
      rw [List.length_map]
      exact Nat.le_trans (List.length_filter_le _ _) (Nat.le_of_eq (els_len n1 13 f1))
    have k2 := exFrom_msr q2
    have k3 := msr_n n3 10 f3
    have k4 := msr_n n4 11 f4
    omega
  obtain ⟨a1, p1, rfl⟩ := r1.slice
  obtain ⟨a2, p2, rfl⟩ := r2.slice
  obtain ⟨a3, p3, rfl⟩ := r3.slice
  obtain ⟨a4, p4, rfl⟩ := r4.slice
  have hb1 : n1 ≤ 1048576 ∧ n2 ≤ 1048576 ∧ n3 ≤ 1048576 ∧ n4 ≤ 1048576 := by
    rw [h1, h2, h3, h4] at hm
    have k1 := msr_n n1 13 f1
    have k2 := msr_n n2 3 f2
    have k3 := msr_n n3 10 f3
    have k4 := msr_n n4 11 f4
    omega
  obtain ⟨g1, g2, g3, g4⟩ := hb1
  have hX := fun w h => exprs_spec c0 a1 n1 p1 a2 n2 p2 a3 n3 p3 a4 n4 p4 c5 f1 f2 f3 f4 w (Rd.later r1 h) q1 (Rd.later r2 h) q2 (Rd.later r3 h) q3 (Rd.later r4 h) q4 hcnt
  rw [← hL] at hX
  have hlen : (exprsOf q).length ≤ 1048576 := by
    rw [hL]
    simp only [List.length_append, els_len]
    omega
  have hz0 : ∃ z : Nat → Dat, z = fun _ => .v undef := ⟨_, rfl⟩
  obtain ⟨zz, -⟩ := hz0
  have hin : ∀ j, j < (exprsOf q).length → RightP ((exprsOf q).getD j zz) := fun j hj => IH _ (by rw [List.getD_eq_getElem?_getD, List.getElem?_eq_getElem hj]; exact List.getElem_mem hj)
  have hbd : ∀ j, j < (exprsOf q).length → Bd ((exprsOf q).getD j zz) := fun j hj => hbde _ (by rw [List.getD_eq_getElem?_getD, List.getElem?_eq_getElem hj]; exact List.getElem_mem hj)
  have hall : (exprsOf q).all (foldE rightA) = (List.range (exprsOf q).length).all fun i => foldE rightA ((exprsOf q).getD i zz) := by
    have := range_getD (foldE rightA) zz (exprsOf q)
    rw [show (exprsOf q).all (foldE rightA) = ((exprsOf q).map (foldE rightA)).all id by rw [List.all_map]; rfl, ← this, List.all_map]; rfl
  rw [hall] at hv
  rw [hv]
  clear hv hall hL IH hbde hm hq h1 h2 h3 h4 e5 hcnt
  generalize exprsOf q = L at *
  have hR5 : ∀ r : Bool, Hid (∀ (b1 : 1 ≤ n2), True) := fun _ _ => trivial
  clear hR5
  have tA1 : ∀ w, Calls Tryz.prog 36 #[.int .i64 (n1 : Int), .int .i64 1, .int .i64 12] w (PureE (.bool (decide (1 ≤ n1) && decide (n1 ≤ 12))) w) := fun w => in_any (n1 : Int) 1 12 _ w (by rw [Bool.eq_iff_iff]; simp; omega)
  have tA2 : ∀ w, Calls Tryz.prog 36 #[.int .i64 (n2 : Int), .int .i64 1, .int .i64 3] w (PureE (.bool (decide (1 ≤ n2) && decide (n2 ≤ 3))) w) := fun w => in_any (n2 : Int) 1 3 _ w (by rw [Bool.eq_iff_iff]; simp; omega)
  have t3 : decide ((1 : Int) < (n3 : Int)) = !decide (n3 ≤ 1) := by rw [← decide_not, decide_eq_decide]; omega
  have t4 : decide ((12 : Int) < (n4 : Int)) = !decide (n4 ≤ 12) := by rw [← decide_not, decide_eq_decide]; omega
  have t5 : decide (c5 < (-1 : Int)) = !decide (-1 ≤ c5) := by rw [← decide_not, decide_eq_decide]; omega
  have hpos : (decide (1 ≤ n2) && decide (n2 ≤ 3)) = true → 1 ≤ n2 := fun h => by rw [Bool.and_eq_true, decide_eq_true_eq] at h; exact h.1
  replace hpos := Lib.hid hpos
  generalize (decide (1 ≤ n1) && decide (n1 ≤ 12)) = A1 at tA1 ⊢
  generalize (decide (1 ≤ n2) && decide (n2 ≤ 3)) = A2 at tA2 hpos ⊢
  generalize decide (n3 ≤ 1) = u3 at t3 ⊢
  generalize decide (n4 ≤ 12) = u4 at t4 ⊢
  generalize decide (-1 ≤ c5) = u5 at t5 ⊢
  have H0 := BX.new w 39 #[.bool c0, .slice a1 n1 p1, .slice a2 n2 p2, .slice a3 n3 p3, .slice a4 n4 p4, .int .i64 c5]
  have c1 := H0.box.cell (i := 1) (v := .slice a1 n1 p1) rfl
  have c2 := H0.box.cell (i := 2) (v := .slice a2 n2 p2) rfl
  have c3 := H0.box.cell (i := 3) (v := .slice a3 n3 p3) rfl
  have c4 := H0.box.cell (i := 4) (v := .slice a4 n4 p4) rfl
  have c5' := H0.box.cell (i := 5) (v := .int .i64 c5) rfl
  have c0' := H0.box.cell (i := 0) (v := .bool c0) rfl
  go_enter Tryz.func71, Tryz.ntmps71
  cases A1
  · go_wp2_with fail
    refine (tA1 _).mono ?_
    rintro e w3 ⟨rfl, rfl⟩
    go_wp2_with fail
    go_ret
    exact ⟨by simp, H0.b⟩
  · go_wp2_with fail
    refine (tA1 _).mono ?_
    rintro e w3 ⟨rfl, rfl⟩
    cases A2
    · go_wp2_with fail
      refine (tA2 _).mono ?_
      rintro e w3 ⟨rfl, rfl⟩
      go_wp2_with fail
      go_ret
      exact ⟨by simp, H0.b⟩
    · go_wp2_with fail
      refine (tA2 _).mono ?_
      rintro e w3 ⟨rfl, rfl⟩
      cases u3
      · replace t3 : decide ((1 : Int) < (n3 : Int)) = true := t3
        go_wp2_with fail
        go_ret
        exact ⟨by simp, H0.b⟩
      · replace t3 : decide ((1 : Int) < (n3 : Int)) = false := t3
        cases u4
        · replace t4 : decide ((12 : Int) < (n4 : Int)) = true := t4
          go_wp2_with fail
          go_ret
          exact ⟨by simp, H0.b⟩
        · replace t4 : decide ((12 : Int) < (n4 : Int)) = false := t4
          cases u5
          · replace t5 : decide (c5 < (-1 : Int)) = true := t5
            go_wp2_with fail
            go_ret
            exact ⟨by simp, H0.b⟩
          · replace t5 : decide (c5 < (-1 : Int)) = false := t5
            go_wp2_with fail
            clear tA1 tA2 t3 t4 t5
            clear c1 c2 c3 c4 c5' c0'
            generalize w.alloc (.cells #[.bool c0, .slice a1 n1 p1, .slice a2 n2 p2, .slice a3 n3 p3, .slice a4 n4 p4, .int .i64 c5] 39) = w1 at H0 ⊢
            have hp := hpos.out (by first | rfl | trivial)
            clear hpos
            go_loopw [3] (fun i wr => ∃ j : Nat, j ≤ n1 ∧ i = .int .i64 (j : Int) ∧ BX w wr 39 #[.bool c0, .slice a1 n1 p1, .slice a2 n2 p2, .slice a3 n3 p3, .slice a4 n4 p4, .int .i64 c5] ∧ Hid ((List.range j).all (fun i => itemB (f1 i)) = true)) (fun i _ => n1 - (intOf i).toNat)
            case atStart => exact ⟨0, Nat.zero_le _, rfl, H0, rfl⟩
            case round =>
              obtain ⟨j, hj, rfl, H, HA⟩ := hrel
              have b1 := H.box.cell (i := 1) (v := .slice a1 n1 p1) rfl
              by_cases hlt : j < n1
              · have hlt2 : (j : Int) < (n1 : Int) := by omega
                obtain ⟨gg, oo, rfl, -, hgg, x0, x1, x2, x3, x4, x5, x6, x7, x8, x9, x10, x11, x12, ⟨z0, z1, z2, z3, z4, z5, z6, z7, z8, z9, z10, z11, z12⟩, ⟨e0, ⟨e1, s1⟩, ⟨e2, -⟩, ⟨e3, -⟩, e4, ⟨e5, -⟩, ⟨e6, -⟩, ⟨e7, -⟩, ⟨e8, -⟩, ⟨e9, -⟩, ⟨r10, q10⟩, ⟨r11, q11⟩, ⟨e12, s12⟩⟩⟩ := row_items (r1.later H.b) q1 hlt
                obtain ⟨ax10, nx10, px10, rfl⟩ := r10.slice_of q10 rfl
                obtain ⟨ax11, nx11, px11, rfl⟩ := r11.slice_of q11 rfl
                have HIVp : itemB (f1 j) = (if x0 then optB x1 && (emptyB x12 && sameC exprTy (cut 2 (f1 j)) zeroNd) else emptyB x1 && optB x12) := by unfold itemB; rw [tru_v e0, txt_v e1, txt_v e12]
                have key : sameC exprTy (cut 2 (f1 j)) zeroNd = sameFields x2 0 x3 0 x4 false x5 0 x6 0 x7 ⟨#[]⟩ x8 ⟨#[]⟩ x9 ⟨#[]⟩ (same (f1 j 10) (zeroNd 8) .exprs) (same (f1 j 11) (zeroNd 9) .queries) := sameC_expr e2 rfl e3 rfl e4 rfl e5 rfl e6 rfl e7 rfl e8 rfl e9 rfl
                have hSE : ∀ v, Rd v 0 (.slice ax10 nx10 px10) (f1 j 10) → Rd v 0 (.slice ax11 nx11 px11) (f1 j 11) → Calls Tryz.prog 70 #[.agg #[.int .i64 x2, .int .i64 x3, .bool x4, .int .i64 x5, .int .i64 x6, .string x7, .string x8, .string x9, .slice ax10 nx10 px10, .slice ax11 nx11 px11], .agg #[.int .i64 0, .int .i64 0, .bool false, .int .i64 0, .int .i64 0, .string ⟨#[]⟩, .string ⟨#[]⟩, .string ⟨#[]⟩, .slice none 0 0, .slice none 0 0]] v (BoolE (sameC exprTy (cut 2 (f1 j)) zeroNd) v) := fun v h h' => by
                  rw [key]
                  exact sameE_of (cut 2 (f1 j)) zeroNd (sameAll (f1 j 10)).e (sameAll (f1 j 11)).q x2 x3 x4 x5 x6 x7 x8 x9 _ _ 0 0 false 0 0 ⟨#[]⟩ ⟨#[]⟩ ⟨#[]⟩ _ _ v h q10 h' q11 (zero_rd8 v) (zero_bd.f8) (zero_rd9 v) (zero_bd.f9)
                have hO1 := fun w => opt_spec x1 w s1
                have hO12 := fun w => opt_spec x12 w s12
                have h1 := nempty_eq x1
                have h12 := nempty_eq x12
                have HXF : Hid (itemB (f1 j) = false → (List.range n1).all (fun i => itemB (f1 i)) = false) := fun h => all_upto hlt h
                have HA2 : Hid (itemB (f1 j) = true → Hid ((List.range (j + 1)).all (fun i => itemB (f1 i)) = true)) := fun h => by show _ = true; rw [all_succ, HA.out, h]; rfl
                clear key e0 e1 e2 e3 e4 e5 e6 e7 e8 e9 e12 s1 s12
                generalize sameC exprTy (cut 2 (f1 j)) zeroNd = us at hSE HIVp
                have HI := RowAt.new wr 111 #[.bool x0, .string x1, .int .i64 x2, .int .i64 x3, .bool x4, .int .i64 x5, .int .i64 x6, .string x7, .string x8, .string x9, .slice ax10 nx10 px10, .slice ax11 nx11 px11, .string x12]
                have hal : Below wr.heap.size wr (wr.alloc (.cells #[.bool x0, .string x1, .int .i64 x2, .int .i64 x3, .bool x4, .int .i64 x5, .int .i64 x6, .string x7, .string x8, .string x9, .slice ax10 nx10 px10, .slice ax11 nx11 px11, .string x12] 111)) := (Below.refl _ _).alloc (Nat.le_refl _) _
                have HN := H.next hal
                have hd10 := r10.later hal
                have hd11 := r11.later hal
                generalize hw : wr.alloc (.cells #[.bool x0, .string x1, .int .i64 x2, .int .i64 x3, .bool x4, .int .i64 x5, .int .i64 x6, .string x7, .string x8, .string x9, .slice ax10 nx10 px10, .slice ax11 nx11 px11, .string x12] 111) = wr2 at HI hal HN hd10 hd11
                clear H r10 r11 hal
                have H := HN
                have r10 := hd10
                have r11 := hd11
                clear HN hd10 hd11
                have k0 := HI.cell (i := 0) (v := .bool x0) rfl
                have k1 := HI.cell (i := 1) (v := .string x1) rfl
                have k2 := HI.cell (i := 2) (v := .int .i64 x2) rfl
                have k3 := HI.cell (i := 3) (v := .int .i64 x3) rfl
                have k4 := HI.cell (i := 4) (v := .bool x4) rfl
                have k5 := HI.cell (i := 5) (v := .int .i64 x5) rfl
                have k6 := HI.cell (i := 6) (v := .int .i64 x6) rfl
                have k7 := HI.cell (i := 7) (v := .string x7) rfl
                have k8 := HI.cell (i := 8) (v := .string x8) rfl
                have k9 := HI.cell (i := 9) (v := .string x9) rfl
                have k10 := HI.cell (i := 10) (v := .slice ax10 nx10 px10) rfl
                have k11 := HI.cell (i := 11) (v := .slice ax11 nx11 px11) rfl
                have k12 := HI.cell (i := 12) (v := .string x12) rfl
                cases x0
                · simp only [Bool.false_eq_true, if_false] at HIVp
                  clear hO1 h12 hSE
                  generalize emptyB x1 = m1 at h1 HIVp
                  generalize optB x12 = o12 at hO12 HIVp
                  have HIV := Lib.hid HIVp
                  clear HIVp
                  cases m1
                  · replace h1 : (x1.toList != []) = true := h1
                    have d1 : ¬ x1.toList = [] := by simpa using h1
                    have HX := Lib.hid (HXF.out (by rw [HIV.out]; simp))
                    clear HIV HA2
                    go_wp2_with fail
                    go_ret
                    exact ⟨by rw [HX.out]; rfl, H.b⟩
                  · replace h1 : (x1.toList != []) = false := h1
                    have d1 : x1.toList = [] := by simpa using h1
                    cases o12
                    · go_wp2_with fail
                      refine (hO12 _).mono ?_
                      rintro e w3 ⟨rfl, rfl⟩
                      have HX := Lib.hid (HXF.out (by rw [HIV.out]; simp))
                      clear HIV HA2
                      go_wp2_with fail
                      go_ret
                      exact ⟨by rw [HX.out]; rfl, H.b⟩
                    · go_wp2_with fail
                      refine (hO12 _).mono ?_
                      rintro e w3 ⟨rfl, rfl⟩
                      have HX := Lib.hid (show itemB (f1 j) = true by rw [HIV.out]; simp)
                      clear HIV HXF
                      go_wp2_with fail
                      go_roundw
                      case rel => exact ⟨j + 1, by omega, by go_num, H, HA2.out HX.out⟩
                      case measure => simp [intOf]; omega
                · simp only [if_true] at HIVp
                  clear hO12 h1
                  generalize emptyB x12 = m12 at h12 HIVp
                  generalize optB x1 = o1 at hO1 HIVp
                  have HIV := Lib.hid HIVp
                  clear HIVp
                  cases o1
                  · go_wp2_with fail
                    refine (hO1 _).mono ?_
                    rintro e w3 ⟨rfl, rfl⟩
                    have HX := Lib.hid (HXF.out (by rw [HIV.out]; simp))
                    clear HIV HA2
                    go_wp2_with fail
                    go_ret
                    exact ⟨by rw [HX.out]; rfl, H.b⟩
                  · go_wp2_with fail
                    refine (hO1 _).mono ?_
                    rintro e w3 ⟨rfl, rfl⟩
                    cases m12
                    · replace h12 : (x12.toList != []) = true := h12
                      have d12 : ¬ x12.toList = [] := by simpa using h12
                      have HX := Lib.hid (HXF.out (by rw [HIV.out]; simp))
                      clear HIV HA2
                      go_wp2_with fail
                      go_ret
                      exact ⟨by rw [HX.out]; rfl, H.b⟩
                    · replace h12 : (x12.toList != []) = false := h12
                      have d12 : x12.toList = [] := by simpa using h12
                      go_wp2_with fail
                      refine (hSE _ r10 r11).mono ?_
                      rintro e w3 ⟨rfl, hb⟩
                      replace H := H.next hb
                      have HI2 := HI.later hb
                      clear hb hSE
                      clear k0 k1 k2 k3 k4 k5 k6 k7 k8 k9 k10 k11 k12
                      have k0 := HI2.cell (i := 0) (v := .bool true) rfl
                      have k1 := HI2.cell (i := 1) (v := .string x1) rfl
                      have k2 := HI2.cell (i := 2) (v := .int .i64 x2) rfl
                      have k3 := HI2.cell (i := 3) (v := .int .i64 x3) rfl
                      have k4 := HI2.cell (i := 4) (v := .bool x4) rfl
                      have k5 := HI2.cell (i := 5) (v := .int .i64 x5) rfl
                      have k6 := HI2.cell (i := 6) (v := .int .i64 x6) rfl
                      have k7 := HI2.cell (i := 7) (v := .string x7) rfl
                      have k8 := HI2.cell (i := 8) (v := .string x8) rfl
                      have k9 := HI2.cell (i := 9) (v := .string x9) rfl
                      have k10 := HI2.cell (i := 10) (v := .slice ax10 nx10 px10) rfl
                      have k11 := HI2.cell (i := 11) (v := .slice ax11 nx11 px11) rfl
                      have k12 := HI2.cell (i := 12) (v := .string x12) rfl
                      cases us
                      · have HX := Lib.hid (HXF.out (by rw [HIV.out]; simp))
                        clear HIV HA2
                        go_wp2_with fail
                        go_ret
                        exact ⟨by rw [HX.out]; rfl, H.b⟩
                      · have HX := Lib.hid (show itemB (f1 j) = true by rw [HIV.out]; simp)
                        clear HIV HXF
                        go_wp2_with fail
                        go_roundw
                        case rel => exact ⟨j + 1, by omega, by go_num, H, HA2.out HX.out⟩
                        case measure => simp [intOf]; omega
              · obtain rfl : n1 = j := by omega
                clear hlt hj
                have HI0 := HA
                have H1 := H
                clear HA H
                go_wp2_with fail
                go_loopw [5] (fun i wr => ∃ j : Nat, j ≤ n2 ∧ i = .int .i64 (j : Int) ∧ BX w wr 39 #[.bool c0, .slice a1 n1 p1, .slice a2 n2 p2, .slice a3 n3 p3, .slice a4 n4 p4, .int .i64 c5] ∧ Hid ((List.range j).all (fun i => srcB f2 i) = true)) (fun i _ => n2 - (intOf i).toNat)
                case atStart => exact ⟨0, Nat.zero_le _, rfl, H1, rfl⟩
                case round =>
                  obtain ⟨j, hj, rfl, H, HA⟩ := hrel
                  have b2 := H.box.cell (i := 2) (v := .slice a2 n2 p2) rfl
                  by_cases hlt : j < n2
                  · have hlt2 : (j : Int) < (n2 : Int) := by omega
                    obtain ⟨gg, oo, rfl, -, hgg, x0, x1, x2, ⟨z0, z1, z2⟩, ⟨⟨e0, s0⟩, ⟨e1, s1⟩, ⟨r2_, q2_⟩⟩⟩ := row_sources (r2.later H.b) q2 hlt
                    obtain ⟨ax2, nx2, px2, rfl⟩ := r2_.slice_of q2_ rfl
                    have HIV : srcB f2 j = ((okLen x0.size && (optB x1 && decide (nx2 ≤ 1))) && (!(j == 0) || (nx2 == 0))) := by unfold srcB sourceB; rw [txt_v e0, txt_v e1, r2_.slen q2_ rfl]
                    have hN := fun w => nameOk_spec x0 w s0
                    have hO := fun w => opt_spec x1 w s1
                    have h2 : decide ((1 : Int) < (nx2 : Int)) = !decide (nx2 ≤ 1) := by rw [← decide_not, decide_eq_decide]; omega
                    have h3 : decide ((0 : Int) < (nx2 : Int)) = !(nx2 == 0) := by rw [Bool.eq_iff_iff]; simp; omega
                    have HXF : Hid (srcB f2 j = false → (((List.range n2).all fun i => sourceB (f2 i)) && (((f2 0 2).len == 0) && (true && (true && true)))) = false) := fun h => by
                      have h' := all_upto (p := fun i => srcB f2 i) hlt h
                      rw [src_all hp] at h'
                      rw [show ((f2 0 2).len == 0 && (true && (true && true))) = ((f2 0 2).len == 0) from Bool.and_true _]
                      exact h'
                    have HA2 : Hid (srcB f2 j = true → Hid ((List.range (j + 1)).all (fun i => srcB f2 i) = true)) := fun h => by show _ = true; rw [all_succ, HA.out, h]; rfl
                    replace HIV := Lib.hid HIV
                    clear e0 e1 s0 s1 r2_ q2_
                    generalize okLen x0.size = u0 at hN HIV
                    generalize optB x1 = u1 at hO HIV
                    generalize decide (nx2 ≤ 1) = u2 at h2 HIV
                    generalize (nx2 == 0) = u3 at h3 HIV
                    have HI := RowAt.new wr 113 #[.string x0, .string x1, .slice ax2 nx2 px2]
                    have hal : Below wr.heap.size wr (wr.alloc (.cells #[.string x0, .string x1, .slice ax2 nx2 px2] 113)) := (Below.refl _ _).alloc (Nat.le_refl _) _
                    have HN := H.next hal
                    go_wp2_with fail
                    clear H b2 hal
                    have H := HN
                    clear HN
                    generalize wr.alloc (.cells #[.string x0, .string x1, .slice ax2 nx2 px2] 113) = wr2 at HI H ⊢
                    generalize wr.heap.size = BI at HI ⊢
                    clear z0 z1 z2
                    have k0 := HI.cell (i := 0) (v := .string x0) rfl
                    have k1 := HI.cell (i := 1) (v := .string x1) rfl
                    have k2 := HI.cell (i := 2) (v := .slice ax2 nx2 px2) rfl
                    cases u0
                    · go_wp2_with fail
                      refine (hN _).mono ?_
                      rintro e w3 ⟨rfl, rfl⟩
                      have HX := Lib.hid (HXF.out (by rw [HIV.out]; simp))
                      clear HIV HA2
                      go_wp2_with fail
                      go_ret
                      exact ⟨by rw [HX.out]; simp, H.b⟩
                    · go_wp2_with fail
                      refine (hN _).mono ?_
                      rintro e w3 ⟨rfl, rfl⟩
                      cases u1
                      · go_wp2_with fail
                        refine (hO _).mono ?_
                        rintro e w3 ⟨rfl, rfl⟩
                        have HX := Lib.hid (HXF.out (by rw [HIV.out]; simp))
                        clear HIV HA2
                        go_wp2_with fail
                        go_ret
                        exact ⟨by rw [HX.out]; simp, H.b⟩
                      · go_wp2_with fail
                        refine (hO _).mono ?_
                        rintro e w3 ⟨rfl, rfl⟩
                        cases u2
                        · replace h2 : decide ((1 : Int) < (nx2 : Int)) = true := h2
                          have HX := Lib.hid (HXF.out (by rw [HIV.out]; simp))
                          clear HIV HA2
                          go_wp2_with fail
                          go_ret
                          exact ⟨by rw [HX.out]; simp, H.b⟩
                        · replace h2 : decide ((1 : Int) < (nx2 : Int)) = false := h2
                          by_cases h0 : j = 0
                          · have g0 : ((j : Int) == 0) = true := by simp; omega
                            have g1 : (j == 0) = true := by simpa using h0
                            rw [g1] at HIV
                            clear h0 g1
                            cases u3
                            · replace h3 : decide ((0 : Int) < (nx2 : Int)) = true := h3
                              have d3 : 0 < nx2 := by simpa using h3
                              have HX := Lib.hid (HXF.out (by rw [HIV.out]; simp))
                              clear HIV HA2
                              go_wp2_with fail
                              go_ret
                              exact ⟨by rw [HX.out]; simp, H.b⟩
                            · replace h3 : decide ((0 : Int) < (nx2 : Int)) = false := h3
                              have d3 : ¬ 0 < nx2 := by simpa using h3
                              have HX := Lib.hid (show srcB f2 j = true by rw [HIV.out]; simp)
                              clear HIV HXF
                              go_wp2_with fail
                              go_roundw
                              case rel => exact ⟨j + 1, by omega, by go_num, H, HA2.out HX.out⟩
                              case measure => simp [intOf]; omega
                          · have g0 : ((j : Int) == 0) = false := by simp; omega
                            have g1 : (j == 0) = false := by simpa using h0
                            rw [g1] at HIV
                            clear h0 g1
                            have HX := Lib.hid (show srcB f2 j = true by rw [HIV.out]; simp)
                            clear HIV HXF
                            go_wp2_with fail
                            go_roundw
                            case rel => exact ⟨j + 1, by omega, by go_num, H, HA2.out HX.out⟩
                            case measure => simp [intOf]; omega
                  · obtain rfl : n2 = j := by omega
                    have HS0 : Hid (((List.range n2).all (fun i => sourceB (f2 i)) = true) ∧ ((f2 0 2).len == 0) = true) := by
                      have := HA.out
                      rw [src_all hp, Bool.and_eq_true] at this
                      exact this
                    have H2 := H
                    clear hlt hj HA H
                    have HL : Hid ((((true && (((List.range n1).all fun i => itemB (f1 i)) && (true && (((List.range n2).all fun i => sourceB (f2 i)) && (((f2 0 2).len == 0) && (true && (true && true))))))) && (List.range L.length).all fun i => foldE rightA (L.getD i zz)) = (List.range L.length).all fun i => foldE rightA (L.getD i zz))) := by
                      show _ = _
                      rw [HI0.out, HS0.out.1, HS0.out.2]
                      simp
                    have d1 := H2.box.cell (i := 1) (v := .slice a1 n1 p1) rfl
                    have d2 := H2.box.cell (i := 2) (v := .slice a2 n2 p2) rfl
                    have d3 := H2.box.cell (i := 3) (v := .slice a3 n3 p3) rfl
                    have d4 := H2.box.cell (i := 4) (v := .slice a4 n4 p4) rfl
                    have d5 := H2.box.cell (i := 5) (v := .int .i64 c5) rfl
                    have d0 := H2.box.cell (i := 0) (v := .bool c0) rfl
                    go_wp2_with fail
                    clear d0 d1 d2 d3 d4 d5
                    refine (hX _ H2.b).mono ?_
                    rintro e w5 ⟨v, rfl, hO, hb⟩
                    replace H2 := H2.next hb
                    obtain ⟨a, cap, rfl, hR, hF⟩ := hO.rd hb (by omega) zz
                    clear hb hX hO
                    go_wp2_with fail
                    go_loopw [8] (fun i wr => ∃ j : Nat, j ≤ L.length ∧ i = .int .i64 (j : Int) ∧ BX w wr 39 #[.bool c0, .slice a1 n1 p1, .slice a2 n2 p2, .slice a3 n3 p3, .slice a4 n4 p4, .int .i64 c5] ∧ Below w5.heap.size w5 wr ∧ Hid ((List.range j).all (fun i => foldE rightA (L.getD i zz)) = true)) (fun i _ => L.length - (intOf i).toNat)
                    case atStart => exact ⟨0, Nat.zero_le _, rfl, H2, Below.refl _ _, rfl⟩
                    case round =>
                      obtain ⟨j, hj, rfl, H, hB5, HA⟩ := hrel
                      by_cases hlt : j < L.length
                      · have hlt2 : (j : Int) < (L.length : Int) := by omega
                        obtain ⟨gg, oo, rfl, -, hgg, x0, x1, x2, x3, x4, x5, x6, x7, x8, x9, ⟨z0, z1, z2, z3, z4, z5, z6, z7, z8, z9⟩, ⟨⟨e0, -⟩, ⟨e1, -⟩, e2, ⟨e3, -⟩, ⟨e4, -⟩, ⟨e5, b5⟩, ⟨e6, b6⟩, ⟨e7, b7⟩, ⟨r8, q8_⟩, ⟨r9, q9_⟩⟩⟩ := row_exprs (hR.later hB5) hF hlt
                        have hC := fun w h h' => hin j hlt x0 x1 x2 x3 x4 x5 x6 x7 x8 x9 w e0 e1 e2 e3 e4 e5 e6 e7 b5 b6 b7 h h' (hbd j hlt)
                        clear e0 e1 e2 e3 e4 e5 e6 e7 b5 b6 b7
                        generalize hV : foldE rightA (L.getD j zz) = V at hC
                        have HVV := Lib.hid hV
                        clear hV
                        cases V
                        case false =>
                          have hfin : Hid ((List.range L.length).all (fun i => foldE rightA (L.getD i zz)) = false) := all_upto hlt HVV.out
                          go_wp2_with fail
                          refine (hC _ r8 r9).mono ?_
                          rintro e w6 ⟨rfl, hb⟩
                          replace H := H.next hb
                          clear hb hC
                          go_wp2_with fail
                          go_ret
                          exact ⟨by rw [HL.out, hfin.out]; rfl, H.b⟩
                        case true =>
                          have HA2 : Hid ((List.range (j + 1)).all (fun i => foldE rightA (L.getD i zz)) = true) := by show _ = true; rw [all_succ, HA.out, HVV.out]; rfl
                          go_wp2_with fail
                          refine (hC _ r8 r9).mono ?_
                          rintro e w6 ⟨rfl, hb⟩
                          replace H := H.next hb
                          replace hB5 := hB5.trans (hb.mono hB5.size)
                          clear hb hC
                          go_wp2_with fail
                          go_roundw
                          case rel => exact ⟨j + 1, by omega, by go_num, H, hB5, HA2⟩
                          case measure => simp [intOf]; omega
                      · have ej : j = L.length := by omega
                        subst ej
                        clear hlt hj
                        go_wp2_with fail
                        go_ret
                        exact ⟨by rw [HL.out, HA.out]; rfl, H.b⟩
structure RA (d : Dat) : Prop where
  e : ∀ e, e ∈ d.els → RightP e
  i : ∀ c, c ∈ d.els → RightP (cut 2 c)
  f : ∀ c, c ∈ d.els → ∀ e ∈ (c 2).els, RightP e
  q : ∀ q, q ∈ d.els → RightQP q
theorem rightE_of (c : Nd) (IHk : ∀ e, e ∈ (c 8).els → RightP e) (IHs : ∀ q, q ∈ (c 9).els → RightQP q) : RightP c := by
  intro c0 c1 c2 c3 c4 c5 c6 c7 x8 x9 w e0 e1 e2 e3 e4 e5 e6 e7 b5 b6 b7 r8 r9 hbd
  obtain ⟨n8, k8, f8, h8⟩ := hbd.f8.deep rfl
  obtain ⟨n9, k9, f9, h9⟩ := hbd.f9.deep rfl
  have a8 := h8 ▸ hbd.f8
  have a9 := h9 ▸ hbd.f9
  obtain rfl : k8 = 10 := a8.2.2.1
  obtain rfl : k9 = 6 := a9.2.2.1
  rw [h8] at IHk
  rw [h9] at IHs
  exact right_step c n8 n9 f8 f9 h8 h9 (fun i hi => IHk _ (mem_el hi)) (fun i hi => IHs _ (mem_el hi)) c0 c1 c2 c3 c4 c5 c6 c7 x8 x9 w e0 e1 e2 e3 e4 e5 e6 e7 b5 b6 b7 r8 r9 hbd
theorem rightQ_of (q : Nd) (IH : ∀ e ∈ exprsOf q, RightP e) : RightQP q := by
  intro c0 x1 x2 x3 x4 c5 w e5 r1 r2 r3 r4 hq
  obtain ⟨n1, k1, f1, h1⟩ := hq.f.1.deep rfl
  obtain ⟨n2, k2, f2, h2⟩ := hq.f.2.1.deep rfl
  obtain ⟨n3, k3, f3, h3⟩ := hq.f.2.2.1.deep rfl
  obtain ⟨n4, k4, f4, h4⟩ := hq.f.2.2.2.deep rfl
  have a1 := h1 ▸ hq.f.1
  have a2 := h2 ▸ hq.f.2.1
  have a3 := h3 ▸ hq.f.2.2.1
  have a4 := h4 ▸ hq.f.2.2.2
  obtain rfl : k1 = 13 := a1.2.2.1
  obtain rfl : k2 = 3 := a2.2.2.1
  obtain rfl : k3 = 10 := a3.2.2.1
  obtain rfl : k4 = 11 := a4.2.2.1
  exact rightQ_step q n1 n2 n3 n4 f1 f2 f3 f4 h1 h2 h3 h4 IH c0 x1 x2 x3 x4 c5 w e5 r1 r2 r3 r4 hq
theorem rightAll : ∀ d : Dat, RA d
  | .v x => ⟨fun e he => absurd he (by simp [Dat.els, Dat.len]), fun e he => absurd he (by simp [Dat.els, Dat.len]), fun e he => absurd he (by simp [Dat.els, Dat.len]), fun e he => absurd he (by simp [Dat.els, Dat.len])⟩
  | .sl n k f => by
    have IH : ∀ i j, RA (f i j) := fun i j => rightAll (f i j)
    refine ⟨fun e he => ?_, fun c he => ?_, fun c he => ?_, fun q he => ?_⟩
    · obtain ⟨i, -, rfl⟩ := List.mem_map.1 he
      exact rightE_of _ (IH i 8).e (IH i 9).q
    · obtain ⟨i, -, rfl⟩ := List.mem_map.1 he
      exact rightE_of _ (IH i 10).e (IH i 11).q
    · obtain ⟨i, -, rfl⟩ := List.mem_map.1 he
      exact (IH i 2).e
    · obtain ⟨i, -, rfl⟩ := List.mem_map.1 he
      refine rightQ_of _ fun e he => ?_
      unfold exprsOf at he
      rw [List.mem_append, List.mem_append, List.mem_append] at he
      rcases he with ((he | he) | he) | he
      · obtain ⟨c, hc, rfl⟩ := List.mem_map.1 he
        exact (IH i 1).i c (List.mem_filter.1 hc).1
      · obtain ⟨c, hc, he⟩ := List.mem_flatMap.1 he
        exact (IH i 2).f c hc e he
      · exact (IH i 3).e e he
      · exact (IH i 4).e e he
theorem right_any (c : Nd) : RightP c := rightE_of c (rightAll (c 8)).e (rightAll (c 9)).q
theorem rightQ_any (q : Nd) : RightQP q := rightQ_of q fun e he => by
  unfold exprsOf at he
  rw [List.mem_append, List.mem_append, List.mem_append] at he
  rcases he with ((he | he) | he) | he
  · obtain ⟨c, hc, rfl⟩ := List.mem_map.1 he
    exact (rightAll (q 1)).i c (List.mem_filter.1 hc).1
  · obtain ⟨c, hc, he⟩ := List.mem_flatMap.1 he
    exact (rightAll (q 2)).f c hc e he
  · exact (rightAll (q 3)).e e he
  · exact (rightAll (q 4)).e e he
end Go.Proofs.YtcliijfdlcagoaaGreat
