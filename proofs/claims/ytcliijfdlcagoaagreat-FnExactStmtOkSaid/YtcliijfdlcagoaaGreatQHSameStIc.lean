/- Joined texts: SameStIc. -/
import Derived.Test.YtcliijfdlcagoaaGreatQZAU
import Derived.Test.YtcliijfdlcagoaaGreatQZAT
import Derived.Deep.RegionWith
import Derived.Deep.RegionLaw
namespace Go.Proofs.YtcliijfdlcagoaaGreat
set_option linter.unusedVariables false
set_option linter.unusedSimpArgs false
open Go.RowKit
theorem execOp_ldSt (ρ : Operand → Value) (dst : Option Tmp) (x : Operand) (ty : TypeId) (pos : String) (after : Array Edge) (guard : Option (Nat × Bool)) :
    execOp ρ { dst := dst, op := .load 42 x, type := ty, pos := pos, after := after, guard := guard } = ldX 42 (ρ x) := rfl
theorem execOp_ldQ_ (ρ : Operand → Value) (dst : Option Tmp) (x : Operand) (ty : TypeId) (pos : String) (after : Array Edge) (guard : Option (Nat × Bool)) :
    execOp ρ { dst := dst, op := .load 39 x, type := ty, pos := pos, after := after, guard := guard } = ldX 39 (ρ x) := rfl
theorem ldSt_row {W : World} {b : Nat} {ys : List Value} (h : RowAt W b 42 ys.toArray) (hl : ys.length = 12) :
    (ldX 42 (.pointer (some ⟨b, 0, none⟩))).run Tryz.prog W = .ok (.value (.agg ys.toArray)) W :=
  run_ldX (P := Tryz.prog) (o := 0) hl Tryz.isAgg42 Tryz.sizeOf42 fun k u hk => by rw [Nat.zero_add]; exact h.cell (i := k) (by simpa using hk)
theorem ldStQ_row {W : World} {b : Nat} {ys zs : List Value} (h : RowAt W b 42 ys.toArray) (hl : zs.length = 6) (hz : zs = (ys.drop 1).take 6) :
    (ldX 39 (.pointer (some ⟨b, 1, none⟩))).run Tryz.prog W = .ok (.value (.agg zs.toArray)) W :=
  run_ldX (P := Tryz.prog) (o := 1) hl Tryz.isAgg39 Tryz.sizeOf39 fun k u hk => h.cell (i := 1 + k) (by
    subst hz
    by_cases hk6 : k < 6
    · rw [List.getElem?_take, if_pos hk6, List.getElem?_drop] at hk
      simpa using hk
    · rw [List.getElem?_eq_none (by omega)] at hk; cases hk)
attribute [local go_sem ↓] execOp_ldSt execOp_ldQ_
set_option maxRecDepth 100000 in
set_option maxHeartbeats 16000000 in
theorem SameStmt_any (w0 : World) (c d : Nd) (us vs : List Value) (W : World) (hys : OutK stTy w0 us [c]) (hys' : OutK stTy w0 vs [d]) (hb0 : Below w0.heap.size w0 W) (hc : BdS c) (hd : BdS d) :
    Calls Tryz.prog 20 #[.agg us.toArray, .agg vs.toArray] W (BoolE (stmtSame c d) W) := by
  have CF := fun w' h => sameOutside_any w0 c d us vs w' hys hys' h
  have CA := fun w' h => outside_any w0 w' c us hys h hc
  have CB := fun w' h => outside_any w0 w' d vs hys' h hd
  have hv := stmt_same hc hd
  have hle := hc.outLen
  have hsl : outSame c d = true → (outsideOf c).length = (outsideOf d).length := out_len
  have hws : wsum (List.zipWith pairT (outsideOf c) (outsideOf d)) ≤ 2000000 := by
    have h1 := wsum_zip (outsideOf c) (outsideOf d)
    have h2 := hc.wsum
    unfold stmtExprs at h2
    rw [wsum_append] at h2
    omega
  have hbd : ∀ t ∈ List.zipWith pairT (outsideOf c) (outsideOf d), BdT t := fun t ht => by
    obtain ⟨a, ha, b, hb, rfl⟩ := mem_zip ht
    exact bdT_pair (hc.bd a (List.mem_append_right _ ha)) (hd.bd b (List.mem_append_right _ hb))
  obtain ⟨c0, c1, xa2, xn2, xp2, xa3, xn3, xp3, xa4, xn4, xp4, xa5, xn5, xp5, c6, c7, xa8, xn8, xp8, xa9, xn9, xp9, xa10, xn10, xp10, xa11, xn11, xp11, rfl, -, e1, ⟨r2, q2⟩, ⟨r3, q3⟩, ⟨r4, q4⟩, ⟨r5, q5⟩, ⟨e6, b6⟩, -⟩ := hys.stmtRow
  obtain ⟨s0, s1, ya2, yn2, yp2, ya3, yn3, yp3, ya4, yn4, yp4, ya5, yn5, yp5, s6, s7, ya8, yn8, yp8, ya9, yn9, yp9, ya10, yn10, yp10, ya11, yn11, yp11, rfl, -, l1, ⟨k2, p2⟩, ⟨k3, p3⟩, ⟨k4, p4⟩, ⟨k5, p5⟩, ⟨l6, h6⟩, -⟩ := hys'.stmtRow
  have o1 : OutK (rowTy .queries) w0 [.bool c1, .slice xa2 xn2 xp2, .slice xa3 xn3 xp3, .slice xa4 xn4 xp4, .slice xa5 xn5 xp5, .int .i64 c6] [cut 1 c] := cut1_out e1 r2 q2 r3 q3 r4 q4 r5 q5 e6 b6
  have o2 : OutK (rowTy .queries) w0 [.bool s1, .slice ya2 yn2 yp2, .slice ya3 yn3 yp3, .slice ya4 yn4 yp4, .slice ya5 yn5 yp5, .int .i64 s6] [cut 1 d] := cut1_out l1 k2 p2 k3 p3 k4 p4 k5 p5 l6 h6
  have CQ := fun w' h => SameQuery_any w0 (cut 1 c) (cut 1 d) _ _ w' o1 o2 h hc.query hd.query
  have RA : RowAt ((W.alloc (.cells #[.int .i64 c0, .bool c1, .slice xa2 xn2 xp2, .slice xa3 xn3 xp3, .slice xa4 xn4 xp4, .slice xa5 xn5 xp5, .int .i64 c6, .string c7, .slice xa8 xn8 xp8, .slice xa9 xn9 xp9, .slice xa10 xn10 xp10, .slice xa11 xn11 xp11] 42)).alloc (.cells #[.int .i64 s0, .bool s1, .slice ya2 yn2 yp2, .slice ya3 yn3 yp3, .slice ya4 yn4 yp4, .slice ya5 yn5 yp5, .int .i64 s6, .string s7, .slice ya8 yn8 yp8, .slice ya9 yn9 yp9, .slice ya10 yn10 yp10, .slice ya11 yn11 yp11] 42)) W.heap.size 42 #[.int .i64 c0, .bool c1, .slice xa2 xn2 xp2, .slice xa3 xn3 xp3, .slice xa4 xn4 xp4, .slice xa5 xn5 xp5, .int .i64 c6, .string c7, .slice xa8 xn8 xp8, .slice xa9 xn9 xp9, .slice xa10 xn10 xp10, .slice xa11 xn11 xp11] := (RowAt.new W 42 #[.int .i64 c0, .bool c1, .slice xa2 xn2 xp2, .slice xa3 xn3 xp3, .slice xa4 xn4 xp4, .slice xa5 xn5 xp5, .int .i64 c6, .string c7, .slice xa8 xn8 xp8, .slice xa9 xn9 xp9, .slice xa10 xn10 xp10, .slice xa11 xn11 xp11]).alloc (.cells #[.int .i64 s0, .bool s1, .slice ya2 yn2 yp2, .slice ya3 yn3 yp3, .slice ya4 yn4 yp4, .slice ya5 yn5 yp5, .int .i64 s6, .string s7, .slice ya8 yn8 yp8, .slice ya9 yn9 yp9, .slice ya10 yn10 yp10, .slice ya11 yn11 yp11] 42)
  have RB : RowAt ((W.alloc (.cells #[.int .i64 c0, .bool c1, .slice xa2 xn2 xp2, .slice xa3 xn3 xp3, .slice xa4 xn4 xp4, .slice xa5 xn5 xp5, .int .i64 c6, .string c7, .slice xa8 xn8 xp8, .slice xa9 xn9 xp9, .slice xa10 xn10 xp10, .slice xa11 xn11 xp11] 42)).alloc (.cells #[.int .i64 s0, .bool s1, .slice ya2 yn2 yp2, .slice ya3 yn3 yp3, .slice ya4 yn4 yp4, .slice ya5 yn5 yp5, .int .i64 s6, .string s7, .slice ya8 yn8 yp8, .slice ya9 yn9 yp9, .slice ya10 yn10 yp10, .slice ya11 yn11 yp11] 42)) (W.heap.size + 1) 42 #[.int .i64 s0, .bool s1, .slice ya2 yn2 yp2, .slice ya3 yn3 yp3, .slice ya4 yn4 yp4, .slice ya5 yn5 yp5, .int .i64 s6, .string s7, .slice ya8 yn8 yp8, .slice ya9 yn9 yp9, .slice ya10 yn10 yp10, .slice ya11 yn11 yp11] := RowAt.new1 W (.cells #[.int .i64 c0, .bool c1, .slice xa2 xn2 xp2, .slice xa3 xn3 xp3, .slice xa4 xn4 xp4, .slice xa5 xn5 xp5, .int .i64 c6, .string c7, .slice xa8 xn8 xp8, .slice xa9 xn9 xp9, .slice xa10 xn10 xp10, .slice xa11 xn11 xp11] 42) 42 #[.int .i64 s0, .bool s1, .slice ya2 yn2 yp2, .slice ya3 yn3 yp3, .slice ya4 yn4 yp4, .slice ya5 yn5 yp5, .int .i64 s6, .string s7, .slice ya8 yn8 yp8, .slice ya9 yn9 yp9, .slice ya10 yn10 yp10, .slice ya11 yn11 yp11]
  have HB : Below W.heap.size W ((W.alloc (.cells #[.int .i64 c0, .bool c1, .slice xa2 xn2 xp2, .slice xa3 xn3 xp3, .slice xa4 xn4 xp4, .slice xa5 xn5 xp5, .int .i64 c6, .string c7, .slice xa8 xn8 xp8, .slice xa9 xn9 xp9, .slice xa10 xn10 xp10, .slice xa11 xn11 xp11] 42)).alloc (.cells #[.int .i64 s0, .bool s1, .slice ya2 yn2 yp2, .slice ya3 yn3 yp3, .slice ya4 yn4 yp4, .slice ya5 yn5 yp5, .int .i64 s6, .string s7, .slice ya8 yn8 yp8, .slice ya9 yn9 yp9, .slice ya10 yn10 yp10, .slice ya11 yn11 yp11] 42)) := ((Below.refl W.heap.size W).alloc (Nat.le_refl _) (.cells #[.int .i64 c0, .bool c1, .slice xa2 xn2 xp2, .slice xa3 xn3 xp3, .slice xa4 xn4 xp4, .slice xa5 xn5 xp5, .int .i64 c6, .string c7, .slice xa8 xn8 xp8, .slice xa9 xn9 xp9, .slice xa10 xn10 xp10, .slice xa11 xn11 xp11] 42)).alloc (by simp) (.cells #[.int .i64 s0, .bool s1, .slice ya2 yn2 yp2, .slice ya3 yn3 yp3, .slice ya4 yn4 yp4, .slice ya5 yn5 yp5, .int .i64 s6, .string s7, .slice ya8 yn8 yp8, .slice ya9 yn9 yp9, .slice ya10 yn10 yp10, .slice ya11 yn11 yp11] 42)
  rw [hv]
  clear hys hys' hc hd hv o1 o2 e1 r2 q2 r3 q3 r4 q4 r5 q5 e6 b6 l1 k2 p2 k3 p3 k4 p4 k5 p5 l6 h6
  have hz0 : outSame c d = true → allZ (sameC exprTy) (outsideOf c) (outsideOf d) = (List.zipWith pairT (outsideOf c) (outsideOf d)).all fun x => sameC exprTy x (cut 10 x) := fun h => by
    unfold allZ
    rw [all_zip, show ((outsideOf c).length == (outsideOf d).length) = true by simpa using hsl h, Bool.true_and]
  obtain ⟨Z, hZ⟩ : ∃ Z, Z = (outSame c d && (sameC (rowTy .queries) (cut 1 c) (cut 1 d) && allZ (sameC exprTy) (outsideOf c) (outsideOf d))) := ⟨_, rfl⟩
  rw [← hZ]
  go_enter Tryz.func20, Tryz.ntmps20
  go_wp2_with fail
  generalize (W.alloc (.cells #[.int .i64 c0, .bool c1, .slice xa2 xn2 xp2, .slice xa3 xn3 xp3, .slice xa4 xn4 xp4, .slice xa5 xn5 xp5, .int .i64 c6, .string c7, .slice xa8 xn8 xp8, .slice xa9 xn9 xp9, .slice xa10 xn10 xp10, .slice xa11 xn11 xp11] 42)).alloc (.cells #[.int .i64 s0, .bool s1, .slice ya2 yn2 yp2, .slice ya3 yn3 yp3, .slice ya4 yn4 yp4, .slice ya5 yn5 yp5, .int .i64 s6, .string s7, .slice ya8 yn8 yp8, .slice ya9 yn9 yp9, .slice ya10 yn10 yp10, .slice ya11 yn11 yp11] 42) = w1 at HB RA RB ⊢
  have hz := hb0.trans (HB.mono hb0.size)
  have RAd : RowAt w1.drew W.heap.size 42 #[.int .i64 c0, .bool c1, .slice xa2 xn2 xp2, .slice xa3 xn3 xp3, .slice xa4 xn4 xp4, .slice xa5 xn5 xp5, .int .i64 c6, .string c7, .slice xa8 xn8 xp8, .slice xa9 xn9 xp9, .slice xa10 xn10 xp10, .slice xa11 xn11 xp11] := RA
  have RBd : RowAt w1.drew (W.heap.size + 1) 42 #[.int .i64 s0, .bool s1, .slice ya2 yn2 yp2, .slice ya3 yn3 yp3, .slice ya4 yn4 yp4, .slice ya5 yn5 yp5, .int .i64 s6, .string s7, .slice ya8 yn8 yp8, .slice ya9 yn9 yp9, .slice ya10 yn10 yp10, .slice ya11 yn11 yp11] := RB
  have XS := ldSt_row (ys := [.int .i64 c0, .bool c1, .slice xa2 xn2 xp2, .slice xa3 xn3 xp3, .slice xa4 xn4 xp4, .slice xa5 xn5 xp5, .int .i64 c6, .string c7, .slice xa8 xn8 xp8, .slice xa9 xn9 xp9, .slice xa10 xn10 xp10, .slice xa11 xn11 xp11]) RAd rfl
  have XQ := ldStQ_row (ys := [.int .i64 c0, .bool c1, .slice xa2 xn2 xp2, .slice xa3 xn3 xp3, .slice xa4 xn4 xp4, .slice xa5 xn5 xp5, .int .i64 c6, .string c7, .slice xa8 xn8 xp8, .slice xa9 xn9 xp9, .slice xa10 xn10 xp10, .slice xa11 xn11 xp11]) (zs := [.bool c1, .slice xa2 xn2 xp2, .slice xa3 xn3 xp3, .slice xa4 xn4 xp4, .slice xa5 xn5 xp5, .int .i64 c6]) RAd rfl rfl
  have YS := ldSt_row (ys := [.int .i64 s0, .bool s1, .slice ya2 yn2 yp2, .slice ya3 yn3 yp3, .slice ya4 yn4 yp4, .slice ya5 yn5 yp5, .int .i64 s6, .string s7, .slice ya8 yn8 yp8, .slice ya9 yn9 yp9, .slice ya10 yn10 yp10, .slice ya11 yn11 yp11]) RBd rfl
  have YQ := ldStQ_row (ys := [.int .i64 s0, .bool s1, .slice ya2 yn2 yp2, .slice ya3 yn3 yp3, .slice ya4 yn4 yp4, .slice ya5 yn5 yp5, .int .i64 s6, .string s7, .slice ya8 yn8 yp8, .slice ya9 yn9 yp9, .slice ya10 yn10 yp10, .slice ya11 yn11 yp11]) (zs := [.bool s1, .slice ya2 yn2 yp2, .slice ya3 yn3 yp3, .slice ya4 yn4 yp4, .slice ya5 yn5 yp5, .int .i64 s6]) RBd rfl rfl
  have HR1 := Lib.hid RA
  have HR2 := Lib.hid RB
  have HBB := Lib.hid HB
  have HLE := Lib.hid hle
  clear hle RA RB HB RAd RBd
  generalize hV : outSame c d = V at hsl hz0 CF
  generalize hQ : sameC (rowTy .queries) (cut 1 c) (cut 1 d) = VQ at CQ
  cases V
  case false =>
    have HZ := Lib.hid (show Z = false by rw [hZ, hV]; rfl)
    clear hsl CA CB CQ hws hbd HLE hZ hz0 hV hQ
    first | go_region_law (first
      | (go_simp; go_at_call 46; refine (CF _ (by first | exact hz | exact hz.drew)).mono ?_; clear CF; rintro e w2 ⟨rfl, hb2⟩; have hb2' : Below w1.heap.size w1 w2 := (by first | exact hb2 | exact (Below.refl _ _).drew.trans hb2); clear XS XQ YS YQ; go_simp)) | fail
    all_goals
      have hf := HBB.out.trans (hb2'.mono HBB.out.size)
      go_wp2_with fail
      go_ret
      exact ⟨by rw [HZ.out]; rfl, hf⟩
  case true =>
    have hl := hsl rfl
    have HL := Lib.hid hl
    cases VQ
    case false =>
      have HZ := Lib.hid (show Z = false by rw [hZ, hV, hQ]; rfl)
      clear hsl CA CB hws hbd HLE hZ hz0 hV hQ hl HL
      first | go_region_law (first
        | (go_simp; go_at_call 46; refine (CF _ (by first | exact hz | exact hz.drew)).mono ?_; clear CF; rintro e w2 ⟨rfl, hb2⟩; have hb2' : Below w1.heap.size w1 w2 := (by first | exact hb2 | exact (Below.refl _ _).drew.trans hb2); have RA := HR1.out.later hb2'; have RB := HR2.out.later hb2'; have hz2 := hz.trans (hb2'.mono hz.size); clear XS XQ YS YQ; have XS := ldSt_row (ys := [.int .i64 c0, .bool c1, .slice xa2 xn2 xp2, .slice xa3 xn3 xp3, .slice xa4 xn4 xp4, .slice xa5 xn5 xp5, .int .i64 c6, .string c7, .slice xa8 xn8 xp8, .slice xa9 xn9 xp9, .slice xa10 xn10 xp10, .slice xa11 xn11 xp11]) RA rfl; have XQ := ldStQ_row (ys := [.int .i64 c0, .bool c1, .slice xa2 xn2 xp2, .slice xa3 xn3 xp3, .slice xa4 xn4 xp4, .slice xa5 xn5 xp5, .int .i64 c6, .string c7, .slice xa8 xn8 xp8, .slice xa9 xn9 xp9, .slice xa10 xn10 xp10, .slice xa11 xn11 xp11]) (zs := [.bool c1, .slice xa2 xn2 xp2, .slice xa3 xn3 xp3, .slice xa4 xn4 xp4, .slice xa5 xn5 xp5, .int .i64 c6]) RA rfl rfl; have YS := ldSt_row (ys := [.int .i64 s0, .bool s1, .slice ya2 yn2 yp2, .slice ya3 yn3 yp3, .slice ya4 yn4 yp4, .slice ya5 yn5 yp5, .int .i64 s6, .string s7, .slice ya8 yn8 yp8, .slice ya9 yn9 yp9, .slice ya10 yn10 yp10, .slice ya11 yn11 yp11]) RB rfl; have YQ := ldStQ_row (ys := [.int .i64 s0, .bool s1, .slice ya2 yn2 yp2, .slice ya3 yn3 yp3, .slice ya4 yn4 yp4, .slice ya5 yn5 yp5, .int .i64 s6, .string s7, .slice ya8 yn8 yp8, .slice ya9 yn9 yp9, .slice ya10 yn10 yp10, .slice ya11 yn11 yp11]) (zs := [.bool s1, .slice ya2 yn2 yp2, .slice ya3 yn3 yp3, .slice ya4 yn4 yp4, .slice ya5 yn5 yp5, .int .i64 s6]) RB rfl rfl; clear RA RB; go_simp)
        | (go_simp; go_at_call 47; refine (CQ _ (by first | exact hz2 | exact hz2.drew)).mono ?_; clear CQ; rintro e w3 ⟨rfl, hb3⟩; have hb3' : Below w2.heap.size w2 w3 := (by first | exact hb3 | exact (Below.refl _ _).drew.trans hb3); clear XS XQ YS YQ; go_simp)) | fail
      all_goals
        have hf := HBB.out.trans ((hb2'.trans (hb3'.mono hb2'.size)).mono HBB.out.size)
        go_wp2_with fail
        go_ret
        exact ⟨by rw [HZ.out]; rfl, hf⟩
    case true =>
      have HZ := Lib.hid (show Z = (List.zipWith pairT (outsideOf c) (outsideOf d)).all fun x => sameC exprTy x (cut 10 x) by rw [hZ, hV, hQ, hz0 rfl]; rfl)
      clear hsl hl hV hz0 hZ hQ
      generalize outsideOf c = LA at *
      generalize outsideOf d = LB at *
      first | go_region_law (first
        | (go_simp; go_at_call 46; refine (CF _ (by first | exact hz | exact hz.drew)).mono ?_; clear CF; rintro e w2 ⟨rfl, hb2⟩; have hb2' : Below w1.heap.size w1 w2 := (by first | exact hb2 | exact (Below.refl _ _).drew.trans hb2); have RA := HR1.out.later hb2'; have RB := HR2.out.later hb2'; have hz2 := hz.trans (hb2'.mono hz.size); clear XS XQ YS YQ; have XS := ldSt_row (ys := [.int .i64 c0, .bool c1, .slice xa2 xn2 xp2, .slice xa3 xn3 xp3, .slice xa4 xn4 xp4, .slice xa5 xn5 xp5, .int .i64 c6, .string c7, .slice xa8 xn8 xp8, .slice xa9 xn9 xp9, .slice xa10 xn10 xp10, .slice xa11 xn11 xp11]) RA rfl; have XQ := ldStQ_row (ys := [.int .i64 c0, .bool c1, .slice xa2 xn2 xp2, .slice xa3 xn3 xp3, .slice xa4 xn4 xp4, .slice xa5 xn5 xp5, .int .i64 c6, .string c7, .slice xa8 xn8 xp8, .slice xa9 xn9 xp9, .slice xa10 xn10 xp10, .slice xa11 xn11 xp11]) (zs := [.bool c1, .slice xa2 xn2 xp2, .slice xa3 xn3 xp3, .slice xa4 xn4 xp4, .slice xa5 xn5 xp5, .int .i64 c6]) RA rfl rfl; have YS := ldSt_row (ys := [.int .i64 s0, .bool s1, .slice ya2 yn2 yp2, .slice ya3 yn3 yp3, .slice ya4 yn4 yp4, .slice ya5 yn5 yp5, .int .i64 s6, .string s7, .slice ya8 yn8 yp8, .slice ya9 yn9 yp9, .slice ya10 yn10 yp10, .slice ya11 yn11 yp11]) RB rfl; have YQ := ldStQ_row (ys := [.int .i64 s0, .bool s1, .slice ya2 yn2 yp2, .slice ya3 yn3 yp3, .slice ya4 yn4 yp4, .slice ya5 yn5 yp5, .int .i64 s6, .string s7, .slice ya8 yn8 yp8, .slice ya9 yn9 yp9, .slice ya10 yn10 yp10, .slice ya11 yn11 yp11]) (zs := [.bool s1, .slice ya2 yn2 yp2, .slice ya3 yn3 yp3, .slice ya4 yn4 yp4, .slice ya5 yn5 yp5, .int .i64 s6]) RB rfl rfl; have HRA := Lib.hid RA; have HRB := Lib.hid RB; clear RA RB; go_simp)
        | (go_simp; go_at_call 47; refine (CQ _ (by first | exact hz2 | exact hz2.drew)).mono ?_; clear CQ; rintro e w3 ⟨rfl, hb3⟩; have hb3' : Below w2.heap.size w2 w3 := (by first | exact hb3 | exact (Below.refl _ _).drew.trans hb3); have RA := HRA.out.later hb3'; have RB := HRB.out.later hb3'; have hz3 := hz2.trans (hb3'.mono hz2.size); clear XS XQ YS YQ; have XS := ldSt_row (ys := [.int .i64 c0, .bool c1, .slice xa2 xn2 xp2, .slice xa3 xn3 xp3, .slice xa4 xn4 xp4, .slice xa5 xn5 xp5, .int .i64 c6, .string c7, .slice xa8 xn8 xp8, .slice xa9 xn9 xp9, .slice xa10 xn10 xp10, .slice xa11 xn11 xp11]) RA rfl; have XQ := ldStQ_row (ys := [.int .i64 c0, .bool c1, .slice xa2 xn2 xp2, .slice xa3 xn3 xp3, .slice xa4 xn4 xp4, .slice xa5 xn5 xp5, .int .i64 c6, .string c7, .slice xa8 xn8 xp8, .slice xa9 xn9 xp9, .slice xa10 xn10 xp10, .slice xa11 xn11 xp11]) (zs := [.bool c1, .slice xa2 xn2 xp2, .slice xa3 xn3 xp3, .slice xa4 xn4 xp4, .slice xa5 xn5 xp5, .int .i64 c6]) RA rfl rfl; have YS := ldSt_row (ys := [.int .i64 s0, .bool s1, .slice ya2 yn2 yp2, .slice ya3 yn3 yp3, .slice ya4 yn4 yp4, .slice ya5 yn5 yp5, .int .i64 s6, .string s7, .slice ya8 yn8 yp8, .slice ya9 yn9 yp9, .slice ya10 yn10 yp10, .slice ya11 yn11 yp11]) RB rfl; have YQ := ldStQ_row (ys := [.int .i64 s0, .bool s1, .slice ya2 yn2 yp2, .slice ya3 yn3 yp3, .slice ya4 yn4 yp4, .slice ya5 yn5 yp5, .int .i64 s6, .string s7, .slice ya8 yn8 yp8, .slice ya9 yn9 yp9, .slice ya10 yn10 yp10, .slice ya11 yn11 yp11]) (zs := [.bool s1, .slice ya2 yn2 yp2, .slice ya3 yn3 yp3, .slice ya4 yn4 yp4, .slice ya5 yn5 yp5, .int .i64 s6]) RB rfl rfl; have HRC := Lib.hid RB; clear RA RB; go_simp)
        | (go_simp; go_at_call 50; refine (CA _ (by first | exact hz3 | exact hz3.drew)).mono ?_; clear CA; rintro e w4 ⟨va, rfl, hpa, hb4⟩; have hb4' : Below w3.heap.size w3 w4 := (by first | exact hb4 | exact (Below.refl _ _).drew.trans hb4); have RB := HRC.out.later hb4'; have hz4 := hz3.trans (hb4'.mono hz3.size); clear XS XQ YS YQ; have YS := ldSt_row (ys := [.int .i64 s0, .bool s1, .slice ya2 yn2 yp2, .slice ya3 yn3 yp3, .slice ya4 yn4 yp4, .slice ya5 yn5 yp5, .int .i64 s6, .string s7, .slice ya8 yn8 yp8, .slice ya9 yn9 yp9, .slice ya10 yn10 yp10, .slice ya11 yn11 yp11]) RB rfl; have YQ := ldStQ_row (ys := [.int .i64 s0, .bool s1, .slice ya2 yn2 yp2, .slice ya3 yn3 yp3, .slice ya4 yn4 yp4, .slice ya5 yn5 yp5, .int .i64 s6, .string s7, .slice ya8 yn8 yp8, .slice ya9 yn9 yp9, .slice ya10 yn10 yp10, .slice ya11 yn11 yp11]) (zs := [.bool s1, .slice ya2 yn2 yp2, .slice ya3 yn3 yp3, .slice ya4 yn4 yp4, .slice ya5 yn5 yp5, .int .i64 s6]) RB rfl rfl; obtain ⟨xa, pa, rfl⟩ := hpa.slice; clear RB; go_simp)
        | (go_simp; go_at_call 50; refine (CB _ (by first | exact hz4 | exact hz4.drew)).mono ?_; clear CB; rintro e w5 ⟨vb, rfl, hpb, hb5⟩; have hb5' : Below w4.heap.size w4 w5 := (by first | exact hb5 | exact (Below.refl _ _).drew.trans hb5); have hz5 := hz4.trans (hb5'.mono hz4.size); clear YS YQ; obtain ⟨xb, pb, rfl⟩ := hpb.slice; have CP := paired_any w0 w5 xa pa xb pb LA LB ((hpa.later hb5').lk fun _ _ _ => trivial) (hpb.lk fun _ _ _ => trivial) HL.out (by have := HLE.out; omega); go_simp)
        | (go_simp; go_at_call 49; refine CP.mono ?_; clear CP; rintro e w6 ⟨v6, rfl, hl6, hb6⟩; have hz6 := hz5.trans (hb6.mono hz5.size); have CS := allSame_any w0 w6 _ v6 hz6 (hl6.keep (Nat.le_refl _) (fun _ _ _ => rfl) fun _ _ _ => trivial) hbd hws; go_simp)
        | (go_simp; go_at_call 48; refine CS.mono ?_; clear CS; rintro e w7 ⟨rfl, hb7⟩; go_simp)) | fail
      all_goals
        have h3 := HBB.out.trans ((hb2'.trans (hb3'.mono hb2'.size)).mono HBB.out.size)
        have h4 := h3.trans (hb4'.mono h3.size)
        have h5 := h4.trans (hb5'.mono h4.size)
        have h6 := h5.trans (hb6.mono h5.size)
        have hf := h6.trans (hb7.mono h6.size)
        go_wp2_with fail
        go_ret
        exact ⟨by rw [HZ.out]; rfl, hf⟩
end Go.Proofs.YtcliijfdlcagoaaGreat
