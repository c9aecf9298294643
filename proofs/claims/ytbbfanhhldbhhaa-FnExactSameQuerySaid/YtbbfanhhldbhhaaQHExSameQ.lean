/- Joined texts: ExSameQ. -/
import Derived.Test.YtbbfanhhldbhhaaQHToS
import Derived.Test.YtbbfanhhldbhhaaQHSzS
import Derived.Test.YtbbfanhhldbhhaaQHEqS
import Derived.Test.YtbbfanhhldbhhaaQHExLaw
import Derived.Deep.RegionWith
/- The walks of the exact laws on two trees that are compared. -/
namespace Go.Proofs.Ytbbfanhhldbhhaa
open Go.RowKit

set_option maxRecDepth 100000 in
set_option maxHeartbeats 8000000 in
theorem ex_SameQuery (V : Bool) (c d : Nat → Dat) (c0 : Bool) (c1 : Value) (c2 : Value) (c3 : Value) (c4 : Value) (c5 : Int) (s0 : Bool) (s1 : Value) (s2 : Value) (s3 : Value) (s4 : Value) (s5 : Int) (w : World) (r1 : Rd w 0 c1 (c 1)) (q1 : Fits (c 1) .items) (r2 : Rd w 0 c2 (c 2)) (q2 : Fits (c 2) .sources) (r3 : Rd w 0 c3 (c 3)) (q3 : Fits (c 3) .exprs) (r4 : Rd w 0 c4 (c 4)) (q4 : Fits (c 4) .keys)  (k1 : Rd w 0 s1 (d 1)) (l1 : Fits (d 1) .items) (k2 : Rd w 0 s2 (d 2)) (l2 : Fits (d 2) .sources) (k3 : Rd w 0 s3 (d 3)) (l3 : Fits (d 3) .exprs) (k4 : Rd w 0 s4 (d 4)) (l4 : Fits (d 4) .keys) 
    (hS : ∀ (X1 X2 X3 X4 Y1 Y2 Y3 Y4 : Value) (v : World), Rd v 0 X1 (c 1) → Rd v 0 X2 (c 2) → Rd v 0 X3 (c 3) → Rd v 0 X4 (c 4) → Rd v 0 Y1 (d 1) → Rd v 0 Y2 (d 2) → Rd v 0 Y3 (d 3) → Rd v 0 Y4 (d 4) → Calls Try.prog 29 #[.agg #[.bool c0, X1, X2, X3, X4, .int .i64 c5], .agg #[.bool s0, Y1, Y2, Y3, Y4, .int .i64 s5]] v (BoolE V v))
    (hI : msr (c 1) + msr (c 2) + msr (c 3) + msr (c 4) ≤ 1048576 → msr (d 1) + msr (d 2) + msr (d 3) + msr (d 4) ≤ 1048576 → ∀ (X1 X2 X3 X4 Y1 Y2 Y3 Y4 : Value) (v : World), Rd v 0 X1 (c 1) → Rd v 0 X2 (c 2) → Rd v 0 X3 (c 3) → Rd v 0 X4 (c 4) → Rd v 0 Y1 (d 1) → Rd v 0 Y2 (d 2) → Rd v 0 Y3 (d 3) → Rd v 0 Y4 (d 4) → Calls Try.prog 30 #[.agg #[.bool c0, X1, X2, X3, X4, .int .i64 c5], .agg #[.bool s0, Y1, Y2, Y3, Y4, .int .i64 s5]] v (BoolE V v)) :
    Calls Try.prog 6 #[.agg #[.bool c0, c1, c2, c3, c4, .int .i64 c5], .agg #[.bool s0, s1, s2, s3, s4, .int .i64 s5]] w (BoolE true w) := by
  have hZ := fun w h => szQuery_any c0 c1 c2 c3 c4 c5 (c 1) (c 2) (c 3) (c 4) 1048576 w (by omega) (by omega) (szAll (c 1) _ rfl) (szAll (c 2) _ rfl) (szAll (c 3) _ rfl) (szAll (c 4) _ rfl) (Rd.later r1 h) q1 (Rd.later r2 h) q2 (Rd.later r3 h) q3 (Rd.later r4 h) q4 
  by_cases hbig : (1048576 : Int) - (msr (c 1) + msr (c 2) + msr (c 3) + msr (c 4) : Int) < 0
  · simp only [leftOf_no hbig] at hZ
    go_enter Try.func6, Try.ntmps6
    go_wp2_with fail
    have RA : RowAt ((w.alloc (.cells #[.bool c0, c1, c2, c3, c4, .int .i64 c5] 42)).alloc (.cells #[.bool s0, s1, s2, s3, s4, .int .i64 s5] 42)) w.heap.size 42 #[.bool c0, c1, c2, c3, c4, .int .i64 c5] := (RowAt.new w 42 #[.bool c0, c1, c2, c3, c4, .int .i64 c5]).alloc (.cells #[.bool s0, s1, s2, s3, s4, .int .i64 s5] 42)
    have RB : RowAt ((w.alloc (.cells #[.bool c0, c1, c2, c3, c4, .int .i64 c5] 42)).alloc (.cells #[.bool s0, s1, s2, s3, s4, .int .i64 s5] 42)) (w.heap.size + 1) 42 #[.bool s0, s1, s2, s3, s4, .int .i64 s5] := RowAt.new1 w (.cells #[.bool c0, c1, c2, c3, c4, .int .i64 c5] 42) 42 #[.bool s0, s1, s2, s3, s4, .int .i64 s5]
    have HB : Below w.heap.size w ((w.alloc (.cells #[.bool c0, c1, c2, c3, c4, .int .i64 c5] 42)).alloc (.cells #[.bool s0, s1, s2, s3, s4, .int .i64 s5] 42)) := ((Below.refl w.heap.size w).alloc (Nat.le_refl _) (.cells #[.bool c0, c1, c2, c3, c4, .int .i64 c5] 42)).alloc (by simp) (.cells #[.bool s0, s1, s2, s3, s4, .int .i64 s5] 42)
    generalize ((w.alloc (.cells #[.bool c0, c1, c2, c3, c4, .int .i64 c5] 42)).alloc (.cells #[.bool s0, s1, s2, s3, s4, .int .i64 s5] 42)) = v0 at RA RB HB ⊢
    refine (hZ _ HB).mono ?_
    rintro e v1 ⟨rfl, hb⟩
    replace HB := HB.trans (hb.mono HB.size)
    replace RA := RA.later hb
    replace RB := RB.later hb
    clear hb
    go_wp2_with fail
    go_ret
    exact ⟨rfl, HB⟩
  obtain ⟨z, hz⟩ : ∃ z : Int, z = 1048576 - (msr (c 1) + msr (c 2) + msr (c 3) + msr (c 4) : Int) := ⟨_, rfl⟩
  have hz0 : decide (z < 0) = false := by simp; omega
  have hzb : 0 ≤ z := by omega
  have hzt : z ≤ 1048576 := by omega
  simp only [(leftOf_yes hbig).trans hz.symm] at hZ
  have hY := fun w h => szQuery_any s0 s1 s2 s3 s4 s5 (d 1) (d 2) (d 3) (d 4) z w (by omega) (by omega) (szAll (d 1) _ rfl) (szAll (d 2) _ rfl) (szAll (d 3) _ rfl) (szAll (d 4) _ rfl) (Rd.later k1 h) l1 (Rd.later k2 h) l2 (Rd.later k3 h) l3 (Rd.later k4 h) l4 
  by_cases hbig2 : (z : Int) - (msr (d 1) + msr (d 2) + msr (d 3) + msr (d 4) : Int) < 0
  · simp only [leftOf_no hbig2] at hY
    clear hz hbig hbig2
    go_enter Try.func6, Try.ntmps6
    go_wp2_with fail
    have RA : RowAt ((w.alloc (.cells #[.bool c0, c1, c2, c3, c4, .int .i64 c5] 42)).alloc (.cells #[.bool s0, s1, s2, s3, s4, .int .i64 s5] 42)) w.heap.size 42 #[.bool c0, c1, c2, c3, c4, .int .i64 c5] := (RowAt.new w 42 #[.bool c0, c1, c2, c3, c4, .int .i64 c5]).alloc (.cells #[.bool s0, s1, s2, s3, s4, .int .i64 s5] 42)
    have RB : RowAt ((w.alloc (.cells #[.bool c0, c1, c2, c3, c4, .int .i64 c5] 42)).alloc (.cells #[.bool s0, s1, s2, s3, s4, .int .i64 s5] 42)) (w.heap.size + 1) 42 #[.bool s0, s1, s2, s3, s4, .int .i64 s5] := RowAt.new1 w (.cells #[.bool c0, c1, c2, c3, c4, .int .i64 c5] 42) 42 #[.bool s0, s1, s2, s3, s4, .int .i64 s5]
    have HB : Below w.heap.size w ((w.alloc (.cells #[.bool c0, c1, c2, c3, c4, .int .i64 c5] 42)).alloc (.cells #[.bool s0, s1, s2, s3, s4, .int .i64 s5] 42)) := ((Below.refl w.heap.size w).alloc (Nat.le_refl _) (.cells #[.bool c0, c1, c2, c3, c4, .int .i64 c5] 42)).alloc (by simp) (.cells #[.bool s0, s1, s2, s3, s4, .int .i64 s5] 42)
    generalize ((w.alloc (.cells #[.bool c0, c1, c2, c3, c4, .int .i64 c5] 42)).alloc (.cells #[.bool s0, s1, s2, s3, s4, .int .i64 s5] 42)) = v0 at RA RB HB ⊢
    refine (hZ _ HB).mono ?_
    rintro e v1 ⟨rfl, hb⟩
    replace HB := HB.trans (hb.mono HB.size)
    replace RA := RA.later hb
    replace RB := RB.later hb
    clear hb
    have g0 := RB.cell (i := 0) (v := .bool s0) rfl
    have g1 := RB.cell (i := 1) (v := s1) rfl
    have g2 := RB.cell (i := 2) (v := s2) rfl
    have g3 := RB.cell (i := 3) (v := s3) rfl
    have g4 := RB.cell (i := 4) (v := s4) rfl
    have g5 := RB.cell (i := 5) (v := .int .i64 s5) rfl
    go_wp2_with fail
    refine (hY _ HB).mono ?_
    rintro e v2 ⟨rfl, hb⟩
    clear g0 g1 g2 g3 g4 g5
    replace HB := HB.trans (hb.mono HB.size)
    replace RA := RA.later hb
    replace RB := RB.later hb
    clear hb
    go_wp2_with fail
    go_ret
    exact ⟨rfl, HB⟩
  have m1 : msr (c 1) ≤ 1048576 := by omega
  have n1 : msr (d 1) ≤ 1048576 := by omega
  have m2 : msr (c 2) ≤ 1048576 := by omega
  have n2 : msr (d 2) ≤ 1048576 := by omega
  have m3 : msr (c 3) ≤ 1048576 := by omega
  have n3 : msr (d 3) ≤ 1048576 := by omega
  have m4 : msr (c 4) ≤ 1048576 := by omega
  have n4 : msr (d 4) ≤ 1048576 := by omega
  replace hI := hI (by omega) (by omega)
  obtain ⟨zz, hzz⟩ : ∃ zz : Int, zz = z - (msr (d 1) + msr (d 2) + msr (d 3) + msr (d 4) : Int) := ⟨_, rfl⟩
  have hzz0 : decide (zz < 0) = false := by simp; omega
  simp only [(leftOf_yes hbig2).trans hzz.symm] at hY
  clear hz hbig hzz hbig2 hzb hzt
  have hVV : (V != V) = false := by simp
  have hT := fun v (h : Below w.heap.size w v) => toQuery_any c0 c1 c2 c3 c4 c5 (c 1) (c 2) (c 3) (c 4) v (toAll (c 1) _ rfl) (toAll (c 2) _ rfl) (toAll (c 3) _ rfl) (toAll (c 4) _ rfl) (r1.later h) q1 m1 (r2.later h) q2 m2 (r3.later h) q3 m3 (r4.later h) q4 m4
  have hU := fun v (h : Below w.heap.size w v) => toQuery_any s0 s1 s2 s3 s4 s5 (d 1) (d 2) (d 3) (d 4) v (toAll (d 1) _ rfl) (toAll (d 2) _ rfl) (toAll (d 3) _ rfl) (toAll (d 4) _ rfl) (k1.later h) l1 n1 (k2.later h) l2 n2 (k3.later h) l3 n3 (k4.later h) l4 n4
  go_enter Try.func6, Try.ntmps6
  go_wp2_with fail
  have RA : RowAt ((w.alloc (.cells #[.bool c0, c1, c2, c3, c4, .int .i64 c5] 42)).alloc (.cells #[.bool s0, s1, s2, s3, s4, .int .i64 s5] 42)) w.heap.size 42 #[.bool c0, c1, c2, c3, c4, .int .i64 c5] := (RowAt.new w 42 #[.bool c0, c1, c2, c3, c4, .int .i64 c5]).alloc (.cells #[.bool s0, s1, s2, s3, s4, .int .i64 s5] 42)
  have RB : RowAt ((w.alloc (.cells #[.bool c0, c1, c2, c3, c4, .int .i64 c5] 42)).alloc (.cells #[.bool s0, s1, s2, s3, s4, .int .i64 s5] 42)) (w.heap.size + 1) 42 #[.bool s0, s1, s2, s3, s4, .int .i64 s5] := RowAt.new1 w (.cells #[.bool c0, c1, c2, c3, c4, .int .i64 c5] 42) 42 #[.bool s0, s1, s2, s3, s4, .int .i64 s5]
  have HB : Below w.heap.size w ((w.alloc (.cells #[.bool c0, c1, c2, c3, c4, .int .i64 c5] 42)).alloc (.cells #[.bool s0, s1, s2, s3, s4, .int .i64 s5] 42)) := ((Below.refl w.heap.size w).alloc (Nat.le_refl _) (.cells #[.bool c0, c1, c2, c3, c4, .int .i64 c5] 42)).alloc (by simp) (.cells #[.bool s0, s1, s2, s3, s4, .int .i64 s5] 42)
  generalize ((w.alloc (.cells #[.bool c0, c1, c2, c3, c4, .int .i64 c5] 42)).alloc (.cells #[.bool s0, s1, s2, s3, s4, .int .i64 s5] 42)) = v0 at RA RB HB ⊢
  refine (hZ _ HB).mono ?_
  rintro e v1 ⟨rfl, hb⟩
  clear hZ
  replace HB := HB.trans (hb.mono HB.size)
  replace RA := RA.later hb
  replace RB := RB.later hb
  clear hb
  have g0 := RB.cell (i := 0) (v := .bool s0) rfl
  have g1 := RB.cell (i := 1) (v := s1) rfl
  have g2 := RB.cell (i := 2) (v := s2) rfl
  have g3 := RB.cell (i := 3) (v := s3) rfl
  have g4 := RB.cell (i := 4) (v := s4) rfl
  have g5 := RB.cell (i := 5) (v := .int .i64 s5) rfl
  go_wp2_with fail
  refine (hY _ HB).mono ?_
  rintro e v2 ⟨rfl, hb⟩
  clear hY
  clear g0 g1 g2 g3 g4 g5
  replace HB := HB.trans (hb.mono HB.size)
  replace RA := RA.later hb
  replace RB := RB.later hb
  clear hb
  have a0 := RA.cell (i := 0) (v := .bool c0) rfl
  have a1 := RA.cell (i := 1) (v := c1) rfl
  have a2 := RA.cell (i := 2) (v := c2) rfl
  have a3 := RA.cell (i := 3) (v := c3) rfl
  have a4 := RA.cell (i := 4) (v := c4) rfl
  have a5 := RA.cell (i := 5) (v := .int .i64 c5) rfl
  have g0 := RB.cell (i := 0) (v := .bool s0) rfl
  have g1 := RB.cell (i := 1) (v := s1) rfl
  have g2 := RB.cell (i := 2) (v := s2) rfl
  have g3 := RB.cell (i := 3) (v := s3) rfl
  have g4 := RB.cell (i := 4) (v := s4) rfl
  have g5 := RB.cell (i := 5) (v := .int .i64 s5) rfl
  go_wp2_with fail
  have hT1 := hT
  have hU1 := hU
  go_region_with (first
    | (go_at_call 24; refine (hT1 _ (by first | exact HB | exact HB.drew)).mono ?_; clear hT1; rintro e v3 ⟨uy1, uy2, uy3, uy4, rfl, ur1, ur2, ur3, ur4, hb3⟩; obtain ⟨ua1, un1, up1, rfl⟩ := ur1.slice_of q1 rfl; replace ur1 := ur1.low (Nat.zero_le _); obtain ⟨ua2, un2, up2, rfl⟩ := ur2.slice_of q2 rfl; replace ur2 := ur2.low (Nat.zero_le _); obtain ⟨ua3, un3, up3, rfl⟩ := ur3.slice_of q3 rfl; replace ur3 := ur3.low (Nat.zero_le _); obtain ⟨ua4, un4, up4, rfl⟩ := ur4.slice_of q4 rfl; replace ur4 := ur4.low (Nat.zero_le _); have hb3' : Below v2.heap.size v2 v3 := (by first | exact hb3 | exact (Below.refl _ _).drew.trans hb3); have RB3 := RB.later hb3'; clear a0 g0 a1 g1 a2 g2 a3 g3 a4 g4 a5 g5; have g0 := RB3.cell (i := 0) (v := .bool s0) rfl; have g1 := RB3.cell (i := 1) (v := s1) rfl; have g2 := RB3.cell (i := 2) (v := s2) rfl; have g3 := RB3.cell (i := 3) (v := s3) rfl; have g4 := RB3.cell (i := 4) (v := s4) rfl; have g5 := RB3.cell (i := 5) (v := .int .i64 s5) rfl; have HB3 := HB.trans (hb3'.mono HB.size))
    | (go_at_call 24; refine (hU1 _ (by first | exact HB3 | exact HB3.drew)).mono ?_; clear hU1; rintro e v4 ⟨iy1, iy2, iy3, iy4, rfl, ir1, ir2, ir3, ir4, hb4⟩; obtain ⟨ia1, in1, ip1, rfl⟩ := ir1.slice_of l1 rfl; replace ir1 := ir1.low (Nat.zero_le _); obtain ⟨ia2, in2, ip2, rfl⟩ := ir2.slice_of l2 rfl; replace ir2 := ir2.low (Nat.zero_le _); obtain ⟨ia3, in3, ip3, rfl⟩ := ir3.slice_of l3 rfl; replace ir3 := ir3.low (Nat.zero_le _); obtain ⟨ia4, in4, ip4, rfl⟩ := ir4.slice_of l4 rfl; replace ir4 := ir4.low (Nat.zero_le _); have hb4' : Below v3.heap.size v3 v4 := (by first | exact hb4 | exact (Below.refl _ _).drew.trans hb4); clear g0 g1 g2 g3 g4 g5; have HB4 := HB3.trans (hb4'.mono HB3.size))
    | (go_at_call 29; refine (hS _ _ _ _ _ _ _ _ _ ((ur1.later hb4').low (Nat.zero_le _)) ((ur2.later hb4').low (Nat.zero_le _)) ((ur3.later hb4').low (Nat.zero_le _)) ((ur4.later hb4').low (Nat.zero_le _)) ir1 ir2 ir3 ir4).mono ?_; rintro e v5 ⟨rfl, hb5⟩; have hb5' : Below v4.heap.size v4 v5 := (by first | exact hb5 | exact (Below.refl _ _).drew.trans hb5)))
  all_goals
    have HB5 := HB4.trans (hb5'.mono HB4.size)
    replace RA := ((RA.later hb3').later hb4').later hb5'
    replace RB := (RB3.later hb4').later hb5'
    clear RB3 hb3 hb4 hb5 hb3' hb4' hb5' HB3 HB4 HB hS ur1 ur2 ur3 ur4 ir1 ir2 ir3 ir4
    have HB := HB5
    clear HB5
    have a0 := RA.cell (i := 0) (v := .bool c0) rfl
    have a1 := RA.cell (i := 1) (v := c1) rfl
    have a2 := RA.cell (i := 2) (v := c2) rfl
    have a3 := RA.cell (i := 3) (v := c3) rfl
    have a4 := RA.cell (i := 4) (v := c4) rfl
    have a5 := RA.cell (i := 5) (v := .int .i64 c5) rfl
    go_wp2_with fail
    refine (hT _ HB).mono ?_
    rintro e v6 ⟨vy1, vy2, vy3, vy4, rfl, vr1, vr2, vr3, vr4, hb⟩
    obtain ⟨va1, vn1, vp1, rfl⟩ := vr1.slice_of q1 rfl
    replace vr1 := vr1.low (Nat.zero_le _)
    obtain ⟨va2, vn2, vp2, rfl⟩ := vr2.slice_of q2 rfl
    replace vr2 := vr2.low (Nat.zero_le _)
    obtain ⟨va3, vn3, vp3, rfl⟩ := vr3.slice_of q3 rfl
    replace vr3 := vr3.low (Nat.zero_le _)
    obtain ⟨va4, vn4, vp4, rfl⟩ := vr4.slice_of q4 rfl
    replace vr4 := vr4.low (Nat.zero_le _)
    replace HB := HB.trans (hb.mono HB.size)
    replace RA := RA.later hb
    replace RB := RB.later hb
    clear hb
    clear a0 a1 a2 a3 a4 a5
    have RX := RowAt.new v6 49 #[.bool c0, .slice va1 vn1 vp1, .slice va2 vn2 vp2, .slice va3 vn3 vp3, .slice va4 vn4 vp4, .int .i64 c5]
    have hbx : Below v6.heap.size v6 (v6.alloc (.cells #[.bool c0, .slice va1 vn1 vp1, .slice va2 vn2 vp2, .slice va3 vn3 vp3, .slice va4 vn4 vp4, .int .i64 c5] 49)) := (Below.refl _ _).alloc (Nat.le_refl _) _
    replace HB := HB.trans (hbx.mono HB.size)
    replace RA := RA.later hbx
    replace RB := RB.later hbx
    replace vr1 := vr1.later hbx
    replace vr2 := vr2.later hbx
    replace vr3 := vr3.later hbx
    replace vr4 := vr4.later hbx
    clear hbx
    have g0 := RB.cell (i := 0) (v := .bool s0) rfl
    have g1 := RB.cell (i := 1) (v := s1) rfl
    have g2 := RB.cell (i := 2) (v := s2) rfl
    have g3 := RB.cell (i := 3) (v := s3) rfl
    have g4 := RB.cell (i := 4) (v := s4) rfl
    have g5 := RB.cell (i := 5) (v := .int .i64 s5) rfl
    go_wp2_with fail
    clear g0 g1 g2 g3 g4 g5
    generalize (v6.alloc (.cells #[.bool c0, .slice va1 vn1 vp1, .slice va2 vn2 vp2, .slice va3 vn3 vp3, .slice va4 vn4 vp4, .int .i64 c5] 49)) = v7 at RA RB RX HB vr1 vr2 vr3 vr4 ⊢
    generalize v6.heap.size = BX at RX ⊢
    refine (hU _ HB).mono ?_
    rintro e v8 ⟨jy1, jy2, jy3, jy4, rfl, jr1, jr2, jr3, jr4, hb⟩
    obtain ⟨ja1, jn1, jp1, rfl⟩ := jr1.slice_of l1 rfl
    replace jr1 := jr1.low (Nat.zero_le _)
    obtain ⟨ja2, jn2, jp2, rfl⟩ := jr2.slice_of l2 rfl
    replace jr2 := jr2.low (Nat.zero_le _)
    obtain ⟨ja3, jn3, jp3, rfl⟩ := jr3.slice_of l3 rfl
    replace jr3 := jr3.low (Nat.zero_le _)
    obtain ⟨ja4, jn4, jp4, rfl⟩ := jr4.slice_of l4 rfl
    replace jr4 := jr4.low (Nat.zero_le _)
    replace RX := RX.later hb
    replace vr1 := vr1.later hb
    replace vr2 := vr2.later hb
    replace vr3 := vr3.later hb
    replace vr4 := vr4.later hb
    replace HB := HB.trans (hb.mono HB.size)
    replace RA := RA.later hb
    replace RB := RB.later hb
    clear hb
    have RY := RowAt.new v8 49 #[.bool s0, .slice ja1 jn1 jp1, .slice ja2 jn2 jp2, .slice ja3 jn3 jp3, .slice ja4 jn4 jp4, .int .i64 s5]
    have hbx : Below v8.heap.size v8 (v8.alloc (.cells #[.bool s0, .slice ja1 jn1 jp1, .slice ja2 jn2 jp2, .slice ja3 jn3 jp3, .slice ja4 jn4 jp4, .int .i64 s5] 49)) := (Below.refl _ _).alloc (Nat.le_refl _) _
    replace HB := HB.trans (hbx.mono HB.size)
    replace RA := RA.later hbx
    replace RB := RB.later hbx
    replace jr1 := jr1.later hbx
    replace jr2 := jr2.later hbx
    replace jr3 := jr3.later hbx
    replace jr4 := jr4.later hbx
    replace RX := RX.later hbx
    replace vr1 := vr1.later hbx
    replace vr2 := vr2.later hbx
    replace vr3 := vr3.later hbx
    replace vr4 := vr4.later hbx
    clear hbx
    have x0 := RX.cell (i := 0) (v := .bool c0) rfl
    have x1 := RX.cell (i := 1) (v := .slice va1 vn1 vp1) rfl
    have x2 := RX.cell (i := 2) (v := .slice va2 vn2 vp2) rfl
    have x3 := RX.cell (i := 3) (v := .slice va3 vn3 vp3) rfl
    have x4 := RX.cell (i := 4) (v := .slice va4 vn4 vp4) rfl
    have x5 := RX.cell (i := 5) (v := .int .i64 c5) rfl
    go_wp2_with fail
    clear x0 x1 x2 x3 x4 x5
    generalize (v8.alloc (.cells #[.bool s0, .slice ja1 jn1 jp1, .slice ja2 jn2 jp2, .slice ja3 jn3 jp3, .slice ja4 jn4 jp4, .int .i64 s5] 49)) = v9 at RA RB RX RY HB vr1 vr2 vr3 vr4 jr1 jr2 jr3 jr4 ⊢
    generalize v8.heap.size = BY at RY ⊢
    refine (hI _ _ _ _ _ _ _ _ _ vr1 vr2 vr3 vr4 jr1 jr2 jr3 jr4).mono ?_
    rintro e v10 ⟨rfl, hb⟩
    clear hI
    replace RX := RX.later hb
    replace vr1 := vr1.later hb
    replace vr2 := vr2.later hb
    replace vr3 := vr3.later hb
    replace vr4 := vr4.later hb
    replace RY := RY.later hb
    replace jr1 := jr1.later hb
    replace jr2 := jr2.later hb
    replace jr3 := jr3.later hb
    replace jr4 := jr4.later hb
    replace HB := HB.trans (hb.mono HB.size)
    replace RA := RA.later hb
    replace RB := RB.later hb
    clear hb
    have a0 := RA.cell (i := 0) (v := .bool c0) rfl
    have a1 := RA.cell (i := 1) (v := c1) rfl
    have a2 := RA.cell (i := 2) (v := c2) rfl
    have a3 := RA.cell (i := 3) (v := c3) rfl
    have a4 := RA.cell (i := 4) (v := c4) rfl
    have a5 := RA.cell (i := 5) (v := .int .i64 c5) rfl
    have x0 := RX.cell (i := 0) (v := .bool c0) rfl
    have x1 := RX.cell (i := 1) (v := .slice va1 vn1 vp1) rfl
    have x2 := RX.cell (i := 2) (v := .slice va2 vn2 vp2) rfl
    have x3 := RX.cell (i := 3) (v := .slice va3 vn3 vp3) rfl
    have x4 := RX.cell (i := 4) (v := .slice va4 vn4 vp4) rfl
    have x5 := RX.cell (i := 5) (v := .int .i64 c5) rfl
    go_wp2_with fail
    have hT1 := hT
    have hE := fun (K1 K2 K3 K4 : Value) v (h : Below v10.heap.size v10 v) (hK1 : Rd v 0 K1 (c 1)) (hK2 : Rd v 0 K2 (c 2)) (hK3 : Rd v 0 K3 (c 3)) (hK4 : Rd v 0 K4 (c 4)) => eqQuery_any c0 (.slice va1 vn1 vp1) (.slice va2 vn2 vp2) (.slice va3 vn3 vp3) (.slice va4 vn4 vp4) c5 K1 K2 K3 K4 (c 1) (c 2) (c 3) (c 4) v (eqAll (c 1) _ rfl) (eqAll (c 2) _ rfl) (eqAll (c 3) _ rfl) (eqAll (c 4) _ rfl) (vr1.later h) hK1 q1 (vr2.later h) hK2 q2 (vr3.later h) hK3 q3 (vr4.later h) hK4 q4
    go_region_with (first
      | (go_at_call 24; refine (hT1 _ (by first | exact HB | exact HB.drew)).mono ?_; clear hT1; rintro e v11 ⟨ty1, ty2, ty3, ty4, rfl, tr1, tr2, tr3, tr4, hb3⟩; have hb3' : Below v10.heap.size v10 v11 := (by first | exact hb3 | exact (Below.refl _ _).drew.trans hb3); have R3 := RX.later hb3'; clear x0 x1 x2 x3 x4 x5; have x0 := R3.cell (i := 0) (v := .bool c0) rfl; have x1 := R3.cell (i := 1) (v := .slice va1 vn1 vp1) rfl; have x2 := R3.cell (i := 2) (v := .slice va2 vn2 vp2) rfl; have x3 := R3.cell (i := 3) (v := .slice va3 vn3 vp3) rfl; have x4 := R3.cell (i := 4) (v := .slice va4 vn4 vp4) rfl; have x5 := R3.cell (i := 5) (v := .int .i64 c5) rfl)
      | (go_at_call 26; refine (hE _ _ _ _ _ (by first | exact hb3' | exact hb3'.drew) (tr1.low (Nat.zero_le _)) (tr2.low (Nat.zero_le _)) (tr3.low (Nat.zero_le _)) (tr4.low (Nat.zero_le _))).mono ?_; clear hE; rintro e v12 ⟨rfl, hb4⟩; have hb4' : Below v11.heap.size v11 v12 := (by first | exact hb4 | exact (Below.refl _ _).drew.trans hb4)))
    all_goals
      have hb := hb3'.trans (hb4'.mono hb3'.size)
      replace RY := RY.later hb
      replace jr1 := jr1.later hb
      replace jr2 := jr2.later hb
      replace jr3 := jr3.later hb
      replace jr4 := jr4.later hb
      replace HB := HB.trans (hb.mono HB.size)
      replace RB := RB.later hb
      clear hb hb3 hb4 hb3' hb4' R3 RX RA tr1 tr2 tr3 tr4 vr1 vr2 vr3 vr4 
      have g0 := RB.cell (i := 0) (v := .bool s0) rfl
      have g1 := RB.cell (i := 1) (v := s1) rfl
      have g2 := RB.cell (i := 2) (v := s2) rfl
      have g3 := RB.cell (i := 3) (v := s3) rfl
      have g4 := RB.cell (i := 4) (v := s4) rfl
      have g5 := RB.cell (i := 5) (v := .int .i64 s5) rfl
      have y0 := RY.cell (i := 0) (v := .bool s0) rfl
      have y1 := RY.cell (i := 1) (v := .slice ja1 jn1 jp1) rfl
      have y2 := RY.cell (i := 2) (v := .slice ja2 jn2 jp2) rfl
      have y3 := RY.cell (i := 3) (v := .slice ja3 jn3 jp3) rfl
      have y4 := RY.cell (i := 4) (v := .slice ja4 jn4 jp4) rfl
      have y5 := RY.cell (i := 5) (v := .int .i64 s5) rfl
      go_wp2_with fail
      have hT1 := hU
      have hE := fun (K1 K2 K3 K4 : Value) v (h : Below v12.heap.size v12 v) (hK1 : Rd v 0 K1 (d 1)) (hK2 : Rd v 0 K2 (d 2)) (hK3 : Rd v 0 K3 (d 3)) (hK4 : Rd v 0 K4 (d 4)) => eqQuery_any s0 (.slice ja1 jn1 jp1) (.slice ja2 jn2 jp2) (.slice ja3 jn3 jp3) (.slice ja4 jn4 jp4) s5 K1 K2 K3 K4 (d 1) (d 2) (d 3) (d 4) v (eqAll (d 1) _ rfl) (eqAll (d 2) _ rfl) (eqAll (d 3) _ rfl) (eqAll (d 4) _ rfl) (jr1.later h) hK1 l1 (jr2.later h) hK2 l2 (jr3.later h) hK3 l3 (jr4.later h) hK4 l4
      go_region_with (first
        | (go_at_call 24; refine (hT1 _ (by first | exact HB | exact HB.drew)).mono ?_; clear hT1; rintro e v13 ⟨ty1, ty2, ty3, ty4, rfl, tr1, tr2, tr3, tr4, hb3⟩; have hb3' : Below v12.heap.size v12 v13 := (by first | exact hb3 | exact (Below.refl _ _).drew.trans hb3); have R3 := RY.later hb3'; clear y0 y1 y2 y3 y4 y5; have y0 := R3.cell (i := 0) (v := .bool s0) rfl; have y1 := R3.cell (i := 1) (v := .slice ja1 jn1 jp1) rfl; have y2 := R3.cell (i := 2) (v := .slice ja2 jn2 jp2) rfl; have y3 := R3.cell (i := 3) (v := .slice ja3 jn3 jp3) rfl; have y4 := R3.cell (i := 4) (v := .slice ja4 jn4 jp4) rfl; have y5 := R3.cell (i := 5) (v := .int .i64 s5) rfl)
        | (go_at_call 26; refine (hE _ _ _ _ _ (by first | exact hb3' | exact hb3'.drew) (tr1.low (Nat.zero_le _)) (tr2.low (Nat.zero_le _)) (tr3.low (Nat.zero_le _)) (tr4.low (Nat.zero_le _))).mono ?_; clear hE; rintro e v14 ⟨rfl, hb4⟩; have hb4' : Below v13.heap.size v13 v14 := (by first | exact hb4 | exact (Below.refl _ _).drew.trans hb4)))
      all_goals
        have hbb := HB.trans ((hb3'.trans (hb4'.mono hb3'.size)).mono HB.size)
        go_wp2_with fail
        go_ret
        exact ⟨rfl, hbb⟩
end Go.Proofs.Ytbbfanhhldbhhaa
