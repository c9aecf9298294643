/- Joined texts: ExSame. -/
import Derived.Test.YtbbfanhhldbhhaaQHToS
import Derived.Test.YtbbfanhhldbhhaaQHSzS
import Derived.Test.YtbbfanhhldbhhaaQHEqS
import Derived.Test.YtbbfanhhldbhhaaQHExLaw
import Derived.Deep.RegionWith
/- The walks of the exact laws on two trees that are compared. -/
namespace Go.Proofs.Ytbbfanhhldbhhaa
open Go.RowKit

set_option maxRecDepth 100000 in
set_option maxHeartbeats 8000000 in
theorem ex_SameExpr (V : Bool) (c d : Nat → Dat) (c0 : Int) (c1 : Int) (c2 : Bool) (c3 : Int) (c4 : Int) (c5 : ByteArray) (c6 : ByteArray) (c7 : ByteArray) (c8 : Value) (c9 : Value) (s0 : Int) (s1 : Int) (s2 : Bool) (s3 : Int) (s4 : Int) (s5 : ByteArray) (s6 : ByteArray) (s7 : ByteArray) (s8 : Value) (s9 : Value) (w : World) (r8 : Rd w 0 c8 (c 8)) (q8 : Fits (c 8) .exprs) (r9 : Rd w 0 c9 (c 9)) (q9 : Fits (c 9) .queries) (b5 : c5.size ≤ 9223372036854775807) (b6 : c6.size ≤ 9223372036854775807) (b7 : c7.size ≤ 9223372036854775807) (k8 : Rd w 0 s8 (d 8)) (l8 : Fits (d 8) .exprs) (k9 : Rd w 0 s9 (d 9)) (l9 : Fits (d 9) .queries) (h5 : s5.size ≤ 9223372036854775807) (h6 : s6.size ≤ 9223372036854775807) (h7 : s7.size ≤ 9223372036854775807)
    (hS : ∀ (X8 X9 Y8 Y9 : Value) (v : World), Rd v 0 X8 (c 8) → Rd v 0 X9 (c 9) → Rd v 0 Y8 (d 8) → Rd v 0 Y9 (d 9) → Calls Try.prog 27 #[.agg #[.int .i64 c0, .int .i64 c1, .bool c2, .int .i64 c3, .int .i64 c4, .string c5, .string c6, .string c7, X8, X9], .agg #[.int .i64 s0, .int .i64 s1, .bool s2, .int .i64 s3, .int .i64 s4, .string s5, .string s6, .string s7, Y8, Y9]] v (BoolE V v))
    (hI : msr (c 8) + msr (c 9) ≤ 1048576 → msr (d 8) + msr (d 9) ≤ 1048576 → ∀ (X8 X9 Y8 Y9 : Value) (v : World), Rd v 0 X8 (c 8) → Rd v 0 X9 (c 9) → Rd v 0 Y8 (d 8) → Rd v 0 Y9 (d 9) → Calls Try.prog 28 #[.agg #[.int .i64 c0, .int .i64 c1, .bool c2, .int .i64 c3, .int .i64 c4, .string c5, .string c6, .string c7, X8, X9], .agg #[.int .i64 s0, .int .i64 s1, .bool s2, .int .i64 s3, .int .i64 s4, .string s5, .string s6, .string s7, Y8, Y9]] v (BoolE V v)) :
    Calls Try.prog 5 #[.agg #[.int .i64 c0, .int .i64 c1, .bool c2, .int .i64 c3, .int .i64 c4, .string c5, .string c6, .string c7, c8, c9], .agg #[.int .i64 s0, .int .i64 s1, .bool s2, .int .i64 s3, .int .i64 s4, .string s5, .string s6, .string s7, s8, s9]] w (BoolE true w) := by
  have hZ := fun w h => szExpr_any c0 c1 c2 c3 c4 c5 c6 c7 c8 c9 (c 8) (c 9) 1048576 w (by omega) (by omega) (szAll (c 8) _ rfl) (szAll (c 9) _ rfl) (Rd.later r8 h) q8 (Rd.later r9 h) q9 b5 b6 b7
  by_cases hbig : (1048576 : Int) - (c5.size + c6.size + c7.size + msr (c 8) + msr (c 9) : Int) < 0
  · simp only [leftOf_no hbig] at hZ
    go_enter Try.func5, Try.ntmps5
    go_wp2_with fail
    have RA : RowAt ((w.alloc (.cells #[.int .i64 c0, .int .i64 c1, .bool c2, .int .i64 c3, .int .i64 c4, .string c5, .string c6, .string c7, c8, c9] 27)).alloc (.cells #[.int .i64 s0, .int .i64 s1, .bool s2, .int .i64 s3, .int .i64 s4, .string s5, .string s6, .string s7, s8, s9] 27)) w.heap.size 27 #[.int .i64 c0, .int .i64 c1, .bool c2, .int .i64 c3, .int .i64 c4, .string c5, .string c6, .string c7, c8, c9] := (RowAt.new w 27 #[.int .i64 c0, .int .i64 c1, .bool c2, .int .i64 c3, .int .i64 c4, .string c5, .string c6, .string c7, c8, c9]).alloc (.cells #[.int .i64 s0, .int .i64 s1, .bool s2, .int .i64 s3, .int .i64 s4, .string s5, .string s6, .string s7, s8, s9] 27)
    have RB : RowAt ((w.alloc (.cells #[.int .i64 c0, .int .i64 c1, .bool c2, .int .i64 c3, .int .i64 c4, .string c5, .string c6, .string c7, c8, c9] 27)).alloc (.cells #[.int .i64 s0, .int .i64 s1, .bool s2, .int .i64 s3, .int .i64 s4, .string s5, .string s6, .string s7, s8, s9] 27)) (w.heap.size + 1) 27 #[.int .i64 s0, .int .i64 s1, .bool s2, .int .i64 s3, .int .i64 s4, .string s5, .string s6, .string s7, s8, s9] := RowAt.new1 w (.cells #[.int .i64 c0, .int .i64 c1, .bool c2, .int .i64 c3, .int .i64 c4, .string c5, .string c6, .string c7, c8, c9] 27) 27 #[.int .i64 s0, .int .i64 s1, .bool s2, .int .i64 s3, .int .i64 s4, .string s5, .string s6, .string s7, s8, s9]
    have HB : Below w.heap.size w ((w.alloc (.cells #[.int .i64 c0, .int .i64 c1, .bool c2, .int .i64 c3, .int .i64 c4, .string c5, .string c6, .string c7, c8, c9] 27)).alloc (.cells #[.int .i64 s0, .int .i64 s1, .bool s2, .int .i64 s3, .int .i64 s4, .string s5, .string s6, .string s7, s8, s9] 27)) := ((Below.refl w.heap.size w).alloc (Nat.le_refl _) (.cells #[.int .i64 c0, .int .i64 c1, .bool c2, .int .i64 c3, .int .i64 c4, .string c5, .string c6, .string c7, c8, c9] 27)).alloc (by simp) (.cells #[.int .i64 s0, .int .i64 s1, .bool s2, .int .i64 s3, .int .i64 s4, .string s5, .string s6, .string s7, s8, s9] 27)
    generalize ((w.alloc (.cells #[.int .i64 c0, .int .i64 c1, .bool c2, .int .i64 c3, .int .i64 c4, .string c5, .string c6, .string c7, c8, c9] 27)).alloc (.cells #[.int .i64 s0, .int .i64 s1, .bool s2, .int .i64 s3, .int .i64 s4, .string s5, .string s6, .string s7, s8, s9] 27)) = v0 at RA RB HB ⊢
    refine (hZ _ HB).mono ?_
    rintro e v1 ⟨rfl, hb⟩
    replace HB := HB.trans (hb.mono HB.size)
    replace RA := RA.later hb
    replace RB := RB.later hb
    clear hb
    go_wp2_with fail
    go_ret
    exact ⟨rfl, HB⟩
  obtain ⟨z, hz⟩ : ∃ z : Int, z = 1048576 - (c5.size + c6.size + c7.size + msr (c 8) + msr (c 9) : Int) := ⟨_, rfl⟩
  have hz0 : decide (z < 0) = false := by simp; omega
  have hzb : 0 ≤ z := by omega
  have hzt : z ≤ 1048576 := by omega
  simp only [(leftOf_yes hbig).trans hz.symm] at hZ
  have hY := fun w h => szExpr_any s0 s1 s2 s3 s4 s5 s6 s7 s8 s9 (d 8) (d 9) z w (by omega) (by omega) (szAll (d 8) _ rfl) (szAll (d 9) _ rfl) (Rd.later k8 h) l8 (Rd.later k9 h) l9 h5 h6 h7
  by_cases hbig2 : (z : Int) - (s5.size + s6.size + s7.size + msr (d 8) + msr (d 9) : Int) < 0
  · simp only [leftOf_no hbig2] at hY
    clear hz hbig hbig2
    go_enter Try.func5, Try.ntmps5
    go_wp2_with fail
    have RA : RowAt ((w.alloc (.cells #[.int .i64 c0, .int .i64 c1, .bool c2, .int .i64 c3, .int .i64 c4, .string c5, .string c6, .string c7, c8, c9] 27)).alloc (.cells #[.int .i64 s0, .int .i64 s1, .bool s2, .int .i64 s3, .int .i64 s4, .string s5, .string s6, .string s7, s8, s9] 27)) w.heap.size 27 #[.int .i64 c0, .int .i64 c1, .bool c2, .int .i64 c3, .int .i64 c4, .string c5, .string c6, .string c7, c8, c9] := (RowAt.new w 27 #[.int .i64 c0, .int .i64 c1, .bool c2, .int .i64 c3, .int .i64 c4, .string c5, .string c6, .string c7, c8, c9]).alloc (.cells #[.int .i64 s0, .int .i64 s1, .bool s2, .int .i64 s3, .int .i64 s4, .string s5, .string s6, .string s7, s8, s9] 27)
    have RB : RowAt ((w.alloc (.cells #[.int .i64 c0, .int .i64 c1, .bool c2, .int .i64 c3, .int .i64 c4, .string c5, .string c6, .string c7, c8, c9] 27)).alloc (.cells #[.int .i64 s0, .int .i64 s1, .bool s2, .int .i64 s3, .int .i64 s4, .string s5, .string s6, .string s7, s8, s9] 27)) (w.heap.size + 1) 27 #[.int .i64 s0, .int .i64 s1, .bool s2, .int .i64 s3, .int .i64 s4, .string s5, .string s6, .string s7, s8, s9] := RowAt.new1 w (.cells #[.int .i64 c0, .int .i64 c1, .bool c2, .int .i64 c3, .int .i64 c4, .string c5, .string c6, .string c7, c8, c9] 27) 27 #[.int .i64 s0, .int .i64 s1, .bool s2, .int .i64 s3, .int .i64 s4, .string s5, .string s6, .string s7, s8, s9]
    have HB : Below w.heap.size w ((w.alloc (.cells #[.int .i64 c0, .int .i64 c1, .bool c2, .int .i64 c3, .int .i64 c4, .string c5, .string c6, .string c7, c8, c9] 27)).alloc (.cells #[.int .i64 s0, .int .i64 s1, .bool s2, .int .i64 s3, .int .i64 s4, .string s5, .string s6, .string s7, s8, s9] 27)) := ((Below.refl w.heap.size w).alloc (Nat.le_refl _) (.cells #[.int .i64 c0, .int .i64 c1, .bool c2, .int .i64 c3, .int .i64 c4, .string c5, .string c6, .string c7, c8, c9] 27)).alloc (by simp) (.cells #[.int .i64 s0, .int .i64 s1, .bool s2, .int .i64 s3, .int .i64 s4, .string s5, .string s6, .string s7, s8, s9] 27)
    generalize ((w.alloc (.cells #[.int .i64 c0, .int .i64 c1, .bool c2, .int .i64 c3, .int .i64 c4, .string c5, .string c6, .string c7, c8, c9] 27)).alloc (.cells #[.int .i64 s0, .int .i64 s1, .bool s2, .int .i64 s3, .int .i64 s4, .string s5, .string s6, .string s7, s8, s9] 27)) = v0 at RA RB HB ⊢
    refine (hZ _ HB).mono ?_
    rintro e v1 ⟨rfl, hb⟩
    replace HB := HB.trans (hb.mono HB.size)
    replace RA := RA.later hb
    replace RB := RB.later hb
    clear hb
    have g0 := RB.cell (i := 0) (v := .int .i64 s0) rfl
    have g1 := RB.cell (i := 1) (v := .int .i64 s1) rfl
    have g2 := RB.cell (i := 2) (v := .bool s2) rfl
    have g3 := RB.cell (i := 3) (v := .int .i64 s3) rfl
    have g4 := RB.cell (i := 4) (v := .int .i64 s4) rfl
    have g5 := RB.cell (i := 5) (v := .string s5) rfl
    have g6 := RB.cell (i := 6) (v := .string s6) rfl
    have g7 := RB.cell (i := 7) (v := .string s7) rfl
    have g8 := RB.cell (i := 8) (v := s8) rfl
    have g9 := RB.cell (i := 9) (v := s9) rfl
    go_wp2_with fail
    refine (hY _ HB).mono ?_
    rintro e v2 ⟨rfl, hb⟩
    clear g0 g1 g2 g3 g4 g5 g6 g7 g8 g9
    replace HB := HB.trans (hb.mono HB.size)
    replace RA := RA.later hb
    replace RB := RB.later hb
    clear hb
    go_wp2_with fail
    go_ret
    exact ⟨rfl, HB⟩
  have m8 : msr (c 8) ≤ 1048576 := by omega
  have n8 : msr (d 8) ≤ 1048576 := by omega
  have m9 : msr (c 9) ≤ 1048576 := by omega
  have n9 : msr (d 9) ≤ 1048576 := by omega
  replace hI := hI (by omega) (by omega)
  obtain ⟨zz, hzz⟩ : ∃ zz : Int, zz = z - (s5.size + s6.size + s7.size + msr (d 8) + msr (d 9) : Int) := ⟨_, rfl⟩
  have hzz0 : decide (zz < 0) = false := by simp; omega
  simp only [(leftOf_yes hbig2).trans hzz.symm] at hY
  clear hz hbig hzz hbig2 hzb hzt
  have hVV : (V != V) = false := by simp
  have hT := fun v (h : Below w.heap.size w v) => toExpr_any c0 c1 c2 c3 c4 c5 c6 c7 c8 c9 (c 8) (c 9) v (toAll (c 8) _ rfl) (toAll (c 9) _ rfl) (r8.later h) q8 m8 (r9.later h) q9 m9
  have hU := fun v (h : Below w.heap.size w v) => toExpr_any s0 s1 s2 s3 s4 s5 s6 s7 s8 s9 (d 8) (d 9) v (toAll (d 8) _ rfl) (toAll (d 9) _ rfl) (k8.later h) l8 n8 (k9.later h) l9 n9
  go_enter Try.func5, Try.ntmps5
  go_wp2_with fail
  have RA : RowAt ((w.alloc (.cells #[.int .i64 c0, .int .i64 c1, .bool c2, .int .i64 c3, .int .i64 c4, .string c5, .string c6, .string c7, c8, c9] 27)).alloc (.cells #[.int .i64 s0, .int .i64 s1, .bool s2, .int .i64 s3, .int .i64 s4, .string s5, .string s6, .string s7, s8, s9] 27)) w.heap.size 27 #[.int .i64 c0, .int .i64 c1, .bool c2, .int .i64 c3, .int .i64 c4, .string c5, .string c6, .string c7, c8, c9] := (RowAt.new w 27 #[.int .i64 c0, .int .i64 c1, .bool c2, .int .i64 c3, .int .i64 c4, .string c5, .string c6, .string c7, c8, c9]).alloc (.cells #[.int .i64 s0, .int .i64 s1, .bool s2, .int .i64 s3, .int .i64 s4, .string s5, .string s6, .string s7, s8, s9] 27)
  have RB : RowAt ((w.alloc (.cells #[.int .i64 c0, .int .i64 c1, .bool c2, .int .i64 c3, .int .i64 c4, .string c5, .string c6, .string c7, c8, c9] 27)).alloc (.cells #[.int .i64 s0, .int .i64 s1, .bool s2, .int .i64 s3, .int .i64 s4, .string s5, .string s6, .string s7, s8, s9] 27)) (w.heap.size + 1) 27 #[.int .i64 s0, .int .i64 s1, .bool s2, .int .i64 s3, .int .i64 s4, .string s5, .string s6, .string s7, s8, s9] := RowAt.new1 w (.cells #[.int .i64 c0, .int .i64 c1, .bool c2, .int .i64 c3, .int .i64 c4, .string c5, .string c6, .string c7, c8, c9] 27) 27 #[.int .i64 s0, .int .i64 s1, .bool s2, .int .i64 s3, .int .i64 s4, .string s5, .string s6, .string s7, s8, s9]
  have HB : Below w.heap.size w ((w.alloc (.cells #[.int .i64 c0, .int .i64 c1, .bool c2, .int .i64 c3, .int .i64 c4, .string c5, .string c6, .string c7, c8, c9] 27)).alloc (.cells #[.int .i64 s0, .int .i64 s1, .bool s2, .int .i64 s3, .int .i64 s4, .string s5, .string s6, .string s7, s8, s9] 27)) := ((Below.refl w.heap.size w).alloc (Nat.le_refl _) (.cells #[.int .i64 c0, .int .i64 c1, .bool c2, .int .i64 c3, .int .i64 c4, .string c5, .string c6, .string c7, c8, c9] 27)).alloc (by simp) (.cells #[.int .i64 s0, .int .i64 s1, .bool s2, .int .i64 s3, .int .i64 s4, .string s5, .string s6, .string s7, s8, s9] 27)
  generalize ((w.alloc (.cells #[.int .i64 c0, .int .i64 c1, .bool c2, .int .i64 c3, .int .i64 c4, .string c5, .string c6, .string c7, c8, c9] 27)).alloc (.cells #[.int .i64 s0, .int .i64 s1, .bool s2, .int .i64 s3, .int .i64 s4, .string s5, .string s6, .string s7, s8, s9] 27)) = v0 at RA RB HB ⊢
  refine (hZ _ HB).mono ?_
  rintro e v1 ⟨rfl, hb⟩
  clear hZ
  replace HB := HB.trans (hb.mono HB.size)
  replace RA := RA.later hb
  replace RB := RB.later hb
  clear hb
  have g0 := RB.cell (i := 0) (v := .int .i64 s0) rfl
  have g1 := RB.cell (i := 1) (v := .int .i64 s1) rfl
  have g2 := RB.cell (i := 2) (v := .bool s2) rfl
  have g3 := RB.cell (i := 3) (v := .int .i64 s3) rfl
  have g4 := RB.cell (i := 4) (v := .int .i64 s4) rfl
  have g5 := RB.cell (i := 5) (v := .string s5) rfl
  have g6 := RB.cell (i := 6) (v := .string s6) rfl
  have g7 := RB.cell (i := 7) (v := .string s7) rfl
  have g8 := RB.cell (i := 8) (v := s8) rfl
  have g9 := RB.cell (i := 9) (v := s9) rfl
  go_wp2_with fail
  refine (hY _ HB).mono ?_
  rintro e v2 ⟨rfl, hb⟩
  clear hY
  clear g0 g1 g2 g3 g4 g5 g6 g7 g8 g9
  replace HB := HB.trans (hb.mono HB.size)
  replace RA := RA.later hb
  replace RB := RB.later hb
  clear hb
  have a0 := RA.cell (i := 0) (v := .int .i64 c0) rfl
  have a1 := RA.cell (i := 1) (v := .int .i64 c1) rfl
  have a2 := RA.cell (i := 2) (v := .bool c2) rfl
  have a3 := RA.cell (i := 3) (v := .int .i64 c3) rfl
  have a4 := RA.cell (i := 4) (v := .int .i64 c4) rfl
  have a5 := RA.cell (i := 5) (v := .string c5) rfl
  have a6 := RA.cell (i := 6) (v := .string c6) rfl
  have a7 := RA.cell (i := 7) (v := .string c7) rfl
  have a8 := RA.cell (i := 8) (v := c8) rfl
  have a9 := RA.cell (i := 9) (v := c9) rfl
  have g0 := RB.cell (i := 0) (v := .int .i64 s0) rfl
  have g1 := RB.cell (i := 1) (v := .int .i64 s1) rfl
  have g2 := RB.cell (i := 2) (v := .bool s2) rfl
  have g3 := RB.cell (i := 3) (v := .int .i64 s3) rfl
  have g4 := RB.cell (i := 4) (v := .int .i64 s4) rfl
  have g5 := RB.cell (i := 5) (v := .string s5) rfl
  have g6 := RB.cell (i := 6) (v := .string s6) rfl
  have g7 := RB.cell (i := 7) (v := .string s7) rfl
  have g8 := RB.cell (i := 8) (v := s8) rfl
  have g9 := RB.cell (i := 9) (v := s9) rfl
  go_wp2_with fail
  have hT1 := hT
  have hU1 := hU
  go_region_with (first
    | (go_at_call 19; refine (hT1 _ (by first | exact HB | exact HB.drew)).mono ?_; clear hT1; rintro e v3 ⟨uy8, uy9, rfl, ur8, ur9, hb3⟩; obtain ⟨ua8, un8, up8, rfl⟩ := ur8.slice_of q8 rfl; replace ur8 := ur8.low (Nat.zero_le _); obtain ⟨ua9, un9, up9, rfl⟩ := ur9.slice_of q9 rfl; replace ur9 := ur9.low (Nat.zero_le _); have hb3' : Below v2.heap.size v2 v3 := (by first | exact hb3 | exact (Below.refl _ _).drew.trans hb3); have RB3 := RB.later hb3'; clear a0 g0 a1 g1 a2 g2 a3 g3 a4 g4 a5 g5 a6 g6 a7 g7 a8 g8 a9 g9; have g0 := RB3.cell (i := 0) (v := .int .i64 s0) rfl; have g1 := RB3.cell (i := 1) (v := .int .i64 s1) rfl; have g2 := RB3.cell (i := 2) (v := .bool s2) rfl; have g3 := RB3.cell (i := 3) (v := .int .i64 s3) rfl; have g4 := RB3.cell (i := 4) (v := .int .i64 s4) rfl; have g5 := RB3.cell (i := 5) (v := .string s5) rfl; have g6 := RB3.cell (i := 6) (v := .string s6) rfl; have g7 := RB3.cell (i := 7) (v := .string s7) rfl; have g8 := RB3.cell (i := 8) (v := s8) rfl; have g9 := RB3.cell (i := 9) (v := s9) rfl; have HB3 := HB.trans (hb3'.mono HB.size))
    | (go_at_call 19; refine (hU1 _ (by first | exact HB3 | exact HB3.drew)).mono ?_; clear hU1; rintro e v4 ⟨iy8, iy9, rfl, ir8, ir9, hb4⟩; obtain ⟨ia8, in8, ip8, rfl⟩ := ir8.slice_of l8 rfl; replace ir8 := ir8.low (Nat.zero_le _); obtain ⟨ia9, in9, ip9, rfl⟩ := ir9.slice_of l9 rfl; replace ir9 := ir9.low (Nat.zero_le _); have hb4' : Below v3.heap.size v3 v4 := (by first | exact hb4 | exact (Below.refl _ _).drew.trans hb4); clear g0 g1 g2 g3 g4 g5 g6 g7 g8 g9; have HB4 := HB3.trans (hb4'.mono HB3.size))
    | (go_at_call 27; refine (hS _ _ _ _ _ ((ur8.later hb4').low (Nat.zero_le _)) ((ur9.later hb4').low (Nat.zero_le _)) ir8 ir9).mono ?_; rintro e v5 ⟨rfl, hb5⟩; have hb5' : Below v4.heap.size v4 v5 := (by first | exact hb5 | exact (Below.refl _ _).drew.trans hb5)))
  all_goals
    have HB5 := HB4.trans (hb5'.mono HB4.size)
    replace RA := ((RA.later hb3').later hb4').later hb5'
    replace RB := (RB3.later hb4').later hb5'
    clear RB3 hb3 hb4 hb5 hb3' hb4' hb5' HB3 HB4 HB hS ur8 ur9 ir8 ir9
    have HB := HB5
    clear HB5
    have a0 := RA.cell (i := 0) (v := .int .i64 c0) rfl
    have a1 := RA.cell (i := 1) (v := .int .i64 c1) rfl
    have a2 := RA.cell (i := 2) (v := .bool c2) rfl
    have a3 := RA.cell (i := 3) (v := .int .i64 c3) rfl
    have a4 := RA.cell (i := 4) (v := .int .i64 c4) rfl
    have a5 := RA.cell (i := 5) (v := .string c5) rfl
    have a6 := RA.cell (i := 6) (v := .string c6) rfl
    have a7 := RA.cell (i := 7) (v := .string c7) rfl
    have a8 := RA.cell (i := 8) (v := c8) rfl
    have a9 := RA.cell (i := 9) (v := c9) rfl
    go_wp2_with fail
    refine (hT _ HB).mono ?_
    rintro e v6 ⟨vy8, vy9, rfl, vr8, vr9, hb⟩
    obtain ⟨va8, vn8, vp8, rfl⟩ := vr8.slice_of q8 rfl
    replace vr8 := vr8.low (Nat.zero_le _)
    obtain ⟨va9, vn9, vp9, rfl⟩ := vr9.slice_of q9 rfl
    replace vr9 := vr9.low (Nat.zero_le _)
    replace HB := HB.trans (hb.mono HB.size)
    replace RA := RA.later hb
    replace RB := RB.later hb
    clear hb
    clear a0 a1 a2 a3 a4 a5 a6 a7 a8 a9
    have RX := RowAt.new v6 34 #[.int .i64 c0, .int .i64 c1, .bool c2, .int .i64 c3, .int .i64 c4, .string c5, .string c6, .string c7, .slice va8 vn8 vp8, .slice va9 vn9 vp9]
    have hbx : Below v6.heap.size v6 (v6.alloc (.cells #[.int .i64 c0, .int .i64 c1, .bool c2, .int .i64 c3, .int .i64 c4, .string c5, .string c6, .string c7, .slice va8 vn8 vp8, .slice va9 vn9 vp9] 34)) := (Below.refl _ _).alloc (Nat.le_refl _) _
    replace HB := HB.trans (hbx.mono HB.size)
    replace RA := RA.later hbx
    replace RB := RB.later hbx
    replace vr8 := vr8.later hbx
    replace vr9 := vr9.later hbx
    clear hbx
    have g0 := RB.cell (i := 0) (v := .int .i64 s0) rfl
    have g1 := RB.cell (i := 1) (v := .int .i64 s1) rfl
    have g2 := RB.cell (i := 2) (v := .bool s2) rfl
    have g3 := RB.cell (i := 3) (v := .int .i64 s3) rfl
    have g4 := RB.cell (i := 4) (v := .int .i64 s4) rfl
    have g5 := RB.cell (i := 5) (v := .string s5) rfl
    have g6 := RB.cell (i := 6) (v := .string s6) rfl
    have g7 := RB.cell (i := 7) (v := .string s7) rfl
    have g8 := RB.cell (i := 8) (v := s8) rfl
    have g9 := RB.cell (i := 9) (v := s9) rfl
    go_wp2_with fail
    clear g0 g1 g2 g3 g4 g5 g6 g7 g8 g9
    generalize (v6.alloc (.cells #[.int .i64 c0, .int .i64 c1, .bool c2, .int .i64 c3, .int .i64 c4, .string c5, .string c6, .string c7, .slice va8 vn8 vp8, .slice va9 vn9 vp9] 34)) = v7 at RA RB RX HB vr8 vr9 ⊢
    generalize v6.heap.size = BX at RX ⊢
    refine (hU _ HB).mono ?_
    rintro e v8 ⟨jy8, jy9, rfl, jr8, jr9, hb⟩
    obtain ⟨ja8, jn8, jp8, rfl⟩ := jr8.slice_of l8 rfl
    replace jr8 := jr8.low (Nat.zero_le _)
    obtain ⟨ja9, jn9, jp9, rfl⟩ := jr9.slice_of l9 rfl
    replace jr9 := jr9.low (Nat.zero_le _)
    replace RX := RX.later hb
    replace vr8 := vr8.later hb
    replace vr9 := vr9.later hb
    replace HB := HB.trans (hb.mono HB.size)
    replace RA := RA.later hb
    replace RB := RB.later hb
    clear hb
    have RY := RowAt.new v8 34 #[.int .i64 s0, .int .i64 s1, .bool s2, .int .i64 s3, .int .i64 s4, .string s5, .string s6, .string s7, .slice ja8 jn8 jp8, .slice ja9 jn9 jp9]
    have hbx : Below v8.heap.size v8 (v8.alloc (.cells #[.int .i64 s0, .int .i64 s1, .bool s2, .int .i64 s3, .int .i64 s4, .string s5, .string s6, .string s7, .slice ja8 jn8 jp8, .slice ja9 jn9 jp9] 34)) := (Below.refl _ _).alloc (Nat.le_refl _) _
    replace HB := HB.trans (hbx.mono HB.size)
    replace RA := RA.later hbx
    replace RB := RB.later hbx
    replace jr8 := jr8.later hbx
    replace jr9 := jr9.later hbx
    replace RX := RX.later hbx
    replace vr8 := vr8.later hbx
    replace vr9 := vr9.later hbx
    clear hbx
    have x0 := RX.cell (i := 0) (v := .int .i64 c0) rfl
    have x1 := RX.cell (i := 1) (v := .int .i64 c1) rfl
    have x2 := RX.cell (i := 2) (v := .bool c2) rfl
    have x3 := RX.cell (i := 3) (v := .int .i64 c3) rfl
    have x4 := RX.cell (i := 4) (v := .int .i64 c4) rfl
    have x5 := RX.cell (i := 5) (v := .string c5) rfl
    have x6 := RX.cell (i := 6) (v := .string c6) rfl
    have x7 := RX.cell (i := 7) (v := .string c7) rfl
    have x8 := RX.cell (i := 8) (v := .slice va8 vn8 vp8) rfl
    have x9 := RX.cell (i := 9) (v := .slice va9 vn9 vp9) rfl
    go_wp2_with fail
    clear x0 x1 x2 x3 x4 x5 x6 x7 x8 x9
    generalize (v8.alloc (.cells #[.int .i64 s0, .int .i64 s1, .bool s2, .int .i64 s3, .int .i64 s4, .string s5, .string s6, .string s7, .slice ja8 jn8 jp8, .slice ja9 jn9 jp9] 34)) = v9 at RA RB RX RY HB vr8 vr9 jr8 jr9 ⊢
    generalize v8.heap.size = BY at RY ⊢
    refine (hI _ _ _ _ _ vr8 vr9 jr8 jr9).mono ?_
    rintro e v10 ⟨rfl, hb⟩
    clear hI
    replace RX := RX.later hb
    replace vr8 := vr8.later hb
    replace vr9 := vr9.later hb
    replace RY := RY.later hb
    replace jr8 := jr8.later hb
    replace jr9 := jr9.later hb
    replace HB := HB.trans (hb.mono HB.size)
    replace RA := RA.later hb
    replace RB := RB.later hb
    clear hb
    have a0 := RA.cell (i := 0) (v := .int .i64 c0) rfl
    have a1 := RA.cell (i := 1) (v := .int .i64 c1) rfl
    have a2 := RA.cell (i := 2) (v := .bool c2) rfl
    have a3 := RA.cell (i := 3) (v := .int .i64 c3) rfl
    have a4 := RA.cell (i := 4) (v := .int .i64 c4) rfl
    have a5 := RA.cell (i := 5) (v := .string c5) rfl
    have a6 := RA.cell (i := 6) (v := .string c6) rfl
    have a7 := RA.cell (i := 7) (v := .string c7) rfl
    have a8 := RA.cell (i := 8) (v := c8) rfl
    have a9 := RA.cell (i := 9) (v := c9) rfl
    have x0 := RX.cell (i := 0) (v := .int .i64 c0) rfl
    have x1 := RX.cell (i := 1) (v := .int .i64 c1) rfl
    have x2 := RX.cell (i := 2) (v := .bool c2) rfl
    have x3 := RX.cell (i := 3) (v := .int .i64 c3) rfl
    have x4 := RX.cell (i := 4) (v := .int .i64 c4) rfl
    have x5 := RX.cell (i := 5) (v := .string c5) rfl
    have x6 := RX.cell (i := 6) (v := .string c6) rfl
    have x7 := RX.cell (i := 7) (v := .string c7) rfl
    have x8 := RX.cell (i := 8) (v := .slice va8 vn8 vp8) rfl
    have x9 := RX.cell (i := 9) (v := .slice va9 vn9 vp9) rfl
    go_wp2_with fail
    have hT1 := hT
    have hE := fun (K8 K9 : Value) v (h : Below v10.heap.size v10 v) (hK8 : Rd v 0 K8 (c 8)) (hK9 : Rd v 0 K9 (c 9)) => eqExpr_any c0 c1 c2 c3 c4 c5 c6 c7 (.slice va8 vn8 vp8) (.slice va9 vn9 vp9) K8 K9 (c 8) (c 9) v (eqAll (c 8) _ rfl) (eqAll (c 9) _ rfl) (vr8.later h) hK8 q8 (vr9.later h) hK9 q9
    go_region_with (first
      | (go_at_call 19; refine (hT1 _ (by first | exact HB | exact HB.drew)).mono ?_; clear hT1; rintro e v11 ⟨ty8, ty9, rfl, tr8, tr9, hb3⟩; have hb3' : Below v10.heap.size v10 v11 := (by first | exact hb3 | exact (Below.refl _ _).drew.trans hb3); have R3 := RX.later hb3'; clear x0 x1 x2 x3 x4 x5 x6 x7 x8 x9; have x0 := R3.cell (i := 0) (v := .int .i64 c0) rfl; have x1 := R3.cell (i := 1) (v := .int .i64 c1) rfl; have x2 := R3.cell (i := 2) (v := .bool c2) rfl; have x3 := R3.cell (i := 3) (v := .int .i64 c3) rfl; have x4 := R3.cell (i := 4) (v := .int .i64 c4) rfl; have x5 := R3.cell (i := 5) (v := .string c5) rfl; have x6 := R3.cell (i := 6) (v := .string c6) rfl; have x7 := R3.cell (i := 7) (v := .string c7) rfl; have x8 := R3.cell (i := 8) (v := .slice va8 vn8 vp8) rfl; have x9 := R3.cell (i := 9) (v := .slice va9 vn9 vp9) rfl)
      | (go_at_call 21; refine (hE _ _ _ (by first | exact hb3' | exact hb3'.drew) (tr8.low (Nat.zero_le _)) (tr9.low (Nat.zero_le _))).mono ?_; clear hE; rintro e v12 ⟨rfl, hb4⟩; have hb4' : Below v11.heap.size v11 v12 := (by first | exact hb4 | exact (Below.refl _ _).drew.trans hb4)))
    all_goals
      have hb := hb3'.trans (hb4'.mono hb3'.size)
      replace RY := RY.later hb
      replace jr8 := jr8.later hb
      replace jr9 := jr9.later hb
      replace HB := HB.trans (hb.mono HB.size)
      replace RB := RB.later hb
      clear hb hb3 hb4 hb3' hb4' R3 RX RA tr8 tr9 vr8 vr9 
      have g0 := RB.cell (i := 0) (v := .int .i64 s0) rfl
      have g1 := RB.cell (i := 1) (v := .int .i64 s1) rfl
      have g2 := RB.cell (i := 2) (v := .bool s2) rfl
      have g3 := RB.cell (i := 3) (v := .int .i64 s3) rfl
      have g4 := RB.cell (i := 4) (v := .int .i64 s4) rfl
      have g5 := RB.cell (i := 5) (v := .string s5) rfl
      have g6 := RB.cell (i := 6) (v := .string s6) rfl
      have g7 := RB.cell (i := 7) (v := .string s7) rfl
      have g8 := RB.cell (i := 8) (v := s8) rfl
      have g9 := RB.cell (i := 9) (v := s9) rfl
      have y0 := RY.cell (i := 0) (v := .int .i64 s0) rfl
      have y1 := RY.cell (i := 1) (v := .int .i64 s1) rfl
      have y2 := RY.cell (i := 2) (v := .bool s2) rfl
      have y3 := RY.cell (i := 3) (v := .int .i64 s3) rfl
      have y4 := RY.cell (i := 4) (v := .int .i64 s4) rfl
      have y5 := RY.cell (i := 5) (v := .string s5) rfl
      have y6 := RY.cell (i := 6) (v := .string s6) rfl
      have y7 := RY.cell (i := 7) (v := .string s7) rfl
      have y8 := RY.cell (i := 8) (v := .slice ja8 jn8 jp8) rfl
      have y9 := RY.cell (i := 9) (v := .slice ja9 jn9 jp9) rfl
      go_wp2_with fail
      have hT1 := hU
      have hE := fun (K8 K9 : Value) v (h : Below v12.heap.size v12 v) (hK8 : Rd v 0 K8 (d 8)) (hK9 : Rd v 0 K9 (d 9)) => eqExpr_any s0 s1 s2 s3 s4 s5 s6 s7 (.slice ja8 jn8 jp8) (.slice ja9 jn9 jp9) K8 K9 (d 8) (d 9) v (eqAll (d 8) _ rfl) (eqAll (d 9) _ rfl) (jr8.later h) hK8 l8 (jr9.later h) hK9 l9
      go_region_with (first
        | (go_at_call 19; refine (hT1 _ (by first | exact HB | exact HB.drew)).mono ?_; clear hT1; rintro e v13 ⟨ty8, ty9, rfl, tr8, tr9, hb3⟩; have hb3' : Below v12.heap.size v12 v13 := (by first | exact hb3 | exact (Below.refl _ _).drew.trans hb3); have R3 := RY.later hb3'; clear y0 y1 y2 y3 y4 y5 y6 y7 y8 y9; have y0 := R3.cell (i := 0) (v := .int .i64 s0) rfl; have y1 := R3.cell (i := 1) (v := .int .i64 s1) rfl; have y2 := R3.cell (i := 2) (v := .bool s2) rfl; have y3 := R3.cell (i := 3) (v := .int .i64 s3) rfl; have y4 := R3.cell (i := 4) (v := .int .i64 s4) rfl; have y5 := R3.cell (i := 5) (v := .string s5) rfl; have y6 := R3.cell (i := 6) (v := .string s6) rfl; have y7 := R3.cell (i := 7) (v := .string s7) rfl; have y8 := R3.cell (i := 8) (v := .slice ja8 jn8 jp8) rfl; have y9 := R3.cell (i := 9) (v := .slice ja9 jn9 jp9) rfl)
        | (go_at_call 21; refine (hE _ _ _ (by first | exact hb3' | exact hb3'.drew) (tr8.low (Nat.zero_le _)) (tr9.low (Nat.zero_le _))).mono ?_; clear hE; rintro e v14 ⟨rfl, hb4⟩; have hb4' : Below v13.heap.size v13 v14 := (by first | exact hb4 | exact (Below.refl _ _).drew.trans hb4)))
      all_goals
        have hbb := HB.trans ((hb3'.trans (hb4'.mono hb3'.size)).mono HB.size)
        go_wp2_with fail
        go_ret
        exact ⟨rfl, hbb⟩
end Go.Proofs.Ytbbfanhhldbhhaa
