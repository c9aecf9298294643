/- Joined texts: ExSameT. -/
import Derived.Test.YtfmgkinindkedaaQHToS
import Derived.Test.YtfmgkinindkedaaQHSzS
import Derived.Test.YtfmgkinindkedaaQHEqS
import Derived.Test.YtfmgkinindkedaaQHExLaw
import Derived.Test.YtfmgkinindkedaaQSSH
import Derived.Deep.RegionWith
import Derived.Deep.Cut
import Derived.Deep.CutRange
/- The walks of the exact laws on two trees that are compared. -/
namespace Go.Proofs.Ytfmgkinindkedaa
open Go.RowKit

set_option maxRecDepth 100000 in
set_option maxHeartbeats 8000000 in
theorem ex_SameStmt (V : Bool) (c d : Nat → Dat) (c0 : Int) (c1 : Bool) (c2 : Value) (c3 : Value) (c4 : Value) (c5 : Value) (c6 : Int) (c7 : ByteArray) (c8 : Value) (c9 : Value) (c10 : Value) (c11 : Value) (s0 : Int) (s1 : Bool) (s2 : Value) (s3 : Value) (s4 : Value) (s5 : Value) (s6 : Int) (s7 : ByteArray) (s8 : Value) (s9 : Value) (s10 : Value) (s11 : Value) (w : World) (r2 : Rd w 0 c2 (c 2)) (q2 : Fits (c 2) .items) (r3 : Rd w 0 c3 (c 3)) (q3 : Fits (c 3) .sources) (r4 : Rd w 0 c4 (c 4)) (q4 : Fits (c 4) .exprs) (r5 : Rd w 0 c5 (c 5)) (q5 : Fits (c 5) .keys) (r8 : Rd w 0 c8 (c 8)) (q8 : Fits (c 8) .rows) (r9 : Rd w 0 c9 (c 9)) (q9 : Fits (c 9) .names) (r10 : Rd w 0 c10 (c 10)) (q10 : Fits (c 10) .exprs) (r11 : Rd w 0 c11 (c 11)) (q11 : Fits (c 11) .exprs) (b7 : c7.size ≤ 9223372036854775807) (k2 : Rd w 0 s2 (d 2)) (l2 : Fits (d 2) .items) (k3 : Rd w 0 s3 (d 3)) (l3 : Fits (d 3) .sources) (k4 : Rd w 0 s4 (d 4)) (l4 : Fits (d 4) .exprs) (k5 : Rd w 0 s5 (d 5)) (l5 : Fits (d 5) .keys) (k8 : Rd w 0 s8 (d 8)) (l8 : Fits (d 8) .rows) (k9 : Rd w 0 s9 (d 9)) (l9 : Fits (d 9) .names) (k10 : Rd w 0 s10 (d 10)) (l10 : Fits (d 10) .exprs) (k11 : Rd w 0 s11 (d 11)) (l11 : Fits (d 11) .exprs) (h7 : s7.size ≤ 9223372036854775807)
    (hS : ∀ (X2 X3 X4 X5 X8 X9 X10 X11 Y2 Y3 Y4 Y5 Y8 Y9 Y10 Y11 : Value) (v : World), Rd v 0 X2 (c 2) → Rd v 0 X3 (c 3) → Rd v 0 X4 (c 4) → Rd v 0 X5 (c 5) → Rd v 0 X8 (c 8) → Rd v 0 X9 (c 9) → Rd v 0 X10 (c 10) → Rd v 0 X11 (c 11) → Rd v 0 Y2 (d 2) → Rd v 0 Y3 (d 3) → Rd v 0 Y4 (d 4) → Rd v 0 Y5 (d 5) → Rd v 0 Y8 (d 8) → Rd v 0 Y9 (d 9) → Rd v 0 Y10 (d 10) → Rd v 0 Y11 (d 11) → Calls Try.prog 36 #[.agg #[.int .i64 c0, .bool c1, X2, X3, X4, X5, .int .i64 c6, .string c7, X8, X9, X10, X11], .agg #[.int .i64 s0, .bool s1, Y2, Y3, Y4, Y5, .int .i64 s6, .string s7, Y8, Y9, Y10, Y11]] v (BoolE V v))
    (hI : msr (c 2) + msr (c 3) + msr (c 4) + msr (c 5) + msr (c 8) + msr (c 9) + msr (c 10) + msr (c 11) ≤ 1048576 → msr (d 2) + msr (d 3) + msr (d 4) + msr (d 5) + msr (d 8) + msr (d 9) + msr (d 10) + msr (d 11) ≤ 1048576 → ∀ (X2 X3 X4 X5 X8 X9 X10 X11 Y2 Y3 Y4 Y5 Y8 Y9 Y10 Y11 : Value) (v : World), Rd v 0 X2 (c 2) → Rd v 0 X3 (c 3) → Rd v 0 X4 (c 4) → Rd v 0 X5 (c 5) → Rd v 0 X8 (c 8) → Rd v 0 X9 (c 9) → Rd v 0 X10 (c 10) → Rd v 0 X11 (c 11) → Rd v 0 Y2 (d 2) → Rd v 0 Y3 (d 3) → Rd v 0 Y4 (d 4) → Rd v 0 Y5 (d 5) → Rd v 0 Y8 (d 8) → Rd v 0 Y9 (d 9) → Rd v 0 Y10 (d 10) → Rd v 0 Y11 (d 11) → Calls Try.prog 37 #[.agg #[.int .i64 c0, .bool c1, X2, X3, X4, X5, .int .i64 c6, .string c7, X8, X9, X10, X11], .agg #[.int .i64 s0, .bool s1, Y2, Y3, Y4, Y5, .int .i64 s6, .string s7, Y8, Y9, Y10, Y11]] v (BoolE V v)) :
    Calls Try.prog 10 #[.agg #[.int .i64 c0, .bool c1, c2, c3, c4, c5, .int .i64 c6, .string c7, c8, c9, c10, c11], .agg #[.int .i64 s0, .bool s1, s2, s3, s4, s5, .int .i64 s6, .string s7, s8, s9, s10, s11]] w (BoolE true w) := by
  have hZ := fun w h => szStmt_any c0 c1 c2 c3 c4 c5 c6 c7 c8 c9 c10 c11 (c 2) (c 3) (c 4) (c 5) (c 8) (c 9) (c 10) (c 11) 1048576 w (by omega) (by omega) (szAll (c 2) _ rfl) (szAll (c 3) _ rfl) (szAll (c 4) _ rfl) (szAll (c 5) _ rfl) (szRows_all (c 8)) (szNames_all (c 9)) (szAll (c 10) _ rfl) (szAll (c 11) _ rfl) (Rd.later r2 h) q2 (Rd.later r3 h) q3 (Rd.later r4 h) q4 (Rd.later r5 h) q5 (Rd.later r8 h) q8 (Rd.later r9 h) q9 (Rd.later r10 h) q10 (Rd.later r11 h) q11 b7
  by_cases hbig : (1048576 : Int) - ((msr (c 2) + msr (c 3) + msr (c 4) + msr (c 5)) + c7.size + msr (c 8) + msr (c 9) + msr (c 10) + msr (c 11) : Int) < 0
  · simp only [leftOf_no hbig] at hZ
    go_enter Try.func10, Try.ntmps10
    go_wp2_with fail
    have RA : RowAt ((w.alloc (.cells #[.int .i64 c0, .bool c1, c2, c3, c4, c5, .int .i64 c6, .string c7, c8, c9, c10, c11] 31)).alloc (.cells #[.int .i64 s0, .bool s1, s2, s3, s4, s5, .int .i64 s6, .string s7, s8, s9, s10, s11] 31)) w.heap.size 31 #[.int .i64 c0, .bool c1, c2, c3, c4, c5, .int .i64 c6, .string c7, c8, c9, c10, c11] := (RowAt.new w 31 #[.int .i64 c0, .bool c1, c2, c3, c4, c5, .int .i64 c6, .string c7, c8, c9, c10, c11]).alloc (.cells #[.int .i64 s0, .bool s1, s2, s3, s4, s5, .int .i64 s6, .string s7, s8, s9, s10, s11] 31)
    have RB : RowAt ((w.alloc (.cells #[.int .i64 c0, .bool c1, c2, c3, c4, c5, .int .i64 c6, .string c7, c8, c9, c10, c11] 31)).alloc (.cells #[.int .i64 s0, .bool s1, s2, s3, s4, s5, .int .i64 s6, .string s7, s8, s9, s10, s11] 31)) (w.heap.size + 1) 31 #[.int .i64 s0, .bool s1, s2, s3, s4, s5, .int .i64 s6, .string s7, s8, s9, s10, s11] := RowAt.new1 w (.cells #[.int .i64 c0, .bool c1, c2, c3, c4, c5, .int .i64 c6, .string c7, c8, c9, c10, c11] 31) 31 #[.int .i64 s0, .bool s1, s2, s3, s4, s5, .int .i64 s6, .string s7, s8, s9, s10, s11]
    have HB : Below w.heap.size w ((w.alloc (.cells #[.int .i64 c0, .bool c1, c2, c3, c4, c5, .int .i64 c6, .string c7, c8, c9, c10, c11] 31)).alloc (.cells #[.int .i64 s0, .bool s1, s2, s3, s4, s5, .int .i64 s6, .string s7, s8, s9, s10, s11] 31)) := ((Below.refl w.heap.size w).alloc (Nat.le_refl _) (.cells #[.int .i64 c0, .bool c1, c2, c3, c4, c5, .int .i64 c6, .string c7, c8, c9, c10, c11] 31)).alloc (by simp) (.cells #[.int .i64 s0, .bool s1, s2, s3, s4, s5, .int .i64 s6, .string s7, s8, s9, s10, s11] 31)
    generalize ((w.alloc (.cells #[.int .i64 c0, .bool c1, c2, c3, c4, c5, .int .i64 c6, .string c7, c8, c9, c10, c11] 31)).alloc (.cells #[.int .i64 s0, .bool s1, s2, s3, s4, s5, .int .i64 s6, .string s7, s8, s9, s10, s11] 31)) = v0 at RA RB HB ⊢
    refine (hZ _ HB).mono ?_
    rintro e v1 ⟨rfl, hb⟩
    replace HB := HB.trans (hb.mono HB.size)
    replace RA := RA.later hb
    replace RB := RB.later hb
    clear hb
    go_wp2_with fail
    go_ret
    exact ⟨rfl, HB⟩
  obtain ⟨z, hz⟩ : ∃ z : Int, z = 1048576 - ((msr (c 2) + msr (c 3) + msr (c 4) + msr (c 5)) + c7.size + msr (c 8) + msr (c 9) + msr (c 10) + msr (c 11) : Int) := ⟨_, rfl⟩
  have hz0 : decide (z < 0) = false := by simp; omega
  have hzb : 0 ≤ z := by omega
  have hzt : z ≤ 1048576 := by omega
  simp only [(leftOf_yes hbig).trans hz.symm] at hZ
  have hY := fun w h => szStmt_any s0 s1 s2 s3 s4 s5 s6 s7 s8 s9 s10 s11 (d 2) (d 3) (d 4) (d 5) (d 8) (d 9) (d 10) (d 11) z w (by omega) (by omega) (szAll (d 2) _ rfl) (szAll (d 3) _ rfl) (szAll (d 4) _ rfl) (szAll (d 5) _ rfl) (szRows_all (d 8)) (szNames_all (d 9)) (szAll (d 10) _ rfl) (szAll (d 11) _ rfl) (Rd.later k2 h) l2 (Rd.later k3 h) l3 (Rd.later k4 h) l4 (Rd.later k5 h) l5 (Rd.later k8 h) l8 (Rd.later k9 h) l9 (Rd.later k10 h) l10 (Rd.later k11 h) l11 h7
  by_cases hbig2 : (z : Int) - ((msr (d 2) + msr (d 3) + msr (d 4) + msr (d 5)) + s7.size + msr (d 8) + msr (d 9) + msr (d 10) + msr (d 11) : Int) < 0
  · simp only [leftOf_no hbig2] at hY
    clear hz hbig hbig2
    go_enter Try.func10, Try.ntmps10
    go_wp2_with fail
    have RA : RowAt ((w.alloc (.cells #[.int .i64 c0, .bool c1, c2, c3, c4, c5, .int .i64 c6, .string c7, c8, c9, c10, c11] 31)).alloc (.cells #[.int .i64 s0, .bool s1, s2, s3, s4, s5, .int .i64 s6, .string s7, s8, s9, s10, s11] 31)) w.heap.size 31 #[.int .i64 c0, .bool c1, c2, c3, c4, c5, .int .i64 c6, .string c7, c8, c9, c10, c11] := (RowAt.new w 31 #[.int .i64 c0, .bool c1, c2, c3, c4, c5, .int .i64 c6, .string c7, c8, c9, c10, c11]).alloc (.cells #[.int .i64 s0, .bool s1, s2, s3, s4, s5, .int .i64 s6, .string s7, s8, s9, s10, s11] 31)
    have RB : RowAt ((w.alloc (.cells #[.int .i64 c0, .bool c1, c2, c3, c4, c5, .int .i64 c6, .string c7, c8, c9, c10, c11] 31)).alloc (.cells #[.int .i64 s0, .bool s1, s2, s3, s4, s5, .int .i64 s6, .string s7, s8, s9, s10, s11] 31)) (w.heap.size + 1) 31 #[.int .i64 s0, .bool s1, s2, s3, s4, s5, .int .i64 s6, .string s7, s8, s9, s10, s11] := RowAt.new1 w (.cells #[.int .i64 c0, .bool c1, c2, c3, c4, c5, .int .i64 c6, .string c7, c8, c9, c10, c11] 31) 31 #[.int .i64 s0, .bool s1, s2, s3, s4, s5, .int .i64 s6, .string s7, s8, s9, s10, s11]
    have HB : Below w.heap.size w ((w.alloc (.cells #[.int .i64 c0, .bool c1, c2, c3, c4, c5, .int .i64 c6, .string c7, c8, c9, c10, c11] 31)).alloc (.cells #[.int .i64 s0, .bool s1, s2, s3, s4, s5, .int .i64 s6, .string s7, s8, s9, s10, s11] 31)) := ((Below.refl w.heap.size w).alloc (Nat.le_refl _) (.cells #[.int .i64 c0, .bool c1, c2, c3, c4, c5, .int .i64 c6, .string c7, c8, c9, c10, c11] 31)).alloc (by simp) (.cells #[.int .i64 s0, .bool s1, s2, s3, s4, s5, .int .i64 s6, .string s7, s8, s9, s10, s11] 31)
    generalize ((w.alloc (.cells #[.int .i64 c0, .bool c1, c2, c3, c4, c5, .int .i64 c6, .string c7, c8, c9, c10, c11] 31)).alloc (.cells #[.int .i64 s0, .bool s1, s2, s3, s4, s5, .int .i64 s6, .string s7, s8, s9, s10, s11] 31)) = v0 at RA RB HB ⊢
    refine (hZ _ HB).mono ?_
    rintro e v1 ⟨rfl, hb⟩
    replace HB := HB.trans (hb.mono HB.size)
    replace RA := RA.later hb
    replace RB := RB.later hb
    clear hb
    have g0 := RB.cell (i := 0) (v := .int .i64 s0) rfl
    have g1 := RB.cell (i := 1) (v := .bool s1) rfl
    have g2 := RB.cell (i := 2) (v := s2) rfl
    have g3 := RB.cell (i := 3) (v := s3) rfl
    have g4 := RB.cell (i := 4) (v := s4) rfl
    have g5 := RB.cell (i := 5) (v := s5) rfl
    have g6 := RB.cell (i := 6) (v := .int .i64 s6) rfl
    have g7 := RB.cell (i := 7) (v := .string s7) rfl
    have g8 := RB.cell (i := 8) (v := s8) rfl
    have g9 := RB.cell (i := 9) (v := s9) rfl
    have g10 := RB.cell (i := 10) (v := s10) rfl
    have g11 := RB.cell (i := 11) (v := s11) rfl
    go_wp2_with fail
    refine (hY _ HB).mono ?_
    rintro e v2 ⟨rfl, hb⟩
    clear g0 g1 g2 g3 g4 g5 g6 g7 g8 g9 g10 g11
    replace HB := HB.trans (hb.mono HB.size)
    replace RA := RA.later hb
    replace RB := RB.later hb
    clear hb
    go_wp2_with fail
    go_ret
    exact ⟨rfl, HB⟩
  have m2 : msr (c 2) ≤ 1048576 := by omega
  have n2 : msr (d 2) ≤ 1048576 := by omega
  have m3 : msr (c 3) ≤ 1048576 := by omega
  have n3 : msr (d 3) ≤ 1048576 := by omega
  have m4 : msr (c 4) ≤ 1048576 := by omega
  have n4 : msr (d 4) ≤ 1048576 := by omega
  have m5 : msr (c 5) ≤ 1048576 := by omega
  have n5 : msr (d 5) ≤ 1048576 := by omega
  have m8 : msr (c 8) ≤ 1048576 := by omega
  have n8 : msr (d 8) ≤ 1048576 := by omega
  have m9 : msr (c 9) ≤ 1048576 := by omega
  have n9 : msr (d 9) ≤ 1048576 := by omega
  have m10 : msr (c 10) ≤ 1048576 := by omega
  have n10 : msr (d 10) ≤ 1048576 := by omega
  have m11 : msr (c 11) ≤ 1048576 := by omega
  have n11 : msr (d 11) ≤ 1048576 := by omega
  replace hI := hI (by omega) (by omega)
  obtain ⟨zz, hzz⟩ : ∃ zz : Int, zz = z - ((msr (d 2) + msr (d 3) + msr (d 4) + msr (d 5)) + s7.size + msr (d 8) + msr (d 9) + msr (d 10) + msr (d 11) : Int) := ⟨_, rfl⟩
  have hzz0 : decide (zz < 0) = false := by simp; omega
  simp only [(leftOf_yes hbig2).trans hzz.symm] at hY
  clear hz hbig hzz hbig2 hzb hzt
  have hVV : (V != V) = false := by simp
  have hT := fun v (h : Below w.heap.size w v) => toStmt_any c0 c1 c2 c3 c4 c5 c6 c7 c8 c9 c10 c11 (c 2) (c 3) (c 4) (c 5) (c 8) (c 9) (c 10) (c 11) v (toAll (c 2) _ rfl) (toAll (c 3) _ rfl) (toAll (c 4) _ rfl) (toAll (c 5) _ rfl) (toRows_all (c 8)) (toNames_all (c 9)) (toAll (c 10) _ rfl) (toAll (c 11) _ rfl) (r2.later h) q2 m2 (r3.later h) q3 m3 (r4.later h) q4 m4 (r5.later h) q5 m5 (r8.later h) q8 m8 (r9.later h) q9 m9 (r10.later h) q10 m10 (r11.later h) q11 m11
  have hU := fun v (h : Below w.heap.size w v) => toStmt_any s0 s1 s2 s3 s4 s5 s6 s7 s8 s9 s10 s11 (d 2) (d 3) (d 4) (d 5) (d 8) (d 9) (d 10) (d 11) v (toAll (d 2) _ rfl) (toAll (d 3) _ rfl) (toAll (d 4) _ rfl) (toAll (d 5) _ rfl) (toRows_all (d 8)) (toNames_all (d 9)) (toAll (d 10) _ rfl) (toAll (d 11) _ rfl) (k2.later h) l2 n2 (k3.later h) l3 n3 (k4.later h) l4 n4 (k5.later h) l5 n5 (k8.later h) l8 n8 (k9.later h) l9 n9 (k10.later h) l10 n10 (k11.later h) l11 n11
  go_enter Try.func10, Try.ntmps10
  go_wp2_with fail
  have RA : RowAt ((w.alloc (.cells #[.int .i64 c0, .bool c1, c2, c3, c4, c5, .int .i64 c6, .string c7, c8, c9, c10, c11] 31)).alloc (.cells #[.int .i64 s0, .bool s1, s2, s3, s4, s5, .int .i64 s6, .string s7, s8, s9, s10, s11] 31)) w.heap.size 31 #[.int .i64 c0, .bool c1, c2, c3, c4, c5, .int .i64 c6, .string c7, c8, c9, c10, c11] := (RowAt.new w 31 #[.int .i64 c0, .bool c1, c2, c3, c4, c5, .int .i64 c6, .string c7, c8, c9, c10, c11]).alloc (.cells #[.int .i64 s0, .bool s1, s2, s3, s4, s5, .int .i64 s6, .string s7, s8, s9, s10, s11] 31)
  have RB : RowAt ((w.alloc (.cells #[.int .i64 c0, .bool c1, c2, c3, c4, c5, .int .i64 c6, .string c7, c8, c9, c10, c11] 31)).alloc (.cells #[.int .i64 s0, .bool s1, s2, s3, s4, s5, .int .i64 s6, .string s7, s8, s9, s10, s11] 31)) (w.heap.size + 1) 31 #[.int .i64 s0, .bool s1, s2, s3, s4, s5, .int .i64 s6, .string s7, s8, s9, s10, s11] := RowAt.new1 w (.cells #[.int .i64 c0, .bool c1, c2, c3, c4, c5, .int .i64 c6, .string c7, c8, c9, c10, c11] 31) 31 #[.int .i64 s0, .bool s1, s2, s3, s4, s5, .int .i64 s6, .string s7, s8, s9, s10, s11]
  have HB : Below w.heap.size w ((w.alloc (.cells #[.int .i64 c0, .bool c1, c2, c3, c4, c5, .int .i64 c6, .string c7, c8, c9, c10, c11] 31)).alloc (.cells #[.int .i64 s0, .bool s1, s2, s3, s4, s5, .int .i64 s6, .string s7, s8, s9, s10, s11] 31)) := ((Below.refl w.heap.size w).alloc (Nat.le_refl _) (.cells #[.int .i64 c0, .bool c1, c2, c3, c4, c5, .int .i64 c6, .string c7, c8, c9, c10, c11] 31)).alloc (by simp) (.cells #[.int .i64 s0, .bool s1, s2, s3, s4, s5, .int .i64 s6, .string s7, s8, s9, s10, s11] 31)
  generalize ((w.alloc (.cells #[.int .i64 c0, .bool c1, c2, c3, c4, c5, .int .i64 c6, .string c7, c8, c9, c10, c11] 31)).alloc (.cells #[.int .i64 s0, .bool s1, s2, s3, s4, s5, .int .i64 s6, .string s7, s8, s9, s10, s11] 31)) = v0 at RA RB HB ⊢
  refine (hZ _ HB).mono ?_
  rintro e v1 ⟨rfl, hb⟩
  clear hZ
  replace HB := HB.trans (hb.mono HB.size)
  replace RA := RA.later hb
  replace RB := RB.later hb
  clear hb
  have g0 := RB.cell (i := 0) (v := .int .i64 s0) rfl
  have g1 := RB.cell (i := 1) (v := .bool s1) rfl
  have g2 := RB.cell (i := 2) (v := s2) rfl
  have g3 := RB.cell (i := 3) (v := s3) rfl
  have g4 := RB.cell (i := 4) (v := s4) rfl
  have g5 := RB.cell (i := 5) (v := s5) rfl
  have g6 := RB.cell (i := 6) (v := .int .i64 s6) rfl
  have g7 := RB.cell (i := 7) (v := .string s7) rfl
  have g8 := RB.cell (i := 8) (v := s8) rfl
  have g9 := RB.cell (i := 9) (v := s9) rfl
  have g10 := RB.cell (i := 10) (v := s10) rfl
  have g11 := RB.cell (i := 11) (v := s11) rfl
  go_wp2_with fail
  refine (hY _ HB).mono ?_
  rintro e v2 ⟨rfl, hb⟩
  clear hY
  clear g0 g1 g2 g3 g4 g5 g6 g7 g8 g9 g10 g11
  replace HB := HB.trans (hb.mono HB.size)
  replace RA := RA.later hb
  replace RB := RB.later hb
  clear hb
  have a0 := RA.cell (i := 0) (v := .int .i64 c0) rfl
  have a1 := RA.cell (i := 1) (v := .bool c1) rfl
  have a2 := RA.cell (i := 2) (v := c2) rfl
  have a3 := RA.cell (i := 3) (v := c3) rfl
  have a4 := RA.cell (i := 4) (v := c4) rfl
  have a5 := RA.cell (i := 5) (v := c5) rfl
  have a6 := RA.cell (i := 6) (v := .int .i64 c6) rfl
  have a7 := RA.cell (i := 7) (v := .string c7) rfl
  have a8 := RA.cell (i := 8) (v := c8) rfl
  have a9 := RA.cell (i := 9) (v := c9) rfl
  have a10 := RA.cell (i := 10) (v := c10) rfl
  have a11 := RA.cell (i := 11) (v := c11) rfl
  have g0 := RB.cell (i := 0) (v := .int .i64 s0) rfl
  have g1 := RB.cell (i := 1) (v := .bool s1) rfl
  have g2 := RB.cell (i := 2) (v := s2) rfl
  have g3 := RB.cell (i := 3) (v := s3) rfl
  have g4 := RB.cell (i := 4) (v := s4) rfl
  have g5 := RB.cell (i := 5) (v := s5) rfl
  have g6 := RB.cell (i := 6) (v := .int .i64 s6) rfl
  have g7 := RB.cell (i := 7) (v := .string s7) rfl
  have g8 := RB.cell (i := 8) (v := s8) rfl
  have g9 := RB.cell (i := 9) (v := s9) rfl
  have g10 := RB.cell (i := 10) (v := s10) rfl
  have g11 := RB.cell (i := 11) (v := s11) rfl
  go_upto_region 8 with fail
  have hT1 := hT
  have hU1 := hU
  go_cut [6] from 20 to 24 (fun s6_ wx => s6_ = .bool V ∧ Below w.heap.size w wx ∧ RowAt wx w.heap.size 31 #[.int .i64 c0, .bool c1, c2, c3, c4, c5, .int .i64 c6, .string c7, c8, c9, c10, c11] ∧ RowAt wx (w.heap.size + 1) 31 #[.int .i64 s0, .bool s1, s2, s3, s4, s5, .int .i64 s6, .string s7, s8, s9, s10, s11])
  case first =>
    go_region_with (first
      | (go_at_call 15; refine (hT1 _ (by first | exact HB | exact HB.drew)).mono ?_; clear hT1; rintro e v3 ⟨uy2, uy3, uy4, uy5, uy8, uy9, uy10, uy11, rfl, ur2, ur3, ur4, ur5, ur8, ur9, ur10, ur11, hb3⟩; obtain ⟨ua2, un2, up2, rfl⟩ := ur2.slice_of q2 rfl; replace ur2 := ur2.low (Nat.zero_le _); obtain ⟨ua3, un3, up3, rfl⟩ := ur3.slice_of q3 rfl; replace ur3 := ur3.low (Nat.zero_le _); obtain ⟨ua4, un4, up4, rfl⟩ := ur4.slice_of q4 rfl; replace ur4 := ur4.low (Nat.zero_le _); obtain ⟨ua5, un5, up5, rfl⟩ := ur5.slice_of q5 rfl; replace ur5 := ur5.low (Nat.zero_le _); obtain ⟨ua8, un8, up8, rfl⟩ := ur8.slice_of q8 rfl; replace ur8 := ur8.low (Nat.zero_le _); obtain ⟨ua9, un9, up9, rfl⟩ := ur9.slice_of q9 rfl; replace ur9 := ur9.low (Nat.zero_le _); obtain ⟨ua10, un10, up10, rfl⟩ := ur10.slice_of q10 rfl; replace ur10 := ur10.low (Nat.zero_le _); obtain ⟨ua11, un11, up11, rfl⟩ := ur11.slice_of q11 rfl; replace ur11 := ur11.low (Nat.zero_le _); have hb3' : Below v2.heap.size v2 v3 := (by first | exact hb3 | exact (Below.refl _ _).drew.trans hb3); have RB3 := RB.later hb3'; clear a0 g0 a1 g1 a2 g2 a3 g3 a4 g4 a5 g5 a6 g6 a7 g7 a8 g8 a9 g9 a10 g10 a11 g11; have g0 := RB3.cell (i := 0) (v := .int .i64 s0) rfl; have g1 := RB3.cell (i := 1) (v := .bool s1) rfl; have g2 := RB3.cell (i := 2) (v := s2) rfl; have g3 := RB3.cell (i := 3) (v := s3) rfl; have g4 := RB3.cell (i := 4) (v := s4) rfl; have g5 := RB3.cell (i := 5) (v := s5) rfl; have g6 := RB3.cell (i := 6) (v := .int .i64 s6) rfl; have g7 := RB3.cell (i := 7) (v := .string s7) rfl; have g8 := RB3.cell (i := 8) (v := s8) rfl; have g9 := RB3.cell (i := 9) (v := s9) rfl; have g10 := RB3.cell (i := 10) (v := s10) rfl; have g11 := RB3.cell (i := 11) (v := s11) rfl; have HB3 := HB.trans (hb3'.mono HB.size))
      | (go_at_call 15; refine (hU1 _ (by first | exact HB3 | exact HB3.drew)).mono ?_; clear hU1; rintro e v4 ⟨iy2, iy3, iy4, iy5, iy8, iy9, iy10, iy11, rfl, ir2, ir3, ir4, ir5, ir8, ir9, ir10, ir11, hb4⟩; obtain ⟨ia2, in2, ip2, rfl⟩ := ir2.slice_of l2 rfl; replace ir2 := ir2.low (Nat.zero_le _); obtain ⟨ia3, in3, ip3, rfl⟩ := ir3.slice_of l3 rfl; replace ir3 := ir3.low (Nat.zero_le _); obtain ⟨ia4, in4, ip4, rfl⟩ := ir4.slice_of l4 rfl; replace ir4 := ir4.low (Nat.zero_le _); obtain ⟨ia5, in5, ip5, rfl⟩ := ir5.slice_of l5 rfl; replace ir5 := ir5.low (Nat.zero_le _); obtain ⟨ia8, in8, ip8, rfl⟩ := ir8.slice_of l8 rfl; replace ir8 := ir8.low (Nat.zero_le _); obtain ⟨ia9, in9, ip9, rfl⟩ := ir9.slice_of l9 rfl; replace ir9 := ir9.low (Nat.zero_le _); obtain ⟨ia10, in10, ip10, rfl⟩ := ir10.slice_of l10 rfl; replace ir10 := ir10.low (Nat.zero_le _); obtain ⟨ia11, in11, ip11, rfl⟩ := ir11.slice_of l11 rfl; replace ir11 := ir11.low (Nat.zero_le _); have hb4' : Below v3.heap.size v3 v4 := (by first | exact hb4 | exact (Below.refl _ _).drew.trans hb4); clear g0 g1 g2 g3 g4 g5 g6 g7 g8 g9 g10 g11; have HB4 := HB3.trans (hb4'.mono HB3.size))
      | (go_at_call 36; refine (hS _ _ _ _ _ _ _ _ _ _ _ _ _ _ _ _ _ ((ur2.later hb4').low (Nat.zero_le _)) ((ur3.later hb4').low (Nat.zero_le _)) ((ur4.later hb4').low (Nat.zero_le _)) ((ur5.later hb4').low (Nat.zero_le _)) ((ur8.later hb4').low (Nat.zero_le _)) ((ur9.later hb4').low (Nat.zero_le _)) ((ur10.later hb4').low (Nat.zero_le _)) ((ur11.later hb4').low (Nat.zero_le _)) ir2 ir3 ir4 ir5 ir8 ir9 ir10 ir11).mono ?_; rintro e v5 ⟨rfl, hb5⟩; have hb5' : Below v4.heap.size v4 v5 := (by first | exact hb5 | exact (Below.refl _ _).drew.trans hb5)))
    all_goals
      have HB5 := HB4.trans (hb5'.mono HB4.size)
      have RA5 := ((RA.later hb3').later hb4').later hb5'
      have RB5 := (RB3.later hb4').later hb5'
      go_wp2_with fail
      go_meet
      exact ⟨rfl, HB5, RA5, RB5⟩
  case rest =>
  clear HB RA RB hT1 hU1 hS a0 g0 a1 g1 a2 g2 a3 g3 a4 g4 a5 g5 a6 g6 a7 g7 a8 g8 a9 g9 a10 g10 a11 g11
  obtain ⟨rfl, HB, RA, RB⟩ := hcut
  have a0 := RA.cell (i := 0) (v := .int .i64 c0) rfl
  have a1 := RA.cell (i := 1) (v := .bool c1) rfl
  have a2 := RA.cell (i := 2) (v := c2) rfl
  have a3 := RA.cell (i := 3) (v := c3) rfl
  have a4 := RA.cell (i := 4) (v := c4) rfl
  have a5 := RA.cell (i := 5) (v := c5) rfl
  have a6 := RA.cell (i := 6) (v := .int .i64 c6) rfl
  have a7 := RA.cell (i := 7) (v := .string c7) rfl
  have a8 := RA.cell (i := 8) (v := c8) rfl
  have a9 := RA.cell (i := 9) (v := c9) rfl
  have a10 := RA.cell (i := 10) (v := c10) rfl
  have a11 := RA.cell (i := 11) (v := c11) rfl
  go_wp2_with fail
  refine (hT _ HB).mono ?_
  rintro e v6 ⟨vy2, vy3, vy4, vy5, vy8, vy9, vy10, vy11, rfl, vr2, vr3, vr4, vr5, vr8, vr9, vr10, vr11, hb⟩
  obtain ⟨va2, vn2, vp2, rfl⟩ := vr2.slice_of q2 rfl
  replace vr2 := vr2.low (Nat.zero_le _)
  obtain ⟨va3, vn3, vp3, rfl⟩ := vr3.slice_of q3 rfl
  replace vr3 := vr3.low (Nat.zero_le _)
  obtain ⟨va4, vn4, vp4, rfl⟩ := vr4.slice_of q4 rfl
  replace vr4 := vr4.low (Nat.zero_le _)
  obtain ⟨va5, vn5, vp5, rfl⟩ := vr5.slice_of q5 rfl
  replace vr5 := vr5.low (Nat.zero_le _)
  obtain ⟨va8, vn8, vp8, rfl⟩ := vr8.slice_of q8 rfl
  replace vr8 := vr8.low (Nat.zero_le _)
  obtain ⟨va9, vn9, vp9, rfl⟩ := vr9.slice_of q9 rfl
  replace vr9 := vr9.low (Nat.zero_le _)
  obtain ⟨va10, vn10, vp10, rfl⟩ := vr10.slice_of q10 rfl
  replace vr10 := vr10.low (Nat.zero_le _)
  obtain ⟨va11, vn11, vp11, rfl⟩ := vr11.slice_of q11 rfl
  replace vr11 := vr11.low (Nat.zero_le _)
  replace HB := HB.trans (hb.mono HB.size)
  replace RA := RA.later hb
  replace RB := RB.later hb
  clear hb
  clear a0 a1 a2 a3 a4 a5 a6 a7 a8 a9 a10 a11
  have RX := RowAt.new v6 42 #[.int .i64 c0, .bool c1, .slice va2 vn2 vp2, .slice va3 vn3 vp3, .slice va4 vn4 vp4, .slice va5 vn5 vp5, .int .i64 c6, .string c7, .slice va8 vn8 vp8, .slice va9 vn9 vp9, .slice va10 vn10 vp10, .slice va11 vn11 vp11]
  have hbx : Below v6.heap.size v6 (v6.alloc (.cells #[.int .i64 c0, .bool c1, .slice va2 vn2 vp2, .slice va3 vn3 vp3, .slice va4 vn4 vp4, .slice va5 vn5 vp5, .int .i64 c6, .string c7, .slice va8 vn8 vp8, .slice va9 vn9 vp9, .slice va10 vn10 vp10, .slice va11 vn11 vp11] 42)) := (Below.refl _ _).alloc (Nat.le_refl _) _
  replace HB := HB.trans (hbx.mono HB.size)
  replace RA := RA.later hbx
  replace RB := RB.later hbx
  replace vr2 := vr2.later hbx
  replace vr3 := vr3.later hbx
  replace vr4 := vr4.later hbx
  replace vr5 := vr5.later hbx
  replace vr8 := vr8.later hbx
  replace vr9 := vr9.later hbx
  replace vr10 := vr10.later hbx
  replace vr11 := vr11.later hbx
  clear hbx
  have g0 := RB.cell (i := 0) (v := .int .i64 s0) rfl
  have g1 := RB.cell (i := 1) (v := .bool s1) rfl
  have g2 := RB.cell (i := 2) (v := s2) rfl
  have g3 := RB.cell (i := 3) (v := s3) rfl
  have g4 := RB.cell (i := 4) (v := s4) rfl
  have g5 := RB.cell (i := 5) (v := s5) rfl
  have g6 := RB.cell (i := 6) (v := .int .i64 s6) rfl
  have g7 := RB.cell (i := 7) (v := .string s7) rfl
  have g8 := RB.cell (i := 8) (v := s8) rfl
  have g9 := RB.cell (i := 9) (v := s9) rfl
  have g10 := RB.cell (i := 10) (v := s10) rfl
  have g11 := RB.cell (i := 11) (v := s11) rfl
  go_wp2_with fail
  clear g0 g1 g2 g3 g4 g5 g6 g7 g8 g9 g10 g11
  generalize (v6.alloc (.cells #[.int .i64 c0, .bool c1, .slice va2 vn2 vp2, .slice va3 vn3 vp3, .slice va4 vn4 vp4, .slice va5 vn5 vp5, .int .i64 c6, .string c7, .slice va8 vn8 vp8, .slice va9 vn9 vp9, .slice va10 vn10 vp10, .slice va11 vn11 vp11] 42)) = v7 at RA RB RX HB vr2 vr3 vr4 vr5 vr8 vr9 vr10 vr11 ⊢
  generalize v6.heap.size = BX at RX ⊢
  refine (hU _ HB).mono ?_
  rintro e v8 ⟨jy2, jy3, jy4, jy5, jy8, jy9, jy10, jy11, rfl, jr2, jr3, jr4, jr5, jr8, jr9, jr10, jr11, hb⟩
  obtain ⟨ja2, jn2, jp2, rfl⟩ := jr2.slice_of l2 rfl
  replace jr2 := jr2.low (Nat.zero_le _)
  obtain ⟨ja3, jn3, jp3, rfl⟩ := jr3.slice_of l3 rfl
  replace jr3 := jr3.low (Nat.zero_le _)
  obtain ⟨ja4, jn4, jp4, rfl⟩ := jr4.slice_of l4 rfl
  replace jr4 := jr4.low (Nat.zero_le _)
  obtain ⟨ja5, jn5, jp5, rfl⟩ := jr5.slice_of l5 rfl
  replace jr5 := jr5.low (Nat.zero_le _)
  obtain ⟨ja8, jn8, jp8, rfl⟩ := jr8.slice_of l8 rfl
  replace jr8 := jr8.low (Nat.zero_le _)
  obtain ⟨ja9, jn9, jp9, rfl⟩ := jr9.slice_of l9 rfl
  replace jr9 := jr9.low (Nat.zero_le _)
  obtain ⟨ja10, jn10, jp10, rfl⟩ := jr10.slice_of l10 rfl
  replace jr10 := jr10.low (Nat.zero_le _)
  obtain ⟨ja11, jn11, jp11, rfl⟩ := jr11.slice_of l11 rfl
  replace jr11 := jr11.low (Nat.zero_le _)
  replace RX := RX.later hb
  replace vr2 := vr2.later hb
  replace vr3 := vr3.later hb
  replace vr4 := vr4.later hb
  replace vr5 := vr5.later hb
  replace vr8 := vr8.later hb
  replace vr9 := vr9.later hb
  replace vr10 := vr10.later hb
  replace vr11 := vr11.later hb
  replace HB := HB.trans (hb.mono HB.size)
  replace RA := RA.later hb
  replace RB := RB.later hb
  clear hb
  have RY := RowAt.new v8 42 #[.int .i64 s0, .bool s1, .slice ja2 jn2 jp2, .slice ja3 jn3 jp3, .slice ja4 jn4 jp4, .slice ja5 jn5 jp5, .int .i64 s6, .string s7, .slice ja8 jn8 jp8, .slice ja9 jn9 jp9, .slice ja10 jn10 jp10, .slice ja11 jn11 jp11]
  have hbx : Below v8.heap.size v8 (v8.alloc (.cells #[.int .i64 s0, .bool s1, .slice ja2 jn2 jp2, .slice ja3 jn3 jp3, .slice ja4 jn4 jp4, .slice ja5 jn5 jp5, .int .i64 s6, .string s7, .slice ja8 jn8 jp8, .slice ja9 jn9 jp9, .slice ja10 jn10 jp10, .slice ja11 jn11 jp11] 42)) := (Below.refl _ _).alloc (Nat.le_refl _) _
  replace HB := HB.trans (hbx.mono HB.size)
  replace RA := RA.later hbx
  replace RB := RB.later hbx
  replace jr2 := jr2.later hbx
  replace jr3 := jr3.later hbx
  replace jr4 := jr4.later hbx
  replace jr5 := jr5.later hbx
  replace jr8 := jr8.later hbx
  replace jr9 := jr9.later hbx
  replace jr10 := jr10.later hbx
  replace jr11 := jr11.later hbx
  replace RX := RX.later hbx
  replace vr2 := vr2.later hbx
  replace vr3 := vr3.later hbx
  replace vr4 := vr4.later hbx
  replace vr5 := vr5.later hbx
  replace vr8 := vr8.later hbx
  replace vr9 := vr9.later hbx
  replace vr10 := vr10.later hbx
  replace vr11 := vr11.later hbx
  clear hbx
  have x0 := RX.cell (i := 0) (v := .int .i64 c0) rfl
  have x1 := RX.cell (i := 1) (v := .bool c1) rfl
  have x2 := RX.cell (i := 2) (v := .slice va2 vn2 vp2) rfl
  have x3 := RX.cell (i := 3) (v := .slice va3 vn3 vp3) rfl
  have x4 := RX.cell (i := 4) (v := .slice va4 vn4 vp4) rfl
  have x5 := RX.cell (i := 5) (v := .slice va5 vn5 vp5) rfl
  have x6 := RX.cell (i := 6) (v := .int .i64 c6) rfl
  have x7 := RX.cell (i := 7) (v := .string c7) rfl
  have x8 := RX.cell (i := 8) (v := .slice va8 vn8 vp8) rfl
  have x9 := RX.cell (i := 9) (v := .slice va9 vn9 vp9) rfl
  have x10 := RX.cell (i := 10) (v := .slice va10 vn10 vp10) rfl
  have x11 := RX.cell (i := 11) (v := .slice va11 vn11 vp11) rfl
  go_wp2_with fail
  clear x0 x1 x2 x3 x4 x5 x6 x7 x8 x9 x10 x11
  generalize (v8.alloc (.cells #[.int .i64 s0, .bool s1, .slice ja2 jn2 jp2, .slice ja3 jn3 jp3, .slice ja4 jn4 jp4, .slice ja5 jn5 jp5, .int .i64 s6, .string s7, .slice ja8 jn8 jp8, .slice ja9 jn9 jp9, .slice ja10 jn10 jp10, .slice ja11 jn11 jp11] 42)) = v9 at RA RB RX RY HB vr2 vr3 vr4 vr5 vr8 vr9 vr10 vr11 jr2 jr3 jr4 jr5 jr8 jr9 jr10 jr11 ⊢
  generalize v8.heap.size = BY at RY ⊢
  refine (hI _ _ _ _ _ _ _ _ _ _ _ _ _ _ _ _ _ vr2 vr3 vr4 vr5 vr8 vr9 vr10 vr11 jr2 jr3 jr4 jr5 jr8 jr9 jr10 jr11).mono ?_
  rintro e v10 ⟨rfl, hb⟩
  clear hI
  replace RX := RX.later hb
  replace vr2 := vr2.later hb
  replace vr3 := vr3.later hb
  replace vr4 := vr4.later hb
  replace vr5 := vr5.later hb
  replace vr8 := vr8.later hb
  replace vr9 := vr9.later hb
  replace vr10 := vr10.later hb
  replace vr11 := vr11.later hb
  replace RY := RY.later hb
  replace jr2 := jr2.later hb
  replace jr3 := jr3.later hb
  replace jr4 := jr4.later hb
  replace jr5 := jr5.later hb
  replace jr8 := jr8.later hb
  replace jr9 := jr9.later hb
  replace jr10 := jr10.later hb
  replace jr11 := jr11.later hb
  replace HB := HB.trans (hb.mono HB.size)
  replace RA := RA.later hb
  replace RB := RB.later hb
  clear hb
  have a0 := RA.cell (i := 0) (v := .int .i64 c0) rfl
  have a1 := RA.cell (i := 1) (v := .bool c1) rfl
  have a2 := RA.cell (i := 2) (v := c2) rfl
  have a3 := RA.cell (i := 3) (v := c3) rfl
  have a4 := RA.cell (i := 4) (v := c4) rfl
  have a5 := RA.cell (i := 5) (v := c5) rfl
  have a6 := RA.cell (i := 6) (v := .int .i64 c6) rfl
  have a7 := RA.cell (i := 7) (v := .string c7) rfl
  have a8 := RA.cell (i := 8) (v := c8) rfl
  have a9 := RA.cell (i := 9) (v := c9) rfl
  have a10 := RA.cell (i := 10) (v := c10) rfl
  have a11 := RA.cell (i := 11) (v := c11) rfl
  have x0 := RX.cell (i := 0) (v := .int .i64 c0) rfl
  have x1 := RX.cell (i := 1) (v := .bool c1) rfl
  have x2 := RX.cell (i := 2) (v := .slice va2 vn2 vp2) rfl
  have x3 := RX.cell (i := 3) (v := .slice va3 vn3 vp3) rfl
  have x4 := RX.cell (i := 4) (v := .slice va4 vn4 vp4) rfl
  have x5 := RX.cell (i := 5) (v := .slice va5 vn5 vp5) rfl
  have x6 := RX.cell (i := 6) (v := .int .i64 c6) rfl
  have x7 := RX.cell (i := 7) (v := .string c7) rfl
  have x8 := RX.cell (i := 8) (v := .slice va8 vn8 vp8) rfl
  have x9 := RX.cell (i := 9) (v := .slice va9 vn9 vp9) rfl
  have x10 := RX.cell (i := 10) (v := .slice va10 vn10 vp10) rfl
  have x11 := RX.cell (i := 11) (v := .slice va11 vn11 vp11) rfl
  go_upto_region 14 with fail
  have hT1 := hT
  have hE := fun (K2 K3 K4 K5 K8 K9 K10 K11 : Value) v (h : Below v10.heap.size v10 v) (hK2 : Rd v 0 K2 (c 2)) (hK3 : Rd v 0 K3 (c 3)) (hK4 : Rd v 0 K4 (c 4)) (hK5 : Rd v 0 K5 (c 5)) (hK8 : Rd v 0 K8 (c 8)) (hK9 : Rd v 0 K9 (c 9)) (hK10 : Rd v 0 K10 (c 10)) (hK11 : Rd v 0 K11 (c 11)) => eqStmt_any c0 c1 (.slice va2 vn2 vp2) (.slice va3 vn3 vp3) (.slice va4 vn4 vp4) (.slice va5 vn5 vp5) c6 c7 (.slice va8 vn8 vp8) (.slice va9 vn9 vp9) (.slice va10 vn10 vp10) (.slice va11 vn11 vp11) K2 K3 K4 K5 K8 K9 K10 K11 (c 2) (c 3) (c 4) (c 5) (c 8) (c 9) (c 10) (c 11) v (eqAll (c 2) _ rfl) (eqAll (c 3) _ rfl) (eqAll (c 4) _ rfl) (eqAll (c 5) _ rfl) (eqRows_all (c 8)) (eqNames_all (c 9)) (eqAll (c 10) _ rfl) (eqAll (c 11) _ rfl) (vr2.later h) hK2 q2 (vr3.later h) hK3 q3 (vr4.later h) hK4 q4 (vr5.later h) hK5 q5 (vr8.later h) hK8 q8 (vr9.later h) hK9 q9 (vr10.later h) hK10 q10 (vr11.later h) hK11 q11
  go_cut [39] from 35 to 39 (fun s_ wx => s_ = .bool false ∧ Below v10.heap.size v10 wx)
  case first =>
    go_region_with (first
      | (go_at_call 15; refine (hT1 _ (by first | exact HB | exact HB.drew)).mono ?_; clear hT1; rintro e v11 ⟨ty2, ty3, ty4, ty5, ty8, ty9, ty10, ty11, rfl, tr2, tr3, tr4, tr5, tr8, tr9, tr10, tr11, hb3⟩; have hb3' : Below v10.heap.size v10 v11 := (by first | exact hb3 | exact (Below.refl _ _).drew.trans hb3); have R3 := RX.later hb3'; clear x0 x1 x2 x3 x4 x5 x6 x7 x8 x9 x10 x11; have x0 := R3.cell (i := 0) (v := .int .i64 c0) rfl; have x1 := R3.cell (i := 1) (v := .bool c1) rfl; have x2 := R3.cell (i := 2) (v := .slice va2 vn2 vp2) rfl; have x3 := R3.cell (i := 3) (v := .slice va3 vn3 vp3) rfl; have x4 := R3.cell (i := 4) (v := .slice va4 vn4 vp4) rfl; have x5 := R3.cell (i := 5) (v := .slice va5 vn5 vp5) rfl; have x6 := R3.cell (i := 6) (v := .int .i64 c6) rfl; have x7 := R3.cell (i := 7) (v := .string c7) rfl; have x8 := R3.cell (i := 8) (v := .slice va8 vn8 vp8) rfl; have x9 := R3.cell (i := 9) (v := .slice va9 vn9 vp9) rfl; have x10 := R3.cell (i := 10) (v := .slice va10 vn10 vp10) rfl; have x11 := R3.cell (i := 11) (v := .slice va11 vn11 vp11) rfl)
      | (go_at_call 17; refine (hE _ _ _ _ _ _ _ _ _ (by first | exact hb3' | exact hb3'.drew) (tr2.low (Nat.zero_le _)) (tr3.low (Nat.zero_le _)) (tr4.low (Nat.zero_le _)) (tr5.low (Nat.zero_le _)) (tr8.low (Nat.zero_le _)) (tr9.low (Nat.zero_le _)) (tr10.low (Nat.zero_le _)) (tr11.low (Nat.zero_le _))).mono ?_; clear hE; rintro e v12 ⟨rfl, hb4⟩; have hb4' : Below v11.heap.size v11 v12 := (by first | exact hb4 | exact (Below.refl _ _).drew.trans hb4)))
    all_goals
      have hb := hb3'.trans (hb4'.mono hb3'.size)
      go_wp2_with fail
      go_meet
      exact ⟨rfl, hb⟩
  case rest =>
  clear hT1 hE a0 a1 a2 a3 a4 a5 a6 a7 a8 a9 a10 a11 x0 x1 x2 x3 x4 x5 x6 x7 x8 x9 x10 x11
  obtain ⟨rfl, hb⟩ := hcut
  replace RY := RY.later hb
  replace jr2 := jr2.later hb
  replace jr3 := jr3.later hb
  replace jr4 := jr4.later hb
  replace jr5 := jr5.later hb
  replace jr8 := jr8.later hb
  replace jr9 := jr9.later hb
  replace jr10 := jr10.later hb
  replace jr11 := jr11.later hb
  replace HB := HB.trans (hb.mono HB.size)
  replace RB := RB.later hb
  clear hb RX RA hT vr2 vr3 vr4 vr5 vr8 vr9 vr10 vr11
  generalize wc = v12 at RY RB HB jr2 jr3 jr4 jr5 jr8 jr9 jr10 jr11 ⊢
  have g0 := RB.cell (i := 0) (v := .int .i64 s0) rfl
  have g1 := RB.cell (i := 1) (v := .bool s1) rfl
  have g2 := RB.cell (i := 2) (v := s2) rfl
  have g3 := RB.cell (i := 3) (v := s3) rfl
  have g4 := RB.cell (i := 4) (v := s4) rfl
  have g5 := RB.cell (i := 5) (v := s5) rfl
  have g6 := RB.cell (i := 6) (v := .int .i64 s6) rfl
  have g7 := RB.cell (i := 7) (v := .string s7) rfl
  have g8 := RB.cell (i := 8) (v := s8) rfl
  have g9 := RB.cell (i := 9) (v := s9) rfl
  have g10 := RB.cell (i := 10) (v := s10) rfl
  have g11 := RB.cell (i := 11) (v := s11) rfl
  have y0 := RY.cell (i := 0) (v := .int .i64 s0) rfl
  have y1 := RY.cell (i := 1) (v := .bool s1) rfl
  have y2 := RY.cell (i := 2) (v := .slice ja2 jn2 jp2) rfl
  have y3 := RY.cell (i := 3) (v := .slice ja3 jn3 jp3) rfl
  have y4 := RY.cell (i := 4) (v := .slice ja4 jn4 jp4) rfl
  have y5 := RY.cell (i := 5) (v := .slice ja5 jn5 jp5) rfl
  have y6 := RY.cell (i := 6) (v := .int .i64 s6) rfl
  have y7 := RY.cell (i := 7) (v := .string s7) rfl
  have y8 := RY.cell (i := 8) (v := .slice ja8 jn8 jp8) rfl
  have y9 := RY.cell (i := 9) (v := .slice ja9 jn9 jp9) rfl
  have y10 := RY.cell (i := 10) (v := .slice ja10 jn10 jp10) rfl
  have y11 := RY.cell (i := 11) (v := .slice ja11 jn11 jp11) rfl
  go_upto_region 16 with fail
  have hT1 := hU
  have hE := fun (K2 K3 K4 K5 K8 K9 K10 K11 : Value) v (h : Below v12.heap.size v12 v) (hK2 : Rd v 0 K2 (d 2)) (hK3 : Rd v 0 K3 (d 3)) (hK4 : Rd v 0 K4 (d 4)) (hK5 : Rd v 0 K5 (d 5)) (hK8 : Rd v 0 K8 (d 8)) (hK9 : Rd v 0 K9 (d 9)) (hK10 : Rd v 0 K10 (d 10)) (hK11 : Rd v 0 K11 (d 11)) => eqStmt_any s0 s1 (.slice ja2 jn2 jp2) (.slice ja3 jn3 jp3) (.slice ja4 jn4 jp4) (.slice ja5 jn5 jp5) s6 s7 (.slice ja8 jn8 jp8) (.slice ja9 jn9 jp9) (.slice ja10 jn10 jp10) (.slice ja11 jn11 jp11) K2 K3 K4 K5 K8 K9 K10 K11 (d 2) (d 3) (d 4) (d 5) (d 8) (d 9) (d 10) (d 11) v (eqAll (d 2) _ rfl) (eqAll (d 3) _ rfl) (eqAll (d 4) _ rfl) (eqAll (d 5) _ rfl) (eqRows_all (d 8)) (eqNames_all (d 9)) (eqAll (d 10) _ rfl) (eqAll (d 11) _ rfl) (jr2.later h) hK2 l2 (jr3.later h) hK3 l3 (jr4.later h) hK4 l4 (jr5.later h) hK5 l5 (jr8.later h) hK8 l8 (jr9.later h) hK9 l9 (jr10.later h) hK10 l10 (jr11.later h) hK11 l11
  go_cut [44] from 40 to 44 (fun s_ wx => s_ = .bool false ∧ Below v12.heap.size v12 wx)
  case first =>
    go_region_with (first
      | (go_at_call 15; refine (hT1 _ (by first | exact HB | exact HB.drew)).mono ?_; clear hT1; rintro e v13 ⟨ty2, ty3, ty4, ty5, ty8, ty9, ty10, ty11, rfl, tr2, tr3, tr4, tr5, tr8, tr9, tr10, tr11, hb3⟩; have hb3' : Below v12.heap.size v12 v13 := (by first | exact hb3 | exact (Below.refl _ _).drew.trans hb3); have R3 := RY.later hb3'; clear y0 y1 y2 y3 y4 y5 y6 y7 y8 y9 y10 y11; have y0 := R3.cell (i := 0) (v := .int .i64 s0) rfl; have y1 := R3.cell (i := 1) (v := .bool s1) rfl; have y2 := R3.cell (i := 2) (v := .slice ja2 jn2 jp2) rfl; have y3 := R3.cell (i := 3) (v := .slice ja3 jn3 jp3) rfl; have y4 := R3.cell (i := 4) (v := .slice ja4 jn4 jp4) rfl; have y5 := R3.cell (i := 5) (v := .slice ja5 jn5 jp5) rfl; have y6 := R3.cell (i := 6) (v := .int .i64 s6) rfl; have y7 := R3.cell (i := 7) (v := .string s7) rfl; have y8 := R3.cell (i := 8) (v := .slice ja8 jn8 jp8) rfl; have y9 := R3.cell (i := 9) (v := .slice ja9 jn9 jp9) rfl; have y10 := R3.cell (i := 10) (v := .slice ja10 jn10 jp10) rfl; have y11 := R3.cell (i := 11) (v := .slice ja11 jn11 jp11) rfl)
      | (go_at_call 17; refine (hE _ _ _ _ _ _ _ _ _ (by first | exact hb3' | exact hb3'.drew) (tr2.low (Nat.zero_le _)) (tr3.low (Nat.zero_le _)) (tr4.low (Nat.zero_le _)) (tr5.low (Nat.zero_le _)) (tr8.low (Nat.zero_le _)) (tr9.low (Nat.zero_le _)) (tr10.low (Nat.zero_le _)) (tr11.low (Nat.zero_le _))).mono ?_; clear hE; rintro e v14 ⟨rfl, hb4⟩; have hb4' : Below v13.heap.size v13 v14 := (by first | exact hb4 | exact (Below.refl _ _).drew.trans hb4)))
    all_goals
      have hb := hb3'.trans (hb4'.mono hb3'.size)
      go_wp2_with fail
      go_meet
      exact ⟨rfl, hb⟩
  case rest =>
  clear hT1 hE g0 g1 g2 g3 g4 g5 g6 g7 g8 g9 g10 g11 y0 y1 y2 y3 y4 y5 y6 y7 y8 y9 y10 y11
  obtain ⟨rfl, hb⟩ := hcut
  have hbb := HB.trans (hb.mono HB.size)
  go_wp2_with fail
  go_ret
  exact ⟨rfl, hbb⟩
end Go.Proofs.Ytfmgkinindkedaa
