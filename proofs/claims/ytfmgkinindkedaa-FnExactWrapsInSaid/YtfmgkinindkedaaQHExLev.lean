/- Joined texts: ExLev. -/
import Derived.Test.YtfmgkinindkedaaQHToS
import Derived.Test.YtfmgkinindkedaaQHSzS
import Derived.Test.YtfmgkinindkedaaQHEqS
import Derived.Test.YtfmgkinindkedaaQHExLaw
import Derived.Deep.RegionWith
/- The walks of the exact laws of LevelOf, Needs, Wrapped, Wraps and WrapsIn. -/
namespace Go.Proofs.Ytfmgkinindkedaa
open Go.RowKit

set_option maxRecDepth 100000 in
set_option maxHeartbeats 8000000 in
theorem ex_LevelOf (V : Int) (c : Nat → Dat) (c0 : Int) (c1 : Int) (c2 : Bool) (c3 : Int) (c4 : Int) (c5 : ByteArray) (c6 : ByteArray) (c7 : ByteArray) (c8 : Value) (c9 : Value) (w : World) (r8 : Rd w 0 c8 (c 8)) (q8 : Fits (c 8) .exprs) (r9 : Rd w 0 c9 (c 9)) (q9 : Fits (c 9) .queries) (b5 : c5.size ≤ 9223372036854775807) (b6 : c6.size ≤ 9223372036854775807) (b7 : c7.size ≤ 9223372036854775807)
    (hS : msr (c 8) + msr (c 9) ≤ 1048576 → ∀ (X8 X9 : Value) (v : World), Rd v 0 X8 (c 8) → Rd v 0 X9 (c 9) → Calls Try.prog 19 #[.agg #[.int .i64 c0, .int .i64 c1, .bool c2, .int .i64 c3, .int .i64 c4, .string c5, .string c6, .string c7, X8, X9]] v (IntE V v))
    (hI : msr (c 8) + msr (c 9) ≤ 1048576 → ∀ (X8 X9 : Value) (v : World), Rd v 0 X8 (c 8) → Rd v 0 X9 (c 9) → Calls Try.prog 21 #[.agg #[.int .i64 c0, .int .i64 c1, .bool c2, .int .i64 c3, .int .i64 c4, .string c5, .string c6, .string c7, X8, X9]] v (IntE V v)) :
    Calls Try.prog 4 #[.agg #[.int .i64 c0, .int .i64 c1, .bool c2, .int .i64 c3, .int .i64 c4, .string c5, .string c6, .string c7, c8, c9]] w (BoolE true w) := by
  have hZ := fun w h => szExpr_any c0 c1 c2 c3 c4 c5 c6 c7 c8 c9 (c 8) (c 9) 1048576 w (by omega) (by omega) (szAll (c 8) _ rfl) (szAll (c 9) _ rfl) (Rd.later r8 h) q8 (Rd.later r9 h) q9 b5 b6 b7
  by_cases hbig : (1048576 : Int) - (c5.size + c6.size + c7.size + msr (c 8) + msr (c 9) : Int) < 0
  · simp only [leftOf_no hbig] at hZ
    go_enter Try.func4, Try.ntmps4
    go_wp2_with fail
    have HA := BX.new w 50 #[.int .i64 c0, .int .i64 c1, .bool c2, .int .i64 c3, .int .i64 c4, .string c5, .string c6, .string c7, c8, c9]
    generalize w.alloc (.cells #[.int .i64 c0, .int .i64 c1, .bool c2, .int .i64 c3, .int .i64 c4, .string c5, .string c6, .string c7, c8, c9] 50) = v0 at HA ⊢
    refine (hZ _ HA.b).mono ?_
    rintro e v1 ⟨rfl, hb⟩
    have hbb := HA.b.trans (hb.mono HA.b.size)
    go_wp2_with fail
    go_ret
    exact ⟨rfl, hbb⟩
  have m8 : msr (c 8) ≤ 1048576 := by omega
  have m9 : msr (c 9) ≤ 1048576 := by omega
  replace hS := hS (by omega)
  replace hI := hI (by omega)
  obtain ⟨z, hz⟩ : ∃ z : Int, z = 1048576 - (c5.size + c6.size + c7.size + msr (c 8) + msr (c 9) : Int) := ⟨_, rfl⟩
  have hz0 : decide (z < 0) = false := by simp; omega
  simp only [(leftOf_yes hbig).trans hz.symm] at hZ
  clear hz hbig
  have hVV : (V != V) = false := by simp
  go_enter Try.func4, Try.ntmps4
  go_wp2_with fail
  have HA := BX.new w 50 #[.int .i64 c0, .int .i64 c1, .bool c2, .int .i64 c3, .int .i64 c4, .string c5, .string c6, .string c7, c8, c9]
  generalize w.alloc (.cells #[.int .i64 c0, .int .i64 c1, .bool c2, .int .i64 c3, .int .i64 c4, .string c5, .string c6, .string c7, c8, c9] 50) = v0 at HA ⊢
  refine (hZ _ HA.b).mono ?_
  rintro e v1 ⟨rfl, hb⟩
  replace HA := HA.next hb
  clear hb hZ
  have a0 := HA.box.cell (i := 0) (v := .int .i64 c0) rfl
  have a1 := HA.box.cell (i := 1) (v := .int .i64 c1) rfl
  have a2 := HA.box.cell (i := 2) (v := .bool c2) rfl
  have a3 := HA.box.cell (i := 3) (v := .int .i64 c3) rfl
  have a4 := HA.box.cell (i := 4) (v := .int .i64 c4) rfl
  have a5 := HA.box.cell (i := 5) (v := .string c5) rfl
  have a6 := HA.box.cell (i := 6) (v := .string c6) rfl
  have a7 := HA.box.cell (i := 7) (v := .string c7) rfl
  have a8 := HA.box.cell (i := 8) (v := c8) rfl
  have a9 := HA.box.cell (i := 9) (v := c9) rfl
  go_wp2_with fail
  refine (toExpr_any c0 c1 c2 c3 c4 c5 c6 c7 c8 c9 (c 8) (c 9) _ (toAll (c 8) _ rfl) (toAll (c 9) _ rfl) (r8.later HA.b) q8 m8 (r9.later HA.b) q9 m9).mono ?_
  rintro e v2 ⟨yy8, yy9, rfl, ys8, ys9, hb⟩
  obtain ⟨ya8, yn8, yc8, rfl⟩ := ys8.slice_of q8 rfl
  replace ys8 := ys8.low (Nat.zero_le _)
  obtain ⟨ya9, yn9, yc9, rfl⟩ := ys9.slice_of q9 rfl
  replace ys9 := ys9.low (Nat.zero_le _)
  replace HA := HA.next hb
  clear hb a0 a1 a2 a3 a4 a5 a6 a7 a8 a9
  go_wp2_with fail
  refine (hS _ _ _ ys8 ys9).mono ?_
  rintro e v3 ⟨rfl, hb⟩
  replace HA := HA.next hb
  clear hb hS ys8 ys9
  have a0 := HA.box.cell (i := 0) (v := .int .i64 c0) rfl
  have a1 := HA.box.cell (i := 1) (v := .int .i64 c1) rfl
  have a2 := HA.box.cell (i := 2) (v := .bool c2) rfl
  have a3 := HA.box.cell (i := 3) (v := .int .i64 c3) rfl
  have a4 := HA.box.cell (i := 4) (v := .int .i64 c4) rfl
  have a5 := HA.box.cell (i := 5) (v := .string c5) rfl
  have a6 := HA.box.cell (i := 6) (v := .string c6) rfl
  have a7 := HA.box.cell (i := 7) (v := .string c7) rfl
  have a8 := HA.box.cell (i := 8) (v := c8) rfl
  have a9 := HA.box.cell (i := 9) (v := c9) rfl
  go_wp2_with fail
  refine (toExpr_any c0 c1 c2 c3 c4 c5 c6 c7 c8 c9 (c 8) (c 9) _ (toAll (c 8) _ rfl) (toAll (c 9) _ rfl) (r8.later HA.b) q8 m8 (r9.later HA.b) q9 m9).mono ?_
  rintro e v4 ⟨zy8, zy9, rfl, zs8, zs9, hb⟩
  obtain ⟨za8, zn8, zc8, rfl⟩ := zs8.slice_of q8 rfl
  replace zs8 := zs8.low (Nat.zero_le _)
  obtain ⟨za9, zn9, zc9, rfl⟩ := zs9.slice_of q9 rfl
  replace zs9 := zs9.low (Nat.zero_le _)
  replace HA := HA.next hb
  clear hb a0 a1 a2 a3 a4 a5 a6 a7 a8 a9
  have HX := RowAt.new v4 56 #[.int .i64 c0, .int .i64 c1, .bool c2, .int .i64 c3, .int .i64 c4, .string c5, .string c6, .string c7, .slice za8 zn8 zc8, .slice za9 zn9 zc9]
  have hbx : Below v4.heap.size v4 (v4.alloc (.cells #[.int .i64 c0, .int .i64 c1, .bool c2, .int .i64 c3, .int .i64 c4, .string c5, .string c6, .string c7, .slice za8 zn8 zc8, .slice za9 zn9 zc9] 56)) := (Below.refl _ _).alloc (Nat.le_refl _) _
  have hxl : v4.heap.size = v4.heap.size := rfl
  go_wp2_with fail
  replace HA := HA.next hbx
  replace zs8 := zs8.later hbx
  replace zs9 := zs9.later hbx
  clear hbx hxl
  generalize v4.alloc (.cells #[.int .i64 c0, .int .i64 c1, .bool c2, .int .i64 c3, .int .i64 c4, .string c5, .string c6, .string c7, .slice za8 zn8 zc8, .slice za9 zn9 zc9] 56) = v5 at HX HA zs8 zs9 ⊢
  generalize v4.heap.size = X at HX ⊢
  refine (hI _ _ _ zs8 zs9).mono ?_
  rintro e v6 ⟨rfl, hb⟩
  replace HA := HA.next hb
  replace HX := HX.later hb
  replace zs8 := zs8.later hb
  replace zs9 := zs9.later hb
  clear hb hI
  have a0 := HA.box.cell (i := 0) (v := .int .i64 c0) rfl
  have a1 := HA.box.cell (i := 1) (v := .int .i64 c1) rfl
  have a2 := HA.box.cell (i := 2) (v := .bool c2) rfl
  have a3 := HA.box.cell (i := 3) (v := .int .i64 c3) rfl
  have a4 := HA.box.cell (i := 4) (v := .int .i64 c4) rfl
  have a5 := HA.box.cell (i := 5) (v := .string c5) rfl
  have a6 := HA.box.cell (i := 6) (v := .string c6) rfl
  have a7 := HA.box.cell (i := 7) (v := .string c7) rfl
  have a8 := HA.box.cell (i := 8) (v := c8) rfl
  have a9 := HA.box.cell (i := 9) (v := c9) rfl
  have x0 := HX.cell (i := 0) (v := .int .i64 c0) rfl
  have x1 := HX.cell (i := 1) (v := .int .i64 c1) rfl
  have x2 := HX.cell (i := 2) (v := .bool c2) rfl
  have x3 := HX.cell (i := 3) (v := .int .i64 c3) rfl
  have x4 := HX.cell (i := 4) (v := .int .i64 c4) rfl
  have x5 := HX.cell (i := 5) (v := .string c5) rfl
  have x6 := HX.cell (i := 6) (v := .string c6) rfl
  have x7 := HX.cell (i := 7) (v := .string c7) rfl
  have x8 := HX.cell (i := 8) (v := .slice za8 zn8 zc8) rfl
  have x9 := HX.cell (i := 9) (v := .slice za9 zn9 zc9) rfl
  go_wp2_with fail
  have hT := fun v (h : Below v6.heap.size v6 v) => toExpr_any c0 c1 c2 c3 c4 c5 c6 c7 c8 c9 (c 8) (c 9) v (toAll (c 8) _ rfl) (toAll (c 9) _ rfl) (r8.later (HA.b.trans (h.mono HA.b.size))) q8 m8 (r9.later (HA.b.trans (h.mono HA.b.size))) q9 m9
  have hE := fun (k8 : Value) (k9 : Value) v (h : Below v6.heap.size v6 v) (hk8 : Rd v 0 k8 (c 8)) (hk9 : Rd v 0 k9 (c 9)) => eqExpr_any c0 c1 c2 c3 c4 c5 c6 c7 (.slice za8 zn8 zc8) (.slice za9 zn9 zc9) k8 k9 (c 8) (c 9) v (eqAll (c 8) _ rfl) (eqAll (c 9) _ rfl) (zs8.later h) hk8 q8 (zs9.later h) hk9 q9
  go_region_with (first
    | (go_at_call 20; refine (hT _ (Below.refl _ _).drew).mono ?_; rintro e v7 ⟨u8, u9, rfl, us8, us9, hb7⟩; have hX7 := RowAt.later (W := v6.drew) HX hb7; have xx0 := hX7.cell (i := 0) (v := .int .i64 c0) rfl; have xx1 := hX7.cell (i := 1) (v := .int .i64 c1) rfl; have xx2 := hX7.cell (i := 2) (v := .bool c2) rfl; have xx3 := hX7.cell (i := 3) (v := .int .i64 c3) rfl; have xx4 := hX7.cell (i := 4) (v := .int .i64 c4) rfl; have xx5 := hX7.cell (i := 5) (v := .string c5) rfl; have xx6 := hX7.cell (i := 6) (v := .string c6) rfl; have xx7 := hX7.cell (i := 7) (v := .string c7) rfl; have xx8 := hX7.cell (i := 8) (v := .slice za8 zn8 zc8) rfl; have xx9 := hX7.cell (i := 9) (v := .slice za9 zn9 zc9) rfl)
    | (go_at_call 22; refine (hE _ _ _ ((Below.refl _ _).drew.trans (hb7.mono (Nat.le_refl _))) (us8.low (Nat.zero_le _)) (us9.low (Nat.zero_le _))).mono ?_; rintro e v8 ⟨rfl, hb8⟩))
  all_goals
    have hbb := (HA.b.trans ((Below.refl v6.heap.size v6).drew.mono HA.b.size)).trans ((hb7.trans (hb8.mono hb7.size)).mono (by have := HA.b.size; exact this))
    go_wp2_with fail
    go_ret
    exact ⟨rfl, hbb⟩
set_option maxRecDepth 100000 in
set_option maxHeartbeats 8000000 in
theorem ex_Needs (V : Int) (c : Nat → Dat) (a : Int) (c0 : Int) (c1 : Int) (c2 : Bool) (c3 : Int) (c4 : Int) (c5 : ByteArray) (c6 : ByteArray) (c7 : ByteArray) (c8 : Value) (c9 : Value) (w : World) (r8 : Rd w 0 c8 (c 8)) (q8 : Fits (c 8) .exprs) (r9 : Rd w 0 c9 (c 9)) (q9 : Fits (c 9) .queries) (b5 : c5.size ≤ 9223372036854775807) (b6 : c6.size ≤ 9223372036854775807) (b7 : c7.size ≤ 9223372036854775807)
    (hS : msr (c 8) + msr (c 9) ≤ 1048576 → ∀ (X8 X9 : Value) (v : World), Rd v 0 X8 (c 8) → Rd v 0 X9 (c 9) → Calls Try.prog 23 #[.agg #[.int .i64 c0, .int .i64 c1, .bool c2, .int .i64 c3, .int .i64 c4, .string c5, .string c6, .string c7, X8, X9], .int .i64 a] v (IntE V v))
    (hI : msr (c 8) + msr (c 9) ≤ 1048576 → ∀ (X8 X9 : Value) (v : World), Rd v 0 X8 (c 8) → Rd v 0 X9 (c 9) → Calls Try.prog 24 #[.agg #[.int .i64 c0, .int .i64 c1, .bool c2, .int .i64 c3, .int .i64 c4, .string c5, .string c6, .string c7, X8, X9], .int .i64 a] v (IntE V v)) :
    Calls Try.prog 5 #[.agg #[.int .i64 c0, .int .i64 c1, .bool c2, .int .i64 c3, .int .i64 c4, .string c5, .string c6, .string c7, c8, c9], .int .i64 a] w (BoolE true w) := by
  have hZ := fun w h => szExpr_any c0 c1 c2 c3 c4 c5 c6 c7 c8 c9 (c 8) (c 9) 1048576 w (by omega) (by omega) (szAll (c 8) _ rfl) (szAll (c 9) _ rfl) (Rd.later r8 h) q8 (Rd.later r9 h) q9 b5 b6 b7
  by_cases hbig : (1048576 : Int) - (c5.size + c6.size + c7.size + msr (c 8) + msr (c 9) : Int) < 0
  · simp only [leftOf_no hbig] at hZ
    go_enter Try.func5, Try.ntmps5
    go_wp2_with fail
    have HA := BX.new w 50 #[.int .i64 c0, .int .i64 c1, .bool c2, .int .i64 c3, .int .i64 c4, .string c5, .string c6, .string c7, c8, c9]
    generalize w.alloc (.cells #[.int .i64 c0, .int .i64 c1, .bool c2, .int .i64 c3, .int .i64 c4, .string c5, .string c6, .string c7, c8, c9] 50) = v0 at HA ⊢
    refine (hZ _ HA.b).mono ?_
    rintro e v1 ⟨rfl, hb⟩
    have hbb := HA.b.trans (hb.mono HA.b.size)
    go_wp2_with fail
    go_ret
    exact ⟨rfl, hbb⟩
  have m8 : msr (c 8) ≤ 1048576 := by omega
  have m9 : msr (c 9) ≤ 1048576 := by omega
  replace hS := hS (by omega)
  replace hI := hI (by omega)
  obtain ⟨z, hz⟩ : ∃ z : Int, z = 1048576 - (c5.size + c6.size + c7.size + msr (c 8) + msr (c 9) : Int) := ⟨_, rfl⟩
  have hz0 : decide (z < 0) = false := by simp; omega
  simp only [(leftOf_yes hbig).trans hz.symm] at hZ
  clear hz hbig
  have hVV : (V != V) = false := by simp
  go_enter Try.func5, Try.ntmps5
  go_wp2_with fail
  have HA := BX.new w 50 #[.int .i64 c0, .int .i64 c1, .bool c2, .int .i64 c3, .int .i64 c4, .string c5, .string c6, .string c7, c8, c9]
  generalize w.alloc (.cells #[.int .i64 c0, .int .i64 c1, .bool c2, .int .i64 c3, .int .i64 c4, .string c5, .string c6, .string c7, c8, c9] 50) = v0 at HA ⊢
  refine (hZ _ HA.b).mono ?_
  rintro e v1 ⟨rfl, hb⟩
  replace HA := HA.next hb
  clear hb hZ
  have a0 := HA.box.cell (i := 0) (v := .int .i64 c0) rfl
  have a1 := HA.box.cell (i := 1) (v := .int .i64 c1) rfl
  have a2 := HA.box.cell (i := 2) (v := .bool c2) rfl
  have a3 := HA.box.cell (i := 3) (v := .int .i64 c3) rfl
  have a4 := HA.box.cell (i := 4) (v := .int .i64 c4) rfl
  have a5 := HA.box.cell (i := 5) (v := .string c5) rfl
  have a6 := HA.box.cell (i := 6) (v := .string c6) rfl
  have a7 := HA.box.cell (i := 7) (v := .string c7) rfl
  have a8 := HA.box.cell (i := 8) (v := c8) rfl
  have a9 := HA.box.cell (i := 9) (v := c9) rfl
  go_wp2_with fail
  refine (toExpr_any c0 c1 c2 c3 c4 c5 c6 c7 c8 c9 (c 8) (c 9) _ (toAll (c 8) _ rfl) (toAll (c 9) _ rfl) (r8.later HA.b) q8 m8 (r9.later HA.b) q9 m9).mono ?_
  rintro e v2 ⟨yy8, yy9, rfl, ys8, ys9, hb⟩
  obtain ⟨ya8, yn8, yc8, rfl⟩ := ys8.slice_of q8 rfl
  replace ys8 := ys8.low (Nat.zero_le _)
  obtain ⟨ya9, yn9, yc9, rfl⟩ := ys9.slice_of q9 rfl
  replace ys9 := ys9.low (Nat.zero_le _)
  replace HA := HA.next hb
  clear hb a0 a1 a2 a3 a4 a5 a6 a7 a8 a9
  go_wp2_with fail
  refine (hS _ _ _ ys8 ys9).mono ?_
  rintro e v3 ⟨rfl, hb⟩
  replace HA := HA.next hb
  clear hb hS ys8 ys9
  have a0 := HA.box.cell (i := 0) (v := .int .i64 c0) rfl
  have a1 := HA.box.cell (i := 1) (v := .int .i64 c1) rfl
  have a2 := HA.box.cell (i := 2) (v := .bool c2) rfl
  have a3 := HA.box.cell (i := 3) (v := .int .i64 c3) rfl
  have a4 := HA.box.cell (i := 4) (v := .int .i64 c4) rfl
  have a5 := HA.box.cell (i := 5) (v := .string c5) rfl
  have a6 := HA.box.cell (i := 6) (v := .string c6) rfl
  have a7 := HA.box.cell (i := 7) (v := .string c7) rfl
  have a8 := HA.box.cell (i := 8) (v := c8) rfl
  have a9 := HA.box.cell (i := 9) (v := c9) rfl
  go_wp2_with fail
  refine (toExpr_any c0 c1 c2 c3 c4 c5 c6 c7 c8 c9 (c 8) (c 9) _ (toAll (c 8) _ rfl) (toAll (c 9) _ rfl) (r8.later HA.b) q8 m8 (r9.later HA.b) q9 m9).mono ?_
  rintro e v4 ⟨zy8, zy9, rfl, zs8, zs9, hb⟩
  obtain ⟨za8, zn8, zc8, rfl⟩ := zs8.slice_of q8 rfl
  replace zs8 := zs8.low (Nat.zero_le _)
  obtain ⟨za9, zn9, zc9, rfl⟩ := zs9.slice_of q9 rfl
  replace zs9 := zs9.low (Nat.zero_le _)
  replace HA := HA.next hb
  clear hb a0 a1 a2 a3 a4 a5 a6 a7 a8 a9
  have HX := RowAt.new v4 56 #[.int .i64 c0, .int .i64 c1, .bool c2, .int .i64 c3, .int .i64 c4, .string c5, .string c6, .string c7, .slice za8 zn8 zc8, .slice za9 zn9 zc9]
  have hbx : Below v4.heap.size v4 (v4.alloc (.cells #[.int .i64 c0, .int .i64 c1, .bool c2, .int .i64 c3, .int .i64 c4, .string c5, .string c6, .string c7, .slice za8 zn8 zc8, .slice za9 zn9 zc9] 56)) := (Below.refl _ _).alloc (Nat.le_refl _) _
  have hxl : v4.heap.size = v4.heap.size := rfl
  go_wp2_with fail
  replace HA := HA.next hbx
  replace zs8 := zs8.later hbx
  replace zs9 := zs9.later hbx
  clear hbx hxl
  generalize v4.alloc (.cells #[.int .i64 c0, .int .i64 c1, .bool c2, .int .i64 c3, .int .i64 c4, .string c5, .string c6, .string c7, .slice za8 zn8 zc8, .slice za9 zn9 zc9] 56) = v5 at HX HA zs8 zs9 ⊢
  generalize v4.heap.size = X at HX ⊢
  refine (hI _ _ _ zs8 zs9).mono ?_
  rintro e v6 ⟨rfl, hb⟩
  replace HA := HA.next hb
  replace HX := HX.later hb
  replace zs8 := zs8.later hb
  replace zs9 := zs9.later hb
  clear hb hI
  have a0 := HA.box.cell (i := 0) (v := .int .i64 c0) rfl
  have a1 := HA.box.cell (i := 1) (v := .int .i64 c1) rfl
  have a2 := HA.box.cell (i := 2) (v := .bool c2) rfl
  have a3 := HA.box.cell (i := 3) (v := .int .i64 c3) rfl
  have a4 := HA.box.cell (i := 4) (v := .int .i64 c4) rfl
  have a5 := HA.box.cell (i := 5) (v := .string c5) rfl
  have a6 := HA.box.cell (i := 6) (v := .string c6) rfl
  have a7 := HA.box.cell (i := 7) (v := .string c7) rfl
  have a8 := HA.box.cell (i := 8) (v := c8) rfl
  have a9 := HA.box.cell (i := 9) (v := c9) rfl
  have x0 := HX.cell (i := 0) (v := .int .i64 c0) rfl
  have x1 := HX.cell (i := 1) (v := .int .i64 c1) rfl
  have x2 := HX.cell (i := 2) (v := .bool c2) rfl
  have x3 := HX.cell (i := 3) (v := .int .i64 c3) rfl
  have x4 := HX.cell (i := 4) (v := .int .i64 c4) rfl
  have x5 := HX.cell (i := 5) (v := .string c5) rfl
  have x6 := HX.cell (i := 6) (v := .string c6) rfl
  have x7 := HX.cell (i := 7) (v := .string c7) rfl
  have x8 := HX.cell (i := 8) (v := .slice za8 zn8 zc8) rfl
  have x9 := HX.cell (i := 9) (v := .slice za9 zn9 zc9) rfl
  go_wp2_with fail
  have hT := fun v (h : Below v6.heap.size v6 v) => toExpr_any c0 c1 c2 c3 c4 c5 c6 c7 c8 c9 (c 8) (c 9) v (toAll (c 8) _ rfl) (toAll (c 9) _ rfl) (r8.later (HA.b.trans (h.mono HA.b.size))) q8 m8 (r9.later (HA.b.trans (h.mono HA.b.size))) q9 m9
  have hE := fun (k8 : Value) (k9 : Value) v (h : Below v6.heap.size v6 v) (hk8 : Rd v 0 k8 (c 8)) (hk9 : Rd v 0 k9 (c 9)) => eqExpr_any c0 c1 c2 c3 c4 c5 c6 c7 (.slice za8 zn8 zc8) (.slice za9 zn9 zc9) k8 k9 (c 8) (c 9) v (eqAll (c 8) _ rfl) (eqAll (c 9) _ rfl) (zs8.later h) hk8 q8 (zs9.later h) hk9 q9
  go_region_with (first
    | (go_at_call 20; refine (hT _ (Below.refl _ _).drew).mono ?_; rintro e v7 ⟨u8, u9, rfl, us8, us9, hb7⟩; have hX7 := RowAt.later (W := v6.drew) HX hb7; have xx0 := hX7.cell (i := 0) (v := .int .i64 c0) rfl; have xx1 := hX7.cell (i := 1) (v := .int .i64 c1) rfl; have xx2 := hX7.cell (i := 2) (v := .bool c2) rfl; have xx3 := hX7.cell (i := 3) (v := .int .i64 c3) rfl; have xx4 := hX7.cell (i := 4) (v := .int .i64 c4) rfl; have xx5 := hX7.cell (i := 5) (v := .string c5) rfl; have xx6 := hX7.cell (i := 6) (v := .string c6) rfl; have xx7 := hX7.cell (i := 7) (v := .string c7) rfl; have xx8 := hX7.cell (i := 8) (v := .slice za8 zn8 zc8) rfl; have xx9 := hX7.cell (i := 9) (v := .slice za9 zn9 zc9) rfl)
    | (go_at_call 22; refine (hE _ _ _ ((Below.refl _ _).drew.trans (hb7.mono (Nat.le_refl _))) (us8.low (Nat.zero_le _)) (us9.low (Nat.zero_le _))).mono ?_; rintro e v8 ⟨rfl, hb8⟩))
  all_goals
    have hbb := (HA.b.trans ((Below.refl v6.heap.size v6).drew.mono HA.b.size)).trans ((hb7.trans (hb8.mono hb7.size)).mono (by have := HA.b.size; exact this))
    go_wp2_with fail
    go_ret
    exact ⟨rfl, hbb⟩
set_option maxRecDepth 100000 in
set_option maxHeartbeats 8000000 in
theorem ex_Wrapped (V : Bool) (c : Nat → Dat) (a : Int) (c0 : Int) (c1 : Int) (c2 : Bool) (c3 : Int) (c4 : Int) (c5 : ByteArray) (c6 : ByteArray) (c7 : ByteArray) (c8 : Value) (c9 : Value) (w : World) (r8 : Rd w 0 c8 (c 8)) (q8 : Fits (c 8) .exprs) (r9 : Rd w 0 c9 (c 9)) (q9 : Fits (c 9) .queries) (b5 : c5.size ≤ 9223372036854775807) (b6 : c6.size ≤ 9223372036854775807) (b7 : c7.size ≤ 9223372036854775807)
    (hS : msr (c 8) + msr (c 9) ≤ 1048576 → ∀ (X8 X9 : Value) (v : World), Rd v 0 X8 (c 8) → Rd v 0 X9 (c 9) → Calls Try.prog 25 #[.agg #[.int .i64 c0, .int .i64 c1, .bool c2, .int .i64 c3, .int .i64 c4, .string c5, .string c6, .string c7, X8, X9], .int .i64 a] v (BoolE V v))
    (hI : msr (c 8) + msr (c 9) ≤ 1048576 → ∀ (X8 X9 : Value) (v : World), Rd v 0 X8 (c 8) → Rd v 0 X9 (c 9) → Calls Try.prog 26 #[.agg #[.int .i64 c0, .int .i64 c1, .bool c2, .int .i64 c3, .int .i64 c4, .string c5, .string c6, .string c7, X8, X9], .int .i64 a] v (BoolE V v)) :
    Calls Try.prog 6 #[.agg #[.int .i64 c0, .int .i64 c1, .bool c2, .int .i64 c3, .int .i64 c4, .string c5, .string c6, .string c7, c8, c9], .int .i64 a] w (BoolE true w) := by
  have hZ := fun w h => szExpr_any c0 c1 c2 c3 c4 c5 c6 c7 c8 c9 (c 8) (c 9) 1048576 w (by omega) (by omega) (szAll (c 8) _ rfl) (szAll (c 9) _ rfl) (Rd.later r8 h) q8 (Rd.later r9 h) q9 b5 b6 b7
  by_cases hbig : (1048576 : Int) - (c5.size + c6.size + c7.size + msr (c 8) + msr (c 9) : Int) < 0
  · simp only [leftOf_no hbig] at hZ
    go_enter Try.func6, Try.ntmps6
    go_wp2_with fail
    have HA := BX.new w 50 #[.int .i64 c0, .int .i64 c1, .bool c2, .int .i64 c3, .int .i64 c4, .string c5, .string c6, .string c7, c8, c9]
    generalize w.alloc (.cells #[.int .i64 c0, .int .i64 c1, .bool c2, .int .i64 c3, .int .i64 c4, .string c5, .string c6, .string c7, c8, c9] 50) = v0 at HA ⊢
    refine (hZ _ HA.b).mono ?_
    rintro e v1 ⟨rfl, hb⟩
    have hbb := HA.b.trans (hb.mono HA.b.size)
    go_wp2_with fail
    go_ret
    exact ⟨rfl, hbb⟩
  have m8 : msr (c 8) ≤ 1048576 := by omega
  have m9 : msr (c 9) ≤ 1048576 := by omega
  replace hS := hS (by omega)
  replace hI := hI (by omega)
  obtain ⟨z, hz⟩ : ∃ z : Int, z = 1048576 - (c5.size + c6.size + c7.size + msr (c 8) + msr (c 9) : Int) := ⟨_, rfl⟩
  have hz0 : decide (z < 0) = false := by simp; omega
  simp only [(leftOf_yes hbig).trans hz.symm] at hZ
  clear hz hbig
  have hVV : (V != V) = false := by simp
  go_enter Try.func6, Try.ntmps6
  go_wp2_with fail
  have HA := BX.new w 50 #[.int .i64 c0, .int .i64 c1, .bool c2, .int .i64 c3, .int .i64 c4, .string c5, .string c6, .string c7, c8, c9]
  generalize w.alloc (.cells #[.int .i64 c0, .int .i64 c1, .bool c2, .int .i64 c3, .int .i64 c4, .string c5, .string c6, .string c7, c8, c9] 50) = v0 at HA ⊢
  refine (hZ _ HA.b).mono ?_
  rintro e v1 ⟨rfl, hb⟩
  replace HA := HA.next hb
  clear hb hZ
  have a0 := HA.box.cell (i := 0) (v := .int .i64 c0) rfl
  have a1 := HA.box.cell (i := 1) (v := .int .i64 c1) rfl
  have a2 := HA.box.cell (i := 2) (v := .bool c2) rfl
  have a3 := HA.box.cell (i := 3) (v := .int .i64 c3) rfl
  have a4 := HA.box.cell (i := 4) (v := .int .i64 c4) rfl
  have a5 := HA.box.cell (i := 5) (v := .string c5) rfl
  have a6 := HA.box.cell (i := 6) (v := .string c6) rfl
  have a7 := HA.box.cell (i := 7) (v := .string c7) rfl
  have a8 := HA.box.cell (i := 8) (v := c8) rfl
  have a9 := HA.box.cell (i := 9) (v := c9) rfl
  go_wp2_with fail
  refine (toExpr_any c0 c1 c2 c3 c4 c5 c6 c7 c8 c9 (c 8) (c 9) _ (toAll (c 8) _ rfl) (toAll (c 9) _ rfl) (r8.later HA.b) q8 m8 (r9.later HA.b) q9 m9).mono ?_
  rintro e v2 ⟨yy8, yy9, rfl, ys8, ys9, hb⟩
  obtain ⟨ya8, yn8, yc8, rfl⟩ := ys8.slice_of q8 rfl
  replace ys8 := ys8.low (Nat.zero_le _)
  obtain ⟨ya9, yn9, yc9, rfl⟩ := ys9.slice_of q9 rfl
  replace ys9 := ys9.low (Nat.zero_le _)
  replace HA := HA.next hb
  clear hb a0 a1 a2 a3 a4 a5 a6 a7 a8 a9
  go_wp2_with fail
  refine (hS _ _ _ ys8 ys9).mono ?_
  rintro e v3 ⟨rfl, hb⟩
  replace HA := HA.next hb
  clear hb hS ys8 ys9
  have a0 := HA.box.cell (i := 0) (v := .int .i64 c0) rfl
  have a1 := HA.box.cell (i := 1) (v := .int .i64 c1) rfl
  have a2 := HA.box.cell (i := 2) (v := .bool c2) rfl
  have a3 := HA.box.cell (i := 3) (v := .int .i64 c3) rfl
  have a4 := HA.box.cell (i := 4) (v := .int .i64 c4) rfl
  have a5 := HA.box.cell (i := 5) (v := .string c5) rfl
  have a6 := HA.box.cell (i := 6) (v := .string c6) rfl
  have a7 := HA.box.cell (i := 7) (v := .string c7) rfl
  have a8 := HA.box.cell (i := 8) (v := c8) rfl
  have a9 := HA.box.cell (i := 9) (v := c9) rfl
  go_wp2_with fail
  refine (toExpr_any c0 c1 c2 c3 c4 c5 c6 c7 c8 c9 (c 8) (c 9) _ (toAll (c 8) _ rfl) (toAll (c 9) _ rfl) (r8.later HA.b) q8 m8 (r9.later HA.b) q9 m9).mono ?_
  rintro e v4 ⟨zy8, zy9, rfl, zs8, zs9, hb⟩
  obtain ⟨za8, zn8, zc8, rfl⟩ := zs8.slice_of q8 rfl
  replace zs8 := zs8.low (Nat.zero_le _)
  obtain ⟨za9, zn9, zc9, rfl⟩ := zs9.slice_of q9 rfl
  replace zs9 := zs9.low (Nat.zero_le _)
  replace HA := HA.next hb
  clear hb a0 a1 a2 a3 a4 a5 a6 a7 a8 a9
  have HX := RowAt.new v4 56 #[.int .i64 c0, .int .i64 c1, .bool c2, .int .i64 c3, .int .i64 c4, .string c5, .string c6, .string c7, .slice za8 zn8 zc8, .slice za9 zn9 zc9]
  have hbx : Below v4.heap.size v4 (v4.alloc (.cells #[.int .i64 c0, .int .i64 c1, .bool c2, .int .i64 c3, .int .i64 c4, .string c5, .string c6, .string c7, .slice za8 zn8 zc8, .slice za9 zn9 zc9] 56)) := (Below.refl _ _).alloc (Nat.le_refl _) _
  have hxl : v4.heap.size = v4.heap.size := rfl
  go_wp2_with fail
  replace HA := HA.next hbx
  replace zs8 := zs8.later hbx
  replace zs9 := zs9.later hbx
  clear hbx hxl
  generalize v4.alloc (.cells #[.int .i64 c0, .int .i64 c1, .bool c2, .int .i64 c3, .int .i64 c4, .string c5, .string c6, .string c7, .slice za8 zn8 zc8, .slice za9 zn9 zc9] 56) = v5 at HX HA zs8 zs9 ⊢
  generalize v4.heap.size = X at HX ⊢
  refine (hI _ _ _ zs8 zs9).mono ?_
  rintro e v6 ⟨rfl, hb⟩
  replace HA := HA.next hb
  replace HX := HX.later hb
  replace zs8 := zs8.later hb
  replace zs9 := zs9.later hb
  clear hb hI
  have a0 := HA.box.cell (i := 0) (v := .int .i64 c0) rfl
  have a1 := HA.box.cell (i := 1) (v := .int .i64 c1) rfl
  have a2 := HA.box.cell (i := 2) (v := .bool c2) rfl
  have a3 := HA.box.cell (i := 3) (v := .int .i64 c3) rfl
  have a4 := HA.box.cell (i := 4) (v := .int .i64 c4) rfl
  have a5 := HA.box.cell (i := 5) (v := .string c5) rfl
  have a6 := HA.box.cell (i := 6) (v := .string c6) rfl
  have a7 := HA.box.cell (i := 7) (v := .string c7) rfl
  have a8 := HA.box.cell (i := 8) (v := c8) rfl
  have a9 := HA.box.cell (i := 9) (v := c9) rfl
  have x0 := HX.cell (i := 0) (v := .int .i64 c0) rfl
  have x1 := HX.cell (i := 1) (v := .int .i64 c1) rfl
  have x2 := HX.cell (i := 2) (v := .bool c2) rfl
  have x3 := HX.cell (i := 3) (v := .int .i64 c3) rfl
  have x4 := HX.cell (i := 4) (v := .int .i64 c4) rfl
  have x5 := HX.cell (i := 5) (v := .string c5) rfl
  have x6 := HX.cell (i := 6) (v := .string c6) rfl
  have x7 := HX.cell (i := 7) (v := .string c7) rfl
  have x8 := HX.cell (i := 8) (v := .slice za8 zn8 zc8) rfl
  have x9 := HX.cell (i := 9) (v := .slice za9 zn9 zc9) rfl
  go_wp2_with fail
  have hT := fun v (h : Below v6.heap.size v6 v) => toExpr_any c0 c1 c2 c3 c4 c5 c6 c7 c8 c9 (c 8) (c 9) v (toAll (c 8) _ rfl) (toAll (c 9) _ rfl) (r8.later (HA.b.trans (h.mono HA.b.size))) q8 m8 (r9.later (HA.b.trans (h.mono HA.b.size))) q9 m9
  have hE := fun (k8 : Value) (k9 : Value) v (h : Below v6.heap.size v6 v) (hk8 : Rd v 0 k8 (c 8)) (hk9 : Rd v 0 k9 (c 9)) => eqExpr_any c0 c1 c2 c3 c4 c5 c6 c7 (.slice za8 zn8 zc8) (.slice za9 zn9 zc9) k8 k9 (c 8) (c 9) v (eqAll (c 8) _ rfl) (eqAll (c 9) _ rfl) (zs8.later h) hk8 q8 (zs9.later h) hk9 q9
  go_region_with (first
    | (go_at_call 20; refine (hT _ (Below.refl _ _).drew).mono ?_; rintro e v7 ⟨u8, u9, rfl, us8, us9, hb7⟩; have hX7 := RowAt.later (W := v6.drew) HX hb7; have xx0 := hX7.cell (i := 0) (v := .int .i64 c0) rfl; have xx1 := hX7.cell (i := 1) (v := .int .i64 c1) rfl; have xx2 := hX7.cell (i := 2) (v := .bool c2) rfl; have xx3 := hX7.cell (i := 3) (v := .int .i64 c3) rfl; have xx4 := hX7.cell (i := 4) (v := .int .i64 c4) rfl; have xx5 := hX7.cell (i := 5) (v := .string c5) rfl; have xx6 := hX7.cell (i := 6) (v := .string c6) rfl; have xx7 := hX7.cell (i := 7) (v := .string c7) rfl; have xx8 := hX7.cell (i := 8) (v := .slice za8 zn8 zc8) rfl; have xx9 := hX7.cell (i := 9) (v := .slice za9 zn9 zc9) rfl)
    | (go_at_call 22; refine (hE _ _ _ ((Below.refl _ _).drew.trans (hb7.mono (Nat.le_refl _))) (us8.low (Nat.zero_le _)) (us9.low (Nat.zero_le _))).mono ?_; rintro e v8 ⟨rfl, hb8⟩))
  all_goals
    have hbb := (HA.b.trans ((Below.refl v6.heap.size v6).drew.mono HA.b.size)).trans ((hb7.trans (hb8.mono hb7.size)).mono (by have := HA.b.size; exact this))
    go_wp2_with fail
    go_ret
    exact ⟨rfl, hbb⟩
set_option maxRecDepth 100000 in
set_option maxHeartbeats 8000000 in
theorem ex_Wraps (V : Int) (c : Nat → Dat) (c0 : Int) (c1 : Int) (c2 : Bool) (c3 : Int) (c4 : Int) (c5 : ByteArray) (c6 : ByteArray) (c7 : ByteArray) (c8 : Value) (c9 : Value) (w : World) (r8 : Rd w 0 c8 (c 8)) (q8 : Fits (c 8) .exprs) (r9 : Rd w 0 c9 (c 9)) (q9 : Fits (c 9) .queries) (b5 : c5.size ≤ 9223372036854775807) (b6 : c6.size ≤ 9223372036854775807) (b7 : c7.size ≤ 9223372036854775807)
    (hS : msr (c 8) + msr (c 9) ≤ 1048576 → ∀ (X8 X9 : Value) (v : World), Rd v 0 X8 (c 8) → Rd v 0 X9 (c 9) → Calls Try.prog 27 #[.agg #[.int .i64 c0, .int .i64 c1, .bool c2, .int .i64 c3, .int .i64 c4, .string c5, .string c6, .string c7, X8, X9]] v (IntE V v))
    (hI : msr (c 8) + msr (c 9) ≤ 1048576 → ∀ (X8 X9 : Value) (v : World), Rd v 0 X8 (c 8) → Rd v 0 X9 (c 9) → Calls Try.prog 28 #[.agg #[.int .i64 c0, .int .i64 c1, .bool c2, .int .i64 c3, .int .i64 c4, .string c5, .string c6, .string c7, X8, X9]] v (IntE V v)) :
    Calls Try.prog 7 #[.agg #[.int .i64 c0, .int .i64 c1, .bool c2, .int .i64 c3, .int .i64 c4, .string c5, .string c6, .string c7, c8, c9]] w (BoolE true w) := by
  have hZ := fun w h => szExpr_any c0 c1 c2 c3 c4 c5 c6 c7 c8 c9 (c 8) (c 9) 1048576 w (by omega) (by omega) (szAll (c 8) _ rfl) (szAll (c 9) _ rfl) (Rd.later r8 h) q8 (Rd.later r9 h) q9 b5 b6 b7
  by_cases hbig : (1048576 : Int) - (c5.size + c6.size + c7.size + msr (c 8) + msr (c 9) : Int) < 0
  · simp only [leftOf_no hbig] at hZ
    go_enter Try.func7, Try.ntmps7
    go_wp2_with fail
    have HA := BX.new w 50 #[.int .i64 c0, .int .i64 c1, .bool c2, .int .i64 c3, .int .i64 c4, .string c5, .string c6, .string c7, c8, c9]
    generalize w.alloc (.cells #[.int .i64 c0, .int .i64 c1, .bool c2, .int .i64 c3, .int .i64 c4, .string c5, .string c6, .string c7, c8, c9] 50) = v0 at HA ⊢
    refine (hZ _ HA.b).mono ?_
    rintro e v1 ⟨rfl, hb⟩
    have hbb := HA.b.trans (hb.mono HA.b.size)
    go_wp2_with fail
    go_ret
    exact ⟨rfl, hbb⟩
  have m8 : msr (c 8) ≤ 1048576 := by omega
  have m9 : msr (c 9) ≤ 1048576 := by omega
  replace hS := hS (by omega)
  replace hI := hI (by omega)
  obtain ⟨z, hz⟩ : ∃ z : Int, z = 1048576 - (c5.size + c6.size + c7.size + msr (c 8) + msr (c 9) : Int) := ⟨_, rfl⟩
  have hz0 : decide (z < 0) = false := by simp; omega
  simp only [(leftOf_yes hbig).trans hz.symm] at hZ
  clear hz hbig
  have hVV : (V != V) = false := by simp
  go_enter Try.func7, Try.ntmps7
  go_wp2_with fail
  have HA := BX.new w 50 #[.int .i64 c0, .int .i64 c1, .bool c2, .int .i64 c3, .int .i64 c4, .string c5, .string c6, .string c7, c8, c9]
  generalize w.alloc (.cells #[.int .i64 c0, .int .i64 c1, .bool c2, .int .i64 c3, .int .i64 c4, .string c5, .string c6, .string c7, c8, c9] 50) = v0 at HA ⊢
  refine (hZ _ HA.b).mono ?_
  rintro e v1 ⟨rfl, hb⟩
  replace HA := HA.next hb
  clear hb hZ
  have a0 := HA.box.cell (i := 0) (v := .int .i64 c0) rfl
  have a1 := HA.box.cell (i := 1) (v := .int .i64 c1) rfl
  have a2 := HA.box.cell (i := 2) (v := .bool c2) rfl
  have a3 := HA.box.cell (i := 3) (v := .int .i64 c3) rfl
  have a4 := HA.box.cell (i := 4) (v := .int .i64 c4) rfl
  have a5 := HA.box.cell (i := 5) (v := .string c5) rfl
  have a6 := HA.box.cell (i := 6) (v := .string c6) rfl
  have a7 := HA.box.cell (i := 7) (v := .string c7) rfl
  have a8 := HA.box.cell (i := 8) (v := c8) rfl
  have a9 := HA.box.cell (i := 9) (v := c9) rfl
  go_wp2_with fail
  refine (toExpr_any c0 c1 c2 c3 c4 c5 c6 c7 c8 c9 (c 8) (c 9) _ (toAll (c 8) _ rfl) (toAll (c 9) _ rfl) (r8.later HA.b) q8 m8 (r9.later HA.b) q9 m9).mono ?_
  rintro e v2 ⟨yy8, yy9, rfl, ys8, ys9, hb⟩
  obtain ⟨ya8, yn8, yc8, rfl⟩ := ys8.slice_of q8 rfl
  replace ys8 := ys8.low (Nat.zero_le _)
  obtain ⟨ya9, yn9, yc9, rfl⟩ := ys9.slice_of q9 rfl
  replace ys9 := ys9.low (Nat.zero_le _)
  replace HA := HA.next hb
  clear hb a0 a1 a2 a3 a4 a5 a6 a7 a8 a9
  go_wp2_with fail
  refine (hS _ _ _ ys8 ys9).mono ?_
  rintro e v3 ⟨rfl, hb⟩
  replace HA := HA.next hb
  clear hb hS ys8 ys9
  have a0 := HA.box.cell (i := 0) (v := .int .i64 c0) rfl
  have a1 := HA.box.cell (i := 1) (v := .int .i64 c1) rfl
  have a2 := HA.box.cell (i := 2) (v := .bool c2) rfl
  have a3 := HA.box.cell (i := 3) (v := .int .i64 c3) rfl
  have a4 := HA.box.cell (i := 4) (v := .int .i64 c4) rfl
  have a5 := HA.box.cell (i := 5) (v := .string c5) rfl
  have a6 := HA.box.cell (i := 6) (v := .string c6) rfl
  have a7 := HA.box.cell (i := 7) (v := .string c7) rfl
  have a8 := HA.box.cell (i := 8) (v := c8) rfl
  have a9 := HA.box.cell (i := 9) (v := c9) rfl
  go_wp2_with fail
  refine (toExpr_any c0 c1 c2 c3 c4 c5 c6 c7 c8 c9 (c 8) (c 9) _ (toAll (c 8) _ rfl) (toAll (c 9) _ rfl) (r8.later HA.b) q8 m8 (r9.later HA.b) q9 m9).mono ?_
  rintro e v4 ⟨zy8, zy9, rfl, zs8, zs9, hb⟩
  obtain ⟨za8, zn8, zc8, rfl⟩ := zs8.slice_of q8 rfl
  replace zs8 := zs8.low (Nat.zero_le _)
  obtain ⟨za9, zn9, zc9, rfl⟩ := zs9.slice_of q9 rfl
  replace zs9 := zs9.low (Nat.zero_le _)
  replace HA := HA.next hb
  clear hb a0 a1 a2 a3 a4 a5 a6 a7 a8 a9
  have HX := RowAt.new v4 56 #[.int .i64 c0, .int .i64 c1, .bool c2, .int .i64 c3, .int .i64 c4, .string c5, .string c6, .string c7, .slice za8 zn8 zc8, .slice za9 zn9 zc9]
  have hbx : Below v4.heap.size v4 (v4.alloc (.cells #[.int .i64 c0, .int .i64 c1, .bool c2, .int .i64 c3, .int .i64 c4, .string c5, .string c6, .string c7, .slice za8 zn8 zc8, .slice za9 zn9 zc9] 56)) := (Below.refl _ _).alloc (Nat.le_refl _) _
  have hxl : v4.heap.size = v4.heap.size := rfl
  go_wp2_with fail
  replace HA := HA.next hbx
  replace zs8 := zs8.later hbx
  replace zs9 := zs9.later hbx
  clear hbx hxl
  generalize v4.alloc (.cells #[.int .i64 c0, .int .i64 c1, .bool c2, .int .i64 c3, .int .i64 c4, .string c5, .string c6, .string c7, .slice za8 zn8 zc8, .slice za9 zn9 zc9] 56) = v5 at HX HA zs8 zs9 ⊢
  generalize v4.heap.size = X at HX ⊢
  refine (hI _ _ _ zs8 zs9).mono ?_
  rintro e v6 ⟨rfl, hb⟩
  replace HA := HA.next hb
  replace HX := HX.later hb
  replace zs8 := zs8.later hb
  replace zs9 := zs9.later hb
  clear hb hI
  have a0 := HA.box.cell (i := 0) (v := .int .i64 c0) rfl
  have a1 := HA.box.cell (i := 1) (v := .int .i64 c1) rfl
  have a2 := HA.box.cell (i := 2) (v := .bool c2) rfl
  have a3 := HA.box.cell (i := 3) (v := .int .i64 c3) rfl
  have a4 := HA.box.cell (i := 4) (v := .int .i64 c4) rfl
  have a5 := HA.box.cell (i := 5) (v := .string c5) rfl
  have a6 := HA.box.cell (i := 6) (v := .string c6) rfl
  have a7 := HA.box.cell (i := 7) (v := .string c7) rfl
  have a8 := HA.box.cell (i := 8) (v := c8) rfl
  have a9 := HA.box.cell (i := 9) (v := c9) rfl
  have x0 := HX.cell (i := 0) (v := .int .i64 c0) rfl
  have x1 := HX.cell (i := 1) (v := .int .i64 c1) rfl
  have x2 := HX.cell (i := 2) (v := .bool c2) rfl
  have x3 := HX.cell (i := 3) (v := .int .i64 c3) rfl
  have x4 := HX.cell (i := 4) (v := .int .i64 c4) rfl
  have x5 := HX.cell (i := 5) (v := .string c5) rfl
  have x6 := HX.cell (i := 6) (v := .string c6) rfl
  have x7 := HX.cell (i := 7) (v := .string c7) rfl
  have x8 := HX.cell (i := 8) (v := .slice za8 zn8 zc8) rfl
  have x9 := HX.cell (i := 9) (v := .slice za9 zn9 zc9) rfl
  go_wp2_with fail
  have hT := fun v (h : Below v6.heap.size v6 v) => toExpr_any c0 c1 c2 c3 c4 c5 c6 c7 c8 c9 (c 8) (c 9) v (toAll (c 8) _ rfl) (toAll (c 9) _ rfl) (r8.later (HA.b.trans (h.mono HA.b.size))) q8 m8 (r9.later (HA.b.trans (h.mono HA.b.size))) q9 m9
  have hE := fun (k8 : Value) (k9 : Value) v (h : Below v6.heap.size v6 v) (hk8 : Rd v 0 k8 (c 8)) (hk9 : Rd v 0 k9 (c 9)) => eqExpr_any c0 c1 c2 c3 c4 c5 c6 c7 (.slice za8 zn8 zc8) (.slice za9 zn9 zc9) k8 k9 (c 8) (c 9) v (eqAll (c 8) _ rfl) (eqAll (c 9) _ rfl) (zs8.later h) hk8 q8 (zs9.later h) hk9 q9
  go_region_with (first
    | (go_at_call 20; refine (hT _ (Below.refl _ _).drew).mono ?_; rintro e v7 ⟨u8, u9, rfl, us8, us9, hb7⟩; have hX7 := RowAt.later (W := v6.drew) HX hb7; have xx0 := hX7.cell (i := 0) (v := .int .i64 c0) rfl; have xx1 := hX7.cell (i := 1) (v := .int .i64 c1) rfl; have xx2 := hX7.cell (i := 2) (v := .bool c2) rfl; have xx3 := hX7.cell (i := 3) (v := .int .i64 c3) rfl; have xx4 := hX7.cell (i := 4) (v := .int .i64 c4) rfl; have xx5 := hX7.cell (i := 5) (v := .string c5) rfl; have xx6 := hX7.cell (i := 6) (v := .string c6) rfl; have xx7 := hX7.cell (i := 7) (v := .string c7) rfl; have xx8 := hX7.cell (i := 8) (v := .slice za8 zn8 zc8) rfl; have xx9 := hX7.cell (i := 9) (v := .slice za9 zn9 zc9) rfl)
    | (go_at_call 22; refine (hE _ _ _ ((Below.refl _ _).drew.trans (hb7.mono (Nat.le_refl _))) (us8.low (Nat.zero_le _)) (us9.low (Nat.zero_le _))).mono ?_; rintro e v8 ⟨rfl, hb8⟩))
  all_goals
    have hbb := (HA.b.trans ((Below.refl v6.heap.size v6).drew.mono HA.b.size)).trans ((hb7.trans (hb8.mono hb7.size)).mono (by have := HA.b.size; exact this))
    go_wp2_with fail
    go_ret
    exact ⟨rfl, hbb⟩
set_option maxRecDepth 100000 in
set_option maxHeartbeats 8000000 in
theorem ex_WrapsIn (V : Int) (c : Nat → Dat) (c0 : Bool) (c1 : Value) (c2 : Value) (c3 : Value) (c4 : Value) (c5 : Int) (w : World) (r1 : Rd w 0 c1 (c 1)) (q1 : Fits (c 1) .items) (r2 : Rd w 0 c2 (c 2)) (q2 : Fits (c 2) .sources) (r3 : Rd w 0 c3 (c 3)) (q3 : Fits (c 3) .exprs) (r4 : Rd w 0 c4 (c 4)) (q4 : Fits (c 4) .keys) 
    (hS : msr (c 1) + msr (c 2) + msr (c 3) + msr (c 4) ≤ 1048576 → ∀ (X1 X2 X3 X4 : Value) (v : World), Rd v 0 X1 (c 1) → Rd v 0 X2 (c 2) → Rd v 0 X3 (c 3) → Rd v 0 X4 (c 4) → Calls Try.prog 30 #[.agg #[.bool c0, X1, X2, X3, X4, .int .i64 c5]] v (IntE V v))
    (hI : msr (c 1) + msr (c 2) + msr (c 3) + msr (c 4) ≤ 1048576 → ∀ (X1 X2 X3 X4 : Value) (v : World), Rd v 0 X1 (c 1) → Rd v 0 X2 (c 2) → Rd v 0 X3 (c 3) → Rd v 0 X4 (c 4) → Calls Try.prog 32 #[.agg #[.bool c0, X1, X2, X3, X4, .int .i64 c5]] v (IntE V v)) :
    Calls Try.prog 8 #[.agg #[.bool c0, c1, c2, c3, c4, .int .i64 c5]] w (BoolE true w) := by
  have hZ := fun w h => szQuery_any c0 c1 c2 c3 c4 c5 (c 1) (c 2) (c 3) (c 4) 1048576 w (by omega) (by omega) (szAll (c 1) _ rfl) (szAll (c 2) _ rfl) (szAll (c 3) _ rfl) (szAll (c 4) _ rfl) (Rd.later r1 h) q1 (Rd.later r2 h) q2 (Rd.later r3 h) q3 (Rd.later r4 h) q4 
  by_cases hbig : (1048576 : Int) - (msr (c 1) + msr (c 2) + msr (c 3) + msr (c 4) : Int) < 0
  · simp only [leftOf_no hbig] at hZ
    go_enter Try.func8, Try.ntmps8
    go_wp2_with fail
    have HA := BX.new w 27 #[.bool c0, c1, c2, c3, c4, .int .i64 c5]
    generalize w.alloc (.cells #[.bool c0, c1, c2, c3, c4, .int .i64 c5] 27) = v0 at HA ⊢
    refine (hZ _ HA.b).mono ?_
    rintro e v1 ⟨rfl, hb⟩
    have hbb := HA.b.trans (hb.mono HA.b.size)
    go_wp2_with fail
    go_ret
    exact ⟨rfl, hbb⟩
  have m1 : msr (c 1) ≤ 1048576 := by omega
  have m2 : msr (c 2) ≤ 1048576 := by omega
  have m3 : msr (c 3) ≤ 1048576 := by omega
  have m4 : msr (c 4) ≤ 1048576 := by omega
  replace hS := hS (by omega)
  replace hI := hI (by omega)
  obtain ⟨z, hz⟩ : ∃ z : Int, z = 1048576 - (msr (c 1) + msr (c 2) + msr (c 3) + msr (c 4) : Int) := ⟨_, rfl⟩
  have hz0 : decide (z < 0) = false := by simp; omega
  simp only [(leftOf_yes hbig).trans hz.symm] at hZ
  clear hz hbig
  have hVV : (V != V) = false := by simp
  go_enter Try.func8, Try.ntmps8
  go_wp2_with fail
  have HA := BX.new w 27 #[.bool c0, c1, c2, c3, c4, .int .i64 c5]
  generalize w.alloc (.cells #[.bool c0, c1, c2, c3, c4, .int .i64 c5] 27) = v0 at HA ⊢
  refine (hZ _ HA.b).mono ?_
  rintro e v1 ⟨rfl, hb⟩
  replace HA := HA.next hb
  clear hb hZ
  have a0 := HA.box.cell (i := 0) (v := .bool c0) rfl
  have a1 := HA.box.cell (i := 1) (v := c1) rfl
  have a2 := HA.box.cell (i := 2) (v := c2) rfl
  have a3 := HA.box.cell (i := 3) (v := c3) rfl
  have a4 := HA.box.cell (i := 4) (v := c4) rfl
  have a5 := HA.box.cell (i := 5) (v := .int .i64 c5) rfl
  go_wp2_with fail
  refine (toQuery_any c0 c1 c2 c3 c4 c5 (c 1) (c 2) (c 3) (c 4) _ (toAll (c 1) _ rfl) (toAll (c 2) _ rfl) (toAll (c 3) _ rfl) (toAll (c 4) _ rfl) (r1.later HA.b) q1 m1 (r2.later HA.b) q2 m2 (r3.later HA.b) q3 m3 (r4.later HA.b) q4 m4).mono ?_
  rintro e v2 ⟨yy1, yy2, yy3, yy4, rfl, ys1, ys2, ys3, ys4, hb⟩
  obtain ⟨ya1, yn1, yc1, rfl⟩ := ys1.slice_of q1 rfl
  replace ys1 := ys1.low (Nat.zero_le _)
  obtain ⟨ya2, yn2, yc2, rfl⟩ := ys2.slice_of q2 rfl
  replace ys2 := ys2.low (Nat.zero_le _)
  obtain ⟨ya3, yn3, yc3, rfl⟩ := ys3.slice_of q3 rfl
  replace ys3 := ys3.low (Nat.zero_le _)
  obtain ⟨ya4, yn4, yc4, rfl⟩ := ys4.slice_of q4 rfl
  replace ys4 := ys4.low (Nat.zero_le _)
  replace HA := HA.next hb
  clear hb a0 a1 a2 a3 a4 a5
  go_wp2_with fail
  refine (hS _ _ _ _ _ ys1 ys2 ys3 ys4).mono ?_
  rintro e v3 ⟨rfl, hb⟩
  replace HA := HA.next hb
  clear hb hS ys1 ys2 ys3 ys4
  have a0 := HA.box.cell (i := 0) (v := .bool c0) rfl
  have a1 := HA.box.cell (i := 1) (v := c1) rfl
  have a2 := HA.box.cell (i := 2) (v := c2) rfl
  have a3 := HA.box.cell (i := 3) (v := c3) rfl
  have a4 := HA.box.cell (i := 4) (v := c4) rfl
  have a5 := HA.box.cell (i := 5) (v := .int .i64 c5) rfl
  go_wp2_with fail
  refine (toQuery_any c0 c1 c2 c3 c4 c5 (c 1) (c 2) (c 3) (c 4) _ (toAll (c 1) _ rfl) (toAll (c 2) _ rfl) (toAll (c 3) _ rfl) (toAll (c 4) _ rfl) (r1.later HA.b) q1 m1 (r2.later HA.b) q2 m2 (r3.later HA.b) q3 m3 (r4.later HA.b) q4 m4).mono ?_
  rintro e v4 ⟨zy1, zy2, zy3, zy4, rfl, zs1, zs2, zs3, zs4, hb⟩
  obtain ⟨za1, zn1, zc1, rfl⟩ := zs1.slice_of q1 rfl
  replace zs1 := zs1.low (Nat.zero_le _)
  obtain ⟨za2, zn2, zc2, rfl⟩ := zs2.slice_of q2 rfl
  replace zs2 := zs2.low (Nat.zero_le _)
  obtain ⟨za3, zn3, zc3, rfl⟩ := zs3.slice_of q3 rfl
  replace zs3 := zs3.low (Nat.zero_le _)
  obtain ⟨za4, zn4, zc4, rfl⟩ := zs4.slice_of q4 rfl
  replace zs4 := zs4.low (Nat.zero_le _)
  replace HA := HA.next hb
  clear hb a0 a1 a2 a3 a4 a5
  have HX := RowAt.new v4 39 #[.bool c0, .slice za1 zn1 zc1, .slice za2 zn2 zc2, .slice za3 zn3 zc3, .slice za4 zn4 zc4, .int .i64 c5]
  have hbx : Below v4.heap.size v4 (v4.alloc (.cells #[.bool c0, .slice za1 zn1 zc1, .slice za2 zn2 zc2, .slice za3 zn3 zc3, .slice za4 zn4 zc4, .int .i64 c5] 39)) := (Below.refl _ _).alloc (Nat.le_refl _) _
  have hxl : v4.heap.size = v4.heap.size := rfl
  go_wp2_with fail
  replace HA := HA.next hbx
  replace zs1 := zs1.later hbx
  replace zs2 := zs2.later hbx
  replace zs3 := zs3.later hbx
  replace zs4 := zs4.later hbx
  clear hbx hxl
  generalize v4.alloc (.cells #[.bool c0, .slice za1 zn1 zc1, .slice za2 zn2 zc2, .slice za3 zn3 zc3, .slice za4 zn4 zc4, .int .i64 c5] 39) = v5 at HX HA zs1 zs2 zs3 zs4 ⊢
  generalize v4.heap.size = X at HX ⊢
  refine (hI _ _ _ _ _ zs1 zs2 zs3 zs4).mono ?_
  rintro e v6 ⟨rfl, hb⟩
  replace HA := HA.next hb
  replace HX := HX.later hb
  replace zs1 := zs1.later hb
  replace zs2 := zs2.later hb
  replace zs3 := zs3.later hb
  replace zs4 := zs4.later hb
  clear hb hI
  have a0 := HA.box.cell (i := 0) (v := .bool c0) rfl
  have a1 := HA.box.cell (i := 1) (v := c1) rfl
  have a2 := HA.box.cell (i := 2) (v := c2) rfl
  have a3 := HA.box.cell (i := 3) (v := c3) rfl
  have a4 := HA.box.cell (i := 4) (v := c4) rfl
  have a5 := HA.box.cell (i := 5) (v := .int .i64 c5) rfl
  have x0 := HX.cell (i := 0) (v := .bool c0) rfl
  have x1 := HX.cell (i := 1) (v := .slice za1 zn1 zc1) rfl
  have x2 := HX.cell (i := 2) (v := .slice za2 zn2 zc2) rfl
  have x3 := HX.cell (i := 3) (v := .slice za3 zn3 zc3) rfl
  have x4 := HX.cell (i := 4) (v := .slice za4 zn4 zc4) rfl
  have x5 := HX.cell (i := 5) (v := .int .i64 c5) rfl
  go_wp2_with fail
  have hT := fun v (h : Below v6.heap.size v6 v) => toQuery_any c0 c1 c2 c3 c4 c5 (c 1) (c 2) (c 3) (c 4) v (toAll (c 1) _ rfl) (toAll (c 2) _ rfl) (toAll (c 3) _ rfl) (toAll (c 4) _ rfl) (r1.later (HA.b.trans (h.mono HA.b.size))) q1 m1 (r2.later (HA.b.trans (h.mono HA.b.size))) q2 m2 (r3.later (HA.b.trans (h.mono HA.b.size))) q3 m3 (r4.later (HA.b.trans (h.mono HA.b.size))) q4 m4
  have hE := fun (k1 : Value) (k2 : Value) (k3 : Value) (k4 : Value) v (h : Below v6.heap.size v6 v) (hk1 : Rd v 0 k1 (c 1)) (hk2 : Rd v 0 k2 (c 2)) (hk3 : Rd v 0 k3 (c 3)) (hk4 : Rd v 0 k4 (c 4)) => eqQuery_any c0 (.slice za1 zn1 zc1) (.slice za2 zn2 zc2) (.slice za3 zn3 zc3) (.slice za4 zn4 zc4) c5 k1 k2 k3 k4 (c 1) (c 2) (c 3) (c 4) v (eqAll (c 1) _ rfl) (eqAll (c 2) _ rfl) (eqAll (c 3) _ rfl) (eqAll (c 4) _ rfl) (zs1.later h) hk1 q1 (zs2.later h) hk2 q2 (zs3.later h) hk3 q3 (zs4.later h) hk4 q4
  go_region_with (first
    | (go_at_call 31; refine (hT _ (Below.refl _ _).drew).mono ?_; rintro e v7 ⟨u1, u2, u3, u4, rfl, us1, us2, us3, us4, hb7⟩; have hX7 := RowAt.later (W := v6.drew) HX hb7; have xx0 := hX7.cell (i := 0) (v := .bool c0) rfl; have xx1 := hX7.cell (i := 1) (v := .slice za1 zn1 zc1) rfl; have xx2 := hX7.cell (i := 2) (v := .slice za2 zn2 zc2) rfl; have xx3 := hX7.cell (i := 3) (v := .slice za3 zn3 zc3) rfl; have xx4 := hX7.cell (i := 4) (v := .slice za4 zn4 zc4) rfl; have xx5 := hX7.cell (i := 5) (v := .int .i64 c5) rfl)
    | (go_at_call 33; refine (hE _ _ _ _ _ ((Below.refl _ _).drew.trans (hb7.mono (Nat.le_refl _))) (us1.low (Nat.zero_le _)) (us2.low (Nat.zero_le _)) (us3.low (Nat.zero_le _)) (us4.low (Nat.zero_le _))).mono ?_; rintro e v8 ⟨rfl, hb8⟩))
  all_goals
    have hbb := (HA.b.trans ((Below.refl v6.heap.size v6).drew.mono HA.b.size)).trans ((hb7.trans (hb8.mono hb7.size)).mono (by have := HA.b.size; exact this))
    go_wp2_with fail
    go_ret
    exact ⟨rfl, hbb⟩
end Go.Proofs.Ytfmgkinindkedaa
