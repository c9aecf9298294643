/- Joined texts: ToTree. -/
import Derived.Test.YtcliijfdlcagoaaGreatQZAD
import Derived.Deep.Cut
namespace Go.Proofs.YtcliijfdlcagoaaGreat
set_option linter.unusedVariables false
set_option linter.unusedSimpArgs false
open Go.RowKit
set_option maxRecDepth 100000 in
set_option maxHeartbeats 4000000 in
theorem toExpr_any (c0 : Int) (c1 : Int) (c2 : Bool) (c3 : Int) (c4 : Int) (c5 : ByteArray) (c6 : ByteArray) (c7 : ByteArray) (c8 : Value) (c9 : Value) (d8 : Dat) (d9 : Dat) (w : World) (h8 : ToP d8 .exprs) (h9 : ToP d9 .queries) (r8 : Rd w 0 c8 d8) (q8 : Fits d8 .exprs) (m8 : msr d8 ≤ 1048576) (r9 : Rd w 0 c9 d9) (q9 : Fits d9 .queries) (m9 : msr d9 ≤ 1048576) :
    Calls Tryz.prog 45 #[.agg #[.int .i64 c0, .int .i64 c1, .bool c2, .int .i64 c3, .int .i64 c4, .string c5, .string c6, .string c7, c8, c9]] w (ToExprE c0 c1 c2 c3 c4 c5 c6 c7 d8 d9 w) := by
  unfold ToP at h8
  unfold ToP at h9
  go_enter Tryz.func45, Tryz.ntmps45
  go_wp2_with fail
  have H := TF.new w 70 79 #[.int .i64 c0, .int .i64 c1, .bool c2, .int .i64 c3, .int .i64 c4, .string c5, .string c6, .string c7, c8, c9] #[.int .i64 0, .int .i64 0, .bool false, .int .i64 0, .int .i64 0, .string ⟨#[]⟩, .string ⟨#[]⟩, .string ⟨#[]⟩, .slice none 0 0, .slice none 0 0] #[.int .i64 c0, .int .i64 c1, .bool c2, .int .i64 0, .int .i64 0, .string ⟨#[]⟩, .string ⟨#[]⟩, .string ⟨#[]⟩, .slice none 0 0, .slice none 0 0]
  generalize ((w.alloc (.cells #[.int .i64 c0, .int .i64 c1, .bool c2, .int .i64 c3, .int .i64 c4, .string c5, .string c6, .string c7, c8, c9] 70)).alloc (.cells #[.int .i64 0, .int .i64 0, .bool false, .int .i64 0, .int .i64 0, .string ⟨#[]⟩, .string ⟨#[]⟩, .string ⟨#[]⟩, .slice none 0 0, .slice none 0 0] 79)).alloc (.cells #[.int .i64 c0, .int .i64 c1, .bool c2, .int .i64 0, .int .i64 0, .string ⟨#[]⟩, .string ⟨#[]⟩, .string ⟨#[]⟩, .slice none 0 0, .slice none 0 0] 79) = w0 at H ⊢
  refine (toValue_any _ _ _ _).mono ?_
  rintro e w1 ⟨rfl, hb⟩
  replace H := H.next hb
  clear hb
  have u3 := H.ro.cell (i := 3) (v := .int .i64 0) rfl
  have v3 := H.ro.soft 3
  have u4 := H.ro.cell (i := 4) (v := .int .i64 0) rfl
  have v4 := H.ro.soft 4
  have u5 := H.ro.cell (i := 5) (v := .string ⟨#[]⟩) rfl
  have v5 := H.ro.soft 5
  have a6 := H.ra.cell (i := 6) (v := .string c6) rfl
  have u6 := H.ro.cell (i := 6) (v := .string ⟨#[]⟩) rfl
  have v6 := H.ro.soft 6
  have a7 := H.ra.cell (i := 7) (v := .string c7) rfl
  have u7 := H.ro.cell (i := 7) (v := .string ⟨#[]⟩) rfl
  have v7 := H.ro.soft 7
  have a8 := H.ra.cell (i := 8) (v := c8) rfl
  go_wp2_with fail
  replace H : TF w _ 70 79 #[.int .i64 c0, .int .i64 c1, .bool c2, .int .i64 c3, .int .i64 c4, .string c5, .string c6, .string c7, c8, c9] #[.int .i64 0, .int .i64 0, .bool false, .int .i64 0, .int .i64 0, .string ⟨#[]⟩, .string ⟨#[]⟩, .string ⟨#[]⟩, .slice none 0 0, .slice none 0 0] #[.int .i64 c0, .int .i64 c1, .bool c2, .int .i64 c3, .int .i64 0, .string ⟨#[]⟩, .string ⟨#[]⟩, .string ⟨#[]⟩, .slice none 0 0, .slice none 0 0] := H.put 3 (.int .i64 c3)
  replace H : TF w _ 70 79 #[.int .i64 c0, .int .i64 c1, .bool c2, .int .i64 c3, .int .i64 c4, .string c5, .string c6, .string c7, c8, c9] #[.int .i64 0, .int .i64 0, .bool false, .int .i64 0, .int .i64 0, .string ⟨#[]⟩, .string ⟨#[]⟩, .string ⟨#[]⟩, .slice none 0 0, .slice none 0 0] #[.int .i64 c0, .int .i64 c1, .bool c2, .int .i64 c3, .int .i64 c4, .string ⟨#[]⟩, .string ⟨#[]⟩, .string ⟨#[]⟩, .slice none 0 0, .slice none 0 0] := H.put 4 (.int .i64 c4)
  replace H : TF w _ 70 79 #[.int .i64 c0, .int .i64 c1, .bool c2, .int .i64 c3, .int .i64 c4, .string c5, .string c6, .string c7, c8, c9] #[.int .i64 0, .int .i64 0, .bool false, .int .i64 0, .int .i64 0, .string ⟨#[]⟩, .string ⟨#[]⟩, .string ⟨#[]⟩, .slice none 0 0, .slice none 0 0] #[.int .i64 c0, .int .i64 c1, .bool c2, .int .i64 c3, .int .i64 c4, .string c5, .string ⟨#[]⟩, .string ⟨#[]⟩, .slice none 0 0, .slice none 0 0] := H.put 5 (.string c5)
  replace H : TF w _ 70 79 #[.int .i64 c0, .int .i64 c1, .bool c2, .int .i64 c3, .int .i64 c4, .string c5, .string c6, .string c7, c8, c9] #[.int .i64 0, .int .i64 0, .bool false, .int .i64 0, .int .i64 0, .string ⟨#[]⟩, .string ⟨#[]⟩, .string ⟨#[]⟩, .slice none 0 0, .slice none 0 0] #[.int .i64 c0, .int .i64 c1, .bool c2, .int .i64 c3, .int .i64 c4, .string c5, .string c6, .string ⟨#[]⟩, .slice none 0 0, .slice none 0 0] := H.put 6 (.string c6)
  replace H : TF w _ 70 79 #[.int .i64 c0, .int .i64 c1, .bool c2, .int .i64 c3, .int .i64 c4, .string c5, .string c6, .string c7, c8, c9] #[.int .i64 0, .int .i64 0, .bool false, .int .i64 0, .int .i64 0, .string ⟨#[]⟩, .string ⟨#[]⟩, .string ⟨#[]⟩, .slice none 0 0, .slice none 0 0] #[.int .i64 c0, .int .i64 c1, .bool c2, .int .i64 c3, .int .i64 c4, .string c5, .string c6, .string c7, .slice none 0 0, .slice none 0 0] := H.put 7 (.string c7)
  clear a8
  refine (h8 _ _ (r8.later H.b) q8 m8).mono ?_
  rintro e w2 ⟨y8, rfl, s8, hb⟩
  replace s8 := s8.low H.size
  obtain ⟨ya8, yn8, yc8, rfl⟩ := s8.slice_of q8 rfl
  replace H := H.next hb
  clear hb
  have u8 := H.ro.cell (i := 8) (v := .slice none 0 0) rfl
  have v8 := H.ro.soft 8
  have a9 := H.ra.cell (i := 9) (v := c9) rfl
  go_wp2_with fail
  replace H : TF w _ 70 79 #[.int .i64 c0, .int .i64 c1, .bool c2, .int .i64 c3, .int .i64 c4, .string c5, .string c6, .string c7, c8, c9] #[.int .i64 0, .int .i64 0, .bool false, .int .i64 0, .int .i64 0, .string ⟨#[]⟩, .string ⟨#[]⟩, .string ⟨#[]⟩, .slice none 0 0, .slice none 0 0] #[.int .i64 c0, .int .i64 c1, .bool c2, .int .i64 c3, .int .i64 c4, .string c5, .string c6, .string c7, .slice ya8 yn8 yc8, .slice none 0 0] := H.put 8 (.slice ya8 yn8 yc8)
  replace s8 := s8.set (p := ⟨w.heap.size + 2, 8, none⟩) (Nat.lt_succ_self _) (.slice ya8 yn8 yc8)
  clear a9
  refine (h9 _ _ (r9.later H.b) q9 m9).mono ?_
  rintro e w3 ⟨y9, rfl, s9, hb⟩
  replace s9 := s9.low H.size
  obtain ⟨ya9, yn9, yc9, rfl⟩ := s9.slice_of q9 rfl
  replace s8 := s8.later hb
  replace H := H.next hb
  clear hb
  have u9 := H.ro.cell (i := 9) (v := .slice none 0 0) rfl
  have v9 := H.ro.soft 9
  replace H : TF w _ 70 79 #[.int .i64 c0, .int .i64 c1, .bool c2, .int .i64 c3, .int .i64 c4, .string c5, .string c6, .string c7, c8, c9] #[.int .i64 0, .int .i64 0, .bool false, .int .i64 0, .int .i64 0, .string ⟨#[]⟩, .string ⟨#[]⟩, .string ⟨#[]⟩, .slice none 0 0, .slice none 0 0] #[.int .i64 c0, .int .i64 c1, .bool c2, .int .i64 c3, .int .i64 c4, .string c5, .string c6, .string c7, .slice ya8 yn8 yc8, .slice ya9 yn9 yc9] := H.put 9 (.slice ya9 yn9 yc9)
  replace s8 := s8.set (p := ⟨w.heap.size + 2, 9, none⟩) (Nat.lt_succ_self _) (.slice ya9 yn9 yc9)
  replace s9 := s9.set (p := ⟨w.heap.size + 2, 9, none⟩) (Nat.lt_succ_self _) (.slice ya9 yn9 yc9)
  go_upto_region 10 with (fail)
  generalize (w3.setCell ⟨w.heap.size + 2, 9, none⟩ (.slice ya9 yn9 yc9)) = wz at H s8 s9 ⊢
  have g0 := H.rr.cell (i := 0) (v := .int .i64 0) rfl
  have k0 := H.rr.soft 0
  have o0 := H.ro.cell (i := 0) (v := .int .i64 c0) rfl
  have g1 := H.rr.cell (i := 1) (v := .int .i64 0) rfl
  have k1 := H.rr.soft 1
  have o1 := H.ro.cell (i := 1) (v := .int .i64 c1) rfl
  have g2 := H.rr.cell (i := 2) (v := .bool false) rfl
  have k2 := H.rr.soft 2
  have o2 := H.ro.cell (i := 2) (v := .bool c2) rfl
  have g3 := H.rr.cell (i := 3) (v := .int .i64 0) rfl
  have k3 := H.rr.soft 3
  have o3 := H.ro.cell (i := 3) (v := .int .i64 c3) rfl
  have g4 := H.rr.cell (i := 4) (v := .int .i64 0) rfl
  have k4 := H.rr.soft 4
  have o4 := H.ro.cell (i := 4) (v := .int .i64 c4) rfl
  have g5 := H.rr.cell (i := 5) (v := .string ⟨#[]⟩) rfl
  have k5 := H.rr.soft 5
  have o5 := H.ro.cell (i := 5) (v := .string c5) rfl
  have g6 := H.rr.cell (i := 6) (v := .string ⟨#[]⟩) rfl
  have k6 := H.rr.soft 6
  have o6 := H.ro.cell (i := 6) (v := .string c6) rfl
  have g7 := H.rr.cell (i := 7) (v := .string ⟨#[]⟩) rfl
  have k7 := H.rr.soft 7
  have o7 := H.ro.cell (i := 7) (v := .string c7) rfl
  have g8 := H.rr.cell (i := 8) (v := .slice none 0 0) rfl
  have k8 := H.rr.soft 8
  have o8 := H.ro.cell (i := 8) (v := .slice ya8 yn8 yc8) rfl
  have g9 := H.rr.cell (i := 9) (v := .slice none 0 0) rfl
  have k9 := H.rr.soft 9
  have o9 := H.ro.cell (i := 9) (v := .slice ya9 yn9 yc9) rfl
  go_wp2_with fail
  rw [show ((((((((((wz.setCell ⟨w.heap.size + 1, 0, none⟩ (.int .i64 c0)).setCell ⟨w.heap.size + 1, 1, none⟩ (.int .i64 c1)).setCell ⟨w.heap.size + 1, 2, none⟩ (.bool c2)).setCell ⟨w.heap.size + 1, 3, none⟩ (.int .i64 c3)).setCell ⟨w.heap.size + 1, 4, none⟩ (.int .i64 c4)).setCell ⟨w.heap.size + 1, 5, none⟩ (.string c5)).setCell ⟨w.heap.size + 1, 6, none⟩ (.string c6)).setCell ⟨w.heap.size + 1, 7, none⟩ (.string c7)).setCell ⟨w.heap.size + 1, 8, none⟩ (.slice ya8 yn8 yc8)).setCell ⟨w.heap.size + 1, 9, none⟩ (.slice ya9 yn9 yc9)) = puts (w.heap.size + 1) 0 [.int .i64 c0, .int .i64 c1, .bool c2, .int .i64 c3, .int .i64 c4, .string c5, .string c6, .string c7, .slice ya8 yn8 yc8, .slice ya9 yn9 yc9] wz from rfl]
  obtain ⟨hr, hbF, hrd⟩ := H.fin [.int .i64 c0, .int .i64 c1, .bool c2, .int .i64 c3, .int .i64 c4, .string c5, .string c6, .string c7, .slice ya8 yn8 yc8, .slice ya9 yn9 yc9] (by simp)
  have f0 := hr 0 (.int .i64 c0) rfl
  have f1 := hr 1 (.int .i64 c1) rfl
  have f2 := hr 2 (.bool c2) rfl
  have f3 := hr 3 (.int .i64 c3) rfl
  have f4 := hr 4 (.int .i64 c4) rfl
  have f5 := hr 5 (.string c5) rfl
  have f6 := hr 6 (.string c6) rfl
  have f7 := hr 7 (.string c7) rfl
  have f8 := hr 8 (.slice ya8 yn8 yc8) rfl
  have f9 := hr 9 (.slice ya9 yn9 yc9) rfl
  clear hr
  have t8 := hrd s8
  have t9 := hrd s9
  clear hrd
  generalize puts (w.heap.size + 1) 0 [.int .i64 c0, .int .i64 c1, .bool c2, .int .i64 c3, .int .i64 c4, .string c5, .string c6, .string c7, .slice ya8 yn8 yc8, .slice ya9 yn9 yc9] wz = wf at hbF f0 f1 f2 f3 f4 f5 f6 f7 f8 f9 t8 t9 ⊢
  refine bodyPost_ret (v := .agg #[.int .i64 c0, .int .i64 c1, .bool c2, .int .i64 c3, .int .i64 c4, .string c5, .string c6, .string c7, .slice ya8 yn8 yc8, .slice ya9 yn9 yc9]) (by simp [results, Tryz.results45, go_sem, f0, f1, f2, f3, f4, f5, f6, f7, f8, f9]) rfl ?_
  exact ⟨.slice ya8 yn8 yc8, .slice ya9 yn9 yc9, rfl, t8, t9, hbF⟩
set_option maxRecDepth 100000 in
set_option maxHeartbeats 4000000 in
theorem toItem_any (c0 : Bool) (c1 : ByteArray) (c2 : Int) (c3 : Int) (c4 : Bool) (c5 : Int) (c6 : Int) (c7 : ByteArray) (c8 : ByteArray) (c9 : ByteArray) (c10 : Value) (c11 : Value) (c12 : ByteArray) (d10 : Dat) (d11 : Dat) (w : World) (h10 : ToP d10 .exprs) (h11 : ToP d11 .queries) (r10 : Rd w 0 c10 d10) (q10 : Fits d10 .exprs) (m10 : msr d10 ≤ 1048576) (r11 : Rd w 0 c11 d11) (q11 : Fits d11 .queries) (m11 : msr d11 ≤ 1048576) :
    Calls Tryz.prog 76 #[.agg #[.bool c0, .string c1, .int .i64 c2, .int .i64 c3, .bool c4, .int .i64 c5, .int .i64 c6, .string c7, .string c8, .string c9, c10, c11, .string c12]] w (ToItemE c0 c1 c2 c3 c4 c5 c6 c7 c8 c9 c12 d10 d11 w) := by
  unfold ToP at h10
  unfold ToP at h11
  go_enter Tryz.func76, Tryz.ntmps76
  go_wp2_with fail
  have H := TF.new w 101 111 #[.bool c0, .string c1, .int .i64 c2, .int .i64 c3, .bool c4, .int .i64 c5, .int .i64 c6, .string c7, .string c8, .string c9, c10, c11, .string c12] #[.bool false, .string ⟨#[]⟩, .int .i64 0, .int .i64 0, .bool false, .int .i64 0, .int .i64 0, .string ⟨#[]⟩, .string ⟨#[]⟩, .string ⟨#[]⟩, .slice none 0 0, .slice none 0 0, .string ⟨#[]⟩] #[.bool c0, .string c1, .int .i64 0, .int .i64 0, .bool false, .int .i64 0, .int .i64 0, .string ⟨#[]⟩, .string ⟨#[]⟩, .string ⟨#[]⟩, .slice none 0 0, .slice none 0 0, .string ⟨#[]⟩]
  generalize ((w.alloc (.cells #[.bool c0, .string c1, .int .i64 c2, .int .i64 c3, .bool c4, .int .i64 c5, .int .i64 c6, .string c7, .string c8, .string c9, c10, c11, .string c12] 101)).alloc (.cells #[.bool false, .string ⟨#[]⟩, .int .i64 0, .int .i64 0, .bool false, .int .i64 0, .int .i64 0, .string ⟨#[]⟩, .string ⟨#[]⟩, .string ⟨#[]⟩, .slice none 0 0, .slice none 0 0, .string ⟨#[]⟩] 111)).alloc (.cells #[.bool c0, .string c1, .int .i64 0, .int .i64 0, .bool false, .int .i64 0, .int .i64 0, .string ⟨#[]⟩, .string ⟨#[]⟩, .string ⟨#[]⟩, .slice none 0 0, .slice none 0 0, .string ⟨#[]⟩] 111) = w0 at H ⊢
  refine (toExpr_any _ _ _ _ _ _ _ _ _ _ _ _ _ h10 h11 (r10.later (H.b)) q10 m10 (r11.later (H.b)) q11 m11).mono ?_
  rintro e w1 ⟨y10, y11, rfl, s10, s11, hb⟩
  replace s10 := s10.low H.size
  obtain ⟨ya10, yn10, yc10, rfl⟩ := s10.slice_of q10 rfl
  replace s11 := s11.low H.size
  obtain ⟨ya11, yn11, yc11, rfl⟩ := s11.slice_of q11 rfl
  replace H := H.next hb
  clear hb
  have u2 := H.ro.cell (i := 2) (v := .int .i64 0) rfl
  have v2 := H.ro.soft 2
  have u3 := H.ro.cell (i := 3) (v := .int .i64 0) rfl
  have v3 := H.ro.soft 3
  have u4 := H.ro.cell (i := 4) (v := .bool false) rfl
  have v4 := H.ro.soft 4
  have u5 := H.ro.cell (i := 5) (v := .int .i64 0) rfl
  have v5 := H.ro.soft 5
  have u6 := H.ro.cell (i := 6) (v := .int .i64 0) rfl
  have v6 := H.ro.soft 6
  have u7 := H.ro.cell (i := 7) (v := .string ⟨#[]⟩) rfl
  have v7 := H.ro.soft 7
  have u8 := H.ro.cell (i := 8) (v := .string ⟨#[]⟩) rfl
  have v8 := H.ro.soft 8
  have u9 := H.ro.cell (i := 9) (v := .string ⟨#[]⟩) rfl
  have v9 := H.ro.soft 9
  have u10 := H.ro.cell (i := 10) (v := .slice none 0 0) rfl
  have v10 := H.ro.soft 10
  have u11 := H.ro.cell (i := 11) (v := .slice none 0 0) rfl
  have v11 := H.ro.soft 11
  have a12 := H.ra.cell (i := 12) (v := .string c12) rfl
  have u12 := H.ro.cell (i := 12) (v := .string ⟨#[]⟩) rfl
  have v12 := H.ro.soft 12
  replace H : TF w _ 101 111 #[.bool c0, .string c1, .int .i64 c2, .int .i64 c3, .bool c4, .int .i64 c5, .int .i64 c6, .string c7, .string c8, .string c9, c10, c11, .string c12] #[.bool false, .string ⟨#[]⟩, .int .i64 0, .int .i64 0, .bool false, .int .i64 0, .int .i64 0, .string ⟨#[]⟩, .string ⟨#[]⟩, .string ⟨#[]⟩, .slice none 0 0, .slice none 0 0, .string ⟨#[]⟩] #[.bool c0, .string c1, .int .i64 c2, .int .i64 0, .bool false, .int .i64 0, .int .i64 0, .string ⟨#[]⟩, .string ⟨#[]⟩, .string ⟨#[]⟩, .slice none 0 0, .slice none 0 0, .string ⟨#[]⟩] := H.put 2 (.int .i64 c2)
  replace s10 := s10.set (p := ⟨w.heap.size + 2, 2, none⟩) (Nat.lt_succ_self _) (.int .i64 c2)
  replace s11 := s11.set (p := ⟨w.heap.size + 2, 2, none⟩) (Nat.lt_succ_self _) (.int .i64 c2)
  replace H : TF w _ 101 111 #[.bool c0, .string c1, .int .i64 c2, .int .i64 c3, .bool c4, .int .i64 c5, .int .i64 c6, .string c7, .string c8, .string c9, c10, c11, .string c12] #[.bool false, .string ⟨#[]⟩, .int .i64 0, .int .i64 0, .bool false, .int .i64 0, .int .i64 0, .string ⟨#[]⟩, .string ⟨#[]⟩, .string ⟨#[]⟩, .slice none 0 0, .slice none 0 0, .string ⟨#[]⟩] #[.bool c0, .string c1, .int .i64 c2, .int .i64 c3, .bool false, .int .i64 0, .int .i64 0, .string ⟨#[]⟩, .string ⟨#[]⟩, .string ⟨#[]⟩, .slice none 0 0, .slice none 0 0, .string ⟨#[]⟩] := H.put 3 (.int .i64 c3)
  replace s10 := s10.set (p := ⟨w.heap.size + 2, 3, none⟩) (Nat.lt_succ_self _) (.int .i64 c3)
  replace s11 := s11.set (p := ⟨w.heap.size + 2, 3, none⟩) (Nat.lt_succ_self _) (.int .i64 c3)
  replace H : TF w _ 101 111 #[.bool c0, .string c1, .int .i64 c2, .int .i64 c3, .bool c4, .int .i64 c5, .int .i64 c6, .string c7, .string c8, .string c9, c10, c11, .string c12] #[.bool false, .string ⟨#[]⟩, .int .i64 0, .int .i64 0, .bool false, .int .i64 0, .int .i64 0, .string ⟨#[]⟩, .string ⟨#[]⟩, .string ⟨#[]⟩, .slice none 0 0, .slice none 0 0, .string ⟨#[]⟩] #[.bool c0, .string c1, .int .i64 c2, .int .i64 c3, .bool c4, .int .i64 0, .int .i64 0, .string ⟨#[]⟩, .string ⟨#[]⟩, .string ⟨#[]⟩, .slice none 0 0, .slice none 0 0, .string ⟨#[]⟩] := H.put 4 (.bool c4)
  replace s10 := s10.set (p := ⟨w.heap.size + 2, 4, none⟩) (Nat.lt_succ_self _) (.bool c4)
  replace s11 := s11.set (p := ⟨w.heap.size + 2, 4, none⟩) (Nat.lt_succ_self _) (.bool c4)
  replace H : TF w _ 101 111 #[.bool c0, .string c1, .int .i64 c2, .int .i64 c3, .bool c4, .int .i64 c5, .int .i64 c6, .string c7, .string c8, .string c9, c10, c11, .string c12] #[.bool false, .string ⟨#[]⟩, .int .i64 0, .int .i64 0, .bool false, .int .i64 0, .int .i64 0, .string ⟨#[]⟩, .string ⟨#[]⟩, .string ⟨#[]⟩, .slice none 0 0, .slice none 0 0, .string ⟨#[]⟩] #[.bool c0, .string c1, .int .i64 c2, .int .i64 c3, .bool c4, .int .i64 c5, .int .i64 0, .string ⟨#[]⟩, .string ⟨#[]⟩, .string ⟨#[]⟩, .slice none 0 0, .slice none 0 0, .string ⟨#[]⟩] := H.put 5 (.int .i64 c5)
  replace s10 := s10.set (p := ⟨w.heap.size + 2, 5, none⟩) (Nat.lt_succ_self _) (.int .i64 c5)
  replace s11 := s11.set (p := ⟨w.heap.size + 2, 5, none⟩) (Nat.lt_succ_self _) (.int .i64 c5)
  replace H : TF w _ 101 111 #[.bool c0, .string c1, .int .i64 c2, .int .i64 c3, .bool c4, .int .i64 c5, .int .i64 c6, .string c7, .string c8, .string c9, c10, c11, .string c12] #[.bool false, .string ⟨#[]⟩, .int .i64 0, .int .i64 0, .bool false, .int .i64 0, .int .i64 0, .string ⟨#[]⟩, .string ⟨#[]⟩, .string ⟨#[]⟩, .slice none 0 0, .slice none 0 0, .string ⟨#[]⟩] #[.bool c0, .string c1, .int .i64 c2, .int .i64 c3, .bool c4, .int .i64 c5, .int .i64 c6, .string ⟨#[]⟩, .string ⟨#[]⟩, .string ⟨#[]⟩, .slice none 0 0, .slice none 0 0, .string ⟨#[]⟩] := H.put 6 (.int .i64 c6)
  replace s10 := s10.set (p := ⟨w.heap.size + 2, 6, none⟩) (Nat.lt_succ_self _) (.int .i64 c6)
  replace s11 := s11.set (p := ⟨w.heap.size + 2, 6, none⟩) (Nat.lt_succ_self _) (.int .i64 c6)
  replace H : TF w _ 101 111 #[.bool c0, .string c1, .int .i64 c2, .int .i64 c3, .bool c4, .int .i64 c5, .int .i64 c6, .string c7, .string c8, .string c9, c10, c11, .string c12] #[.bool false, .string ⟨#[]⟩, .int .i64 0, .int .i64 0, .bool false, .int .i64 0, .int .i64 0, .string ⟨#[]⟩, .string ⟨#[]⟩, .string ⟨#[]⟩, .slice none 0 0, .slice none 0 0, .string ⟨#[]⟩] #[.bool c0, .string c1, .int .i64 c2, .int .i64 c3, .bool c4, .int .i64 c5, .int .i64 c6, .string c7, .string ⟨#[]⟩, .string ⟨#[]⟩, .slice none 0 0, .slice none 0 0, .string ⟨#[]⟩] := H.put 7 (.string c7)
  replace s10 := s10.set (p := ⟨w.heap.size + 2, 7, none⟩) (Nat.lt_succ_self _) (.string c7)
  replace s11 := s11.set (p := ⟨w.heap.size + 2, 7, none⟩) (Nat.lt_succ_self _) (.string c7)
  replace H : TF w _ 101 111 #[.bool c0, .string c1, .int .i64 c2, .int .i64 c3, .bool c4, .int .i64 c5, .int .i64 c6, .string c7, .string c8, .string c9, c10, c11, .string c12] #[.bool false, .string ⟨#[]⟩, .int .i64 0, .int .i64 0, .bool false, .int .i64 0, .int .i64 0, .string ⟨#[]⟩, .string ⟨#[]⟩, .string ⟨#[]⟩, .slice none 0 0, .slice none 0 0, .string ⟨#[]⟩] #[.bool c0, .string c1, .int .i64 c2, .int .i64 c3, .bool c4, .int .i64 c5, .int .i64 c6, .string c7, .string c8, .string ⟨#[]⟩, .slice none 0 0, .slice none 0 0, .string ⟨#[]⟩] := H.put 8 (.string c8)
  replace s10 := s10.set (p := ⟨w.heap.size + 2, 8, none⟩) (Nat.lt_succ_self _) (.string c8)
  replace s11 := s11.set (p := ⟨w.heap.size + 2, 8, none⟩) (Nat.lt_succ_self _) (.string c8)
  replace H : TF w _ 101 111 #[.bool c0, .string c1, .int .i64 c2, .int .i64 c3, .bool c4, .int .i64 c5, .int .i64 c6, .string c7, .string c8, .string c9, c10, c11, .string c12] #[.bool false, .string ⟨#[]⟩, .int .i64 0, .int .i64 0, .bool false, .int .i64 0, .int .i64 0, .string ⟨#[]⟩, .string ⟨#[]⟩, .string ⟨#[]⟩, .slice none 0 0, .slice none 0 0, .string ⟨#[]⟩] #[.bool c0, .string c1, .int .i64 c2, .int .i64 c3, .bool c4, .int .i64 c5, .int .i64 c6, .string c7, .string c8, .string c9, .slice none 0 0, .slice none 0 0, .string ⟨#[]⟩] := H.put 9 (.string c9)
  replace s10 := s10.set (p := ⟨w.heap.size + 2, 9, none⟩) (Nat.lt_succ_self _) (.string c9)
  replace s11 := s11.set (p := ⟨w.heap.size + 2, 9, none⟩) (Nat.lt_succ_self _) (.string c9)
  replace H : TF w _ 101 111 #[.bool c0, .string c1, .int .i64 c2, .int .i64 c3, .bool c4, .int .i64 c5, .int .i64 c6, .string c7, .string c8, .string c9, c10, c11, .string c12] #[.bool false, .string ⟨#[]⟩, .int .i64 0, .int .i64 0, .bool false, .int .i64 0, .int .i64 0, .string ⟨#[]⟩, .string ⟨#[]⟩, .string ⟨#[]⟩, .slice none 0 0, .slice none 0 0, .string ⟨#[]⟩] #[.bool c0, .string c1, .int .i64 c2, .int .i64 c3, .bool c4, .int .i64 c5, .int .i64 c6, .string c7, .string c8, .string c9, .slice ya10 yn10 yc10, .slice none 0 0, .string ⟨#[]⟩] := H.put 10 (.slice ya10 yn10 yc10)
  replace s10 := s10.set (p := ⟨w.heap.size + 2, 10, none⟩) (Nat.lt_succ_self _) (.slice ya10 yn10 yc10)
  replace s11 := s11.set (p := ⟨w.heap.size + 2, 10, none⟩) (Nat.lt_succ_self _) (.slice ya10 yn10 yc10)
  replace H : TF w _ 101 111 #[.bool c0, .string c1, .int .i64 c2, .int .i64 c3, .bool c4, .int .i64 c5, .int .i64 c6, .string c7, .string c8, .string c9, c10, c11, .string c12] #[.bool false, .string ⟨#[]⟩, .int .i64 0, .int .i64 0, .bool false, .int .i64 0, .int .i64 0, .string ⟨#[]⟩, .string ⟨#[]⟩, .string ⟨#[]⟩, .slice none 0 0, .slice none 0 0, .string ⟨#[]⟩] #[.bool c0, .string c1, .int .i64 c2, .int .i64 c3, .bool c4, .int .i64 c5, .int .i64 c6, .string c7, .string c8, .string c9, .slice ya10 yn10 yc10, .slice ya11 yn11 yc11, .string ⟨#[]⟩] := H.put 11 (.slice ya11 yn11 yc11)
  replace s10 := s10.set (p := ⟨w.heap.size + 2, 11, none⟩) (Nat.lt_succ_self _) (.slice ya11 yn11 yc11)
  replace s11 := s11.set (p := ⟨w.heap.size + 2, 11, none⟩) (Nat.lt_succ_self _) (.slice ya11 yn11 yc11)
  replace H : TF w _ 101 111 #[.bool c0, .string c1, .int .i64 c2, .int .i64 c3, .bool c4, .int .i64 c5, .int .i64 c6, .string c7, .string c8, .string c9, c10, c11, .string c12] #[.bool false, .string ⟨#[]⟩, .int .i64 0, .int .i64 0, .bool false, .int .i64 0, .int .i64 0, .string ⟨#[]⟩, .string ⟨#[]⟩, .string ⟨#[]⟩, .slice none 0 0, .slice none 0 0, .string ⟨#[]⟩] #[.bool c0, .string c1, .int .i64 c2, .int .i64 c3, .bool c4, .int .i64 c5, .int .i64 c6, .string c7, .string c8, .string c9, .slice ya10 yn10 yc10, .slice ya11 yn11 yc11, .string c12] := H.put 12 (.string c12)
  replace s10 := s10.set (p := ⟨w.heap.size + 2, 12, none⟩) (Nat.lt_succ_self _) (.string c12)
  replace s11 := s11.set (p := ⟨w.heap.size + 2, 12, none⟩) (Nat.lt_succ_self _) (.string c12)
  go_upto_region 6 with (fail)
  generalize (((((((((((w1.setCell ⟨w.heap.size + 2, 2, none⟩ (.int .i64 c2)).setCell ⟨w.heap.size + 2, 3, none⟩ (.int .i64 c3)).setCell ⟨w.heap.size + 2, 4, none⟩ (.bool c4)).setCell ⟨w.heap.size + 2, 5, none⟩ (.int .i64 c5)).setCell ⟨w.heap.size + 2, 6, none⟩ (.int .i64 c6)).setCell ⟨w.heap.size + 2, 7, none⟩ (.string c7)).setCell ⟨w.heap.size + 2, 8, none⟩ (.string c8)).setCell ⟨w.heap.size + 2, 9, none⟩ (.string c9)).setCell ⟨w.heap.size + 2, 10, none⟩ (.slice ya10 yn10 yc10)).setCell ⟨w.heap.size + 2, 11, none⟩ (.slice ya11 yn11 yc11)).setCell ⟨w.heap.size + 2, 12, none⟩ (.string c12)) = wz at H s10 s11 ⊢
  have g0 := H.rr.cell (i := 0) (v := .bool false) rfl
  have k0 := H.rr.soft 0
  have o0 := H.ro.cell (i := 0) (v := .bool c0) rfl
  have g1 := H.rr.cell (i := 1) (v := .string ⟨#[]⟩) rfl
  have k1 := H.rr.soft 1
  have o1 := H.ro.cell (i := 1) (v := .string c1) rfl
  have g2 := H.rr.cell (i := 2) (v := .int .i64 0) rfl
  have k2 := H.rr.soft 2
  have o2 := H.ro.cell (i := 2) (v := .int .i64 c2) rfl
  have g3 := H.rr.cell (i := 3) (v := .int .i64 0) rfl
  have k3 := H.rr.soft 3
  have o3 := H.ro.cell (i := 3) (v := .int .i64 c3) rfl
  have g4 := H.rr.cell (i := 4) (v := .bool false) rfl
  have k4 := H.rr.soft 4
  have o4 := H.ro.cell (i := 4) (v := .bool c4) rfl
  have g5 := H.rr.cell (i := 5) (v := .int .i64 0) rfl
  have k5 := H.rr.soft 5
  have o5 := H.ro.cell (i := 5) (v := .int .i64 c5) rfl
  have g6 := H.rr.cell (i := 6) (v := .int .i64 0) rfl
  have k6 := H.rr.soft 6
  have o6 := H.ro.cell (i := 6) (v := .int .i64 c6) rfl
  have g7 := H.rr.cell (i := 7) (v := .string ⟨#[]⟩) rfl
  have k7 := H.rr.soft 7
  have o7 := H.ro.cell (i := 7) (v := .string c7) rfl
  have g8 := H.rr.cell (i := 8) (v := .string ⟨#[]⟩) rfl
  have k8 := H.rr.soft 8
  have o8 := H.ro.cell (i := 8) (v := .string c8) rfl
  have g9 := H.rr.cell (i := 9) (v := .string ⟨#[]⟩) rfl
  have k9 := H.rr.soft 9
  have o9 := H.ro.cell (i := 9) (v := .string c9) rfl
  have g10 := H.rr.cell (i := 10) (v := .slice none 0 0) rfl
  have k10 := H.rr.soft 10
  have o10 := H.ro.cell (i := 10) (v := .slice ya10 yn10 yc10) rfl
  have g11 := H.rr.cell (i := 11) (v := .slice none 0 0) rfl
  have k11 := H.rr.soft 11
  have o11 := H.ro.cell (i := 11) (v := .slice ya11 yn11 yc11) rfl
  have g12 := H.rr.cell (i := 12) (v := .string ⟨#[]⟩) rfl
  have k12 := H.rr.soft 12
  have o12 := H.ro.cell (i := 12) (v := .string c12) rfl
  go_wp2_with fail
  rw [show (((((((((((((wz.setCell ⟨w.heap.size + 1, 0, none⟩ (.bool c0)).setCell ⟨w.heap.size + 1, 1, none⟩ (.string c1)).setCell ⟨w.heap.size + 1, 2, none⟩ (.int .i64 c2)).setCell ⟨w.heap.size + 1, 3, none⟩ (.int .i64 c3)).setCell ⟨w.heap.size + 1, 4, none⟩ (.bool c4)).setCell ⟨w.heap.size + 1, 5, none⟩ (.int .i64 c5)).setCell ⟨w.heap.size + 1, 6, none⟩ (.int .i64 c6)).setCell ⟨w.heap.size + 1, 7, none⟩ (.string c7)).setCell ⟨w.heap.size + 1, 8, none⟩ (.string c8)).setCell ⟨w.heap.size + 1, 9, none⟩ (.string c9)).setCell ⟨w.heap.size + 1, 10, none⟩ (.slice ya10 yn10 yc10)).setCell ⟨w.heap.size + 1, 11, none⟩ (.slice ya11 yn11 yc11)).setCell ⟨w.heap.size + 1, 12, none⟩ (.string c12)) = puts (w.heap.size + 1) 0 [.bool c0, .string c1, .int .i64 c2, .int .i64 c3, .bool c4, .int .i64 c5, .int .i64 c6, .string c7, .string c8, .string c9, .slice ya10 yn10 yc10, .slice ya11 yn11 yc11, .string c12] wz from rfl]
  obtain ⟨hr, hbF, hrd⟩ := H.fin [.bool c0, .string c1, .int .i64 c2, .int .i64 c3, .bool c4, .int .i64 c5, .int .i64 c6, .string c7, .string c8, .string c9, .slice ya10 yn10 yc10, .slice ya11 yn11 yc11, .string c12] (by simp)
  have f0 := hr 0 (.bool c0) rfl
  have f1 := hr 1 (.string c1) rfl
  have f2 := hr 2 (.int .i64 c2) rfl
  have f3 := hr 3 (.int .i64 c3) rfl
  have f4 := hr 4 (.bool c4) rfl
  have f5 := hr 5 (.int .i64 c5) rfl
  have f6 := hr 6 (.int .i64 c6) rfl
  have f7 := hr 7 (.string c7) rfl
  have f8 := hr 8 (.string c8) rfl
  have f9 := hr 9 (.string c9) rfl
  have f10 := hr 10 (.slice ya10 yn10 yc10) rfl
  have f11 := hr 11 (.slice ya11 yn11 yc11) rfl
  have f12 := hr 12 (.string c12) rfl
  clear hr
  have t10 := hrd s10
  have t11 := hrd s11
  clear hrd
  generalize puts (w.heap.size + 1) 0 [.bool c0, .string c1, .int .i64 c2, .int .i64 c3, .bool c4, .int .i64 c5, .int .i64 c6, .string c7, .string c8, .string c9, .slice ya10 yn10 yc10, .slice ya11 yn11 yc11, .string c12] wz = wf at hbF f0 f1 f2 f3 f4 f5 f6 f7 f8 f9 f10 f11 f12 t10 t11 ⊢
  refine bodyPost_ret (v := .agg #[.bool c0, .string c1, .int .i64 c2, .int .i64 c3, .bool c4, .int .i64 c5, .int .i64 c6, .string c7, .string c8, .string c9, .slice ya10 yn10 yc10, .slice ya11 yn11 yc11, .string c12]) (by simp [results, Tryz.results76, go_sem, f0, f1, f2, f3, f4, f5, f6, f7, f8, f9, f10, f11, f12]) rfl ?_
  exact ⟨.slice ya10 yn10 yc10, .slice ya11 yn11 yc11, rfl, t10, t11, hbF⟩
set_option maxRecDepth 100000 in
set_option maxHeartbeats 4000000 in
theorem toSource_any (c0 : ByteArray) (c1 : ByteArray) (c2 : Value) (d2 : Dat) (w : World) (h2 : ToP d2 .exprs) (r2 : Rd w 0 c2 d2) (q2 : Fits d2 .exprs) (m2 : msr d2 ≤ 1048576) :
    Calls Tryz.prog 77 #[.agg #[.string c0, .string c1, c2]] w (ToSourceE c0 c1 d2 w) := by
  unfold ToP at h2
  go_enter Tryz.func77, Tryz.ntmps77
  go_wp2_with fail
  have H := TF.new w 104 113 #[.string c0, .string c1, c2] #[.string ⟨#[]⟩, .string ⟨#[]⟩, .slice none 0 0] #[.string c0, .string c1, .slice none 0 0]
  generalize ((w.alloc (.cells #[.string c0, .string c1, c2] 104)).alloc (.cells #[.string ⟨#[]⟩, .string ⟨#[]⟩, .slice none 0 0] 113)).alloc (.cells #[.string c0, .string c1, .slice none 0 0] 113) = w0 at H ⊢
  refine (h2 _ _ (r2.later H.b) q2 m2).mono ?_
  rintro e w1 ⟨y2, rfl, s2, hb⟩
  replace s2 := s2.low H.size
  obtain ⟨ya2, yn2, yc2, rfl⟩ := s2.slice_of q2 rfl
  replace H := H.next hb
  clear hb
  have u2 := H.ro.cell (i := 2) (v := .slice none 0 0) rfl
  have v2 := H.ro.soft 2
  replace H : TF w _ 104 113 #[.string c0, .string c1, c2] #[.string ⟨#[]⟩, .string ⟨#[]⟩, .slice none 0 0] #[.string c0, .string c1, .slice ya2 yn2 yc2] := H.put 2 (.slice ya2 yn2 yc2)
  replace s2 := s2.set (p := ⟨w.heap.size + 2, 2, none⟩) (Nat.lt_succ_self _) (.slice ya2 yn2 yc2)
  go_upto_region 5 with (fail)
  generalize (w1.setCell ⟨w.heap.size + 2, 2, none⟩ (.slice ya2 yn2 yc2)) = wz at H s2 ⊢
  have g0 := H.rr.cell (i := 0) (v := .string ⟨#[]⟩) rfl
  have k0 := H.rr.soft 0
  have o0 := H.ro.cell (i := 0) (v := .string c0) rfl
  have g1 := H.rr.cell (i := 1) (v := .string ⟨#[]⟩) rfl
  have k1 := H.rr.soft 1
  have o1 := H.ro.cell (i := 1) (v := .string c1) rfl
  have g2 := H.rr.cell (i := 2) (v := .slice none 0 0) rfl
  have k2 := H.rr.soft 2
  have o2 := H.ro.cell (i := 2) (v := .slice ya2 yn2 yc2) rfl
  go_wp2_with fail
  rw [show (((wz.setCell ⟨w.heap.size + 1, 0, none⟩ (.string c0)).setCell ⟨w.heap.size + 1, 1, none⟩ (.string c1)).setCell ⟨w.heap.size + 1, 2, none⟩ (.slice ya2 yn2 yc2)) = puts (w.heap.size + 1) 0 [.string c0, .string c1, .slice ya2 yn2 yc2] wz from rfl]
  obtain ⟨hr, hbF, hrd⟩ := H.fin [.string c0, .string c1, .slice ya2 yn2 yc2] (by simp)
  have f0 := hr 0 (.string c0) rfl
  have f1 := hr 1 (.string c1) rfl
  have f2 := hr 2 (.slice ya2 yn2 yc2) rfl
  clear hr
  have t2 := hrd s2
  clear hrd
  generalize puts (w.heap.size + 1) 0 [.string c0, .string c1, .slice ya2 yn2 yc2] wz = wf at hbF f0 f1 f2 t2 ⊢
  refine bodyPost_ret (v := .agg #[.string c0, .string c1, .slice ya2 yn2 yc2]) (by simp [results, Tryz.results77, go_sem, f0, f1, f2]) rfl ?_
  exact ⟨.slice ya2 yn2 yc2, rfl, t2, hbF⟩
set_option maxRecDepth 100000 in
set_option maxHeartbeats 4000000 in
theorem toSortKey_any (c0 : Int) (c1 : Int) (c2 : Bool) (c3 : Int) (c4 : Int) (c5 : ByteArray) (c6 : ByteArray) (c7 : ByteArray) (c8 : Value) (c9 : Value) (c10 : Bool) (d8 : Dat) (d9 : Dat) (w : World) (h8 : ToP d8 .exprs) (h9 : ToP d9 .queries) (r8 : Rd w 0 c8 d8) (q8 : Fits d8 .exprs) (m8 : msr d8 ≤ 1048576) (r9 : Rd w 0 c9 d9) (q9 : Fits d9 .queries) (m9 : msr d9 ≤ 1048576) :
    Calls Tryz.prog 78 #[.agg #[.int .i64 c0, .int .i64 c1, .bool c2, .int .i64 c3, .int .i64 c4, .string c5, .string c6, .string c7, c8, c9, .bool c10]] w (ToSortKeyE c0 c1 c2 c3 c4 c5 c6 c7 c10 d8 d9 w) := by
  unfold ToP at h8
  unfold ToP at h9
  go_enter Tryz.func78, Tryz.ntmps78
  go_wp2_with fail
  have H := TF.new w 107 115 #[.int .i64 c0, .int .i64 c1, .bool c2, .int .i64 c3, .int .i64 c4, .string c5, .string c6, .string c7, c8, c9, .bool c10] #[.int .i64 0, .int .i64 0, .bool false, .int .i64 0, .int .i64 0, .string ⟨#[]⟩, .string ⟨#[]⟩, .string ⟨#[]⟩, .slice none 0 0, .slice none 0 0, .bool false] #[.int .i64 0, .int .i64 0, .bool false, .int .i64 0, .int .i64 0, .string ⟨#[]⟩, .string ⟨#[]⟩, .string ⟨#[]⟩, .slice none 0 0, .slice none 0 0, .bool false]
  generalize ((w.alloc (.cells #[.int .i64 c0, .int .i64 c1, .bool c2, .int .i64 c3, .int .i64 c4, .string c5, .string c6, .string c7, c8, c9, .bool c10] 107)).alloc (.cells #[.int .i64 0, .int .i64 0, .bool false, .int .i64 0, .int .i64 0, .string ⟨#[]⟩, .string ⟨#[]⟩, .string ⟨#[]⟩, .slice none 0 0, .slice none 0 0, .bool false] 115)).alloc (.cells #[.int .i64 0, .int .i64 0, .bool false, .int .i64 0, .int .i64 0, .string ⟨#[]⟩, .string ⟨#[]⟩, .string ⟨#[]⟩, .slice none 0 0, .slice none 0 0, .bool false] 115) = w0 at H ⊢
  refine (toExpr_any _ _ _ _ _ _ _ _ _ _ _ _ _ h8 h9 (r8.later (H.b)) q8 m8 (r9.later (H.b)) q9 m9).mono ?_
  rintro e w1 ⟨y8, y9, rfl, s8, s9, hb⟩
  replace s8 := s8.low H.size
  obtain ⟨ya8, yn8, yc8, rfl⟩ := s8.slice_of q8 rfl
  replace s9 := s9.low H.size
  obtain ⟨ya9, yn9, yc9, rfl⟩ := s9.slice_of q9 rfl
  replace H := H.next hb
  clear hb
  have u0 := H.ro.cell (i := 0) (v := .int .i64 0) rfl
  have v0 := H.ro.soft 0
  have u1 := H.ro.cell (i := 1) (v := .int .i64 0) rfl
  have v1 := H.ro.soft 1
  have u2 := H.ro.cell (i := 2) (v := .bool false) rfl
  have v2 := H.ro.soft 2
  have u3 := H.ro.cell (i := 3) (v := .int .i64 0) rfl
  have v3 := H.ro.soft 3
  have u4 := H.ro.cell (i := 4) (v := .int .i64 0) rfl
  have v4 := H.ro.soft 4
  have u5 := H.ro.cell (i := 5) (v := .string ⟨#[]⟩) rfl
  have v5 := H.ro.soft 5
  have u6 := H.ro.cell (i := 6) (v := .string ⟨#[]⟩) rfl
  have v6 := H.ro.soft 6
  have u7 := H.ro.cell (i := 7) (v := .string ⟨#[]⟩) rfl
  have v7 := H.ro.soft 7
  have u8 := H.ro.cell (i := 8) (v := .slice none 0 0) rfl
  have v8 := H.ro.soft 8
  have u9 := H.ro.cell (i := 9) (v := .slice none 0 0) rfl
  have v9 := H.ro.soft 9
  have a10 := H.ra.cell (i := 10) (v := .bool c10) rfl
  have u10 := H.ro.cell (i := 10) (v := .bool false) rfl
  have v10 := H.ro.soft 10
  replace H : TF w _ 107 115 #[.int .i64 c0, .int .i64 c1, .bool c2, .int .i64 c3, .int .i64 c4, .string c5, .string c6, .string c7, c8, c9, .bool c10] #[.int .i64 0, .int .i64 0, .bool false, .int .i64 0, .int .i64 0, .string ⟨#[]⟩, .string ⟨#[]⟩, .string ⟨#[]⟩, .slice none 0 0, .slice none 0 0, .bool false] #[.int .i64 c0, .int .i64 0, .bool false, .int .i64 0, .int .i64 0, .string ⟨#[]⟩, .string ⟨#[]⟩, .string ⟨#[]⟩, .slice none 0 0, .slice none 0 0, .bool false] := H.put 0 (.int .i64 c0)
  replace s8 := s8.set (p := ⟨w.heap.size + 2, 0, none⟩) (Nat.lt_succ_self _) (.int .i64 c0)
  replace s9 := s9.set (p := ⟨w.heap.size + 2, 0, none⟩) (Nat.lt_succ_self _) (.int .i64 c0)
  replace H : TF w _ 107 115 #[.int .i64 c0, .int .i64 c1, .bool c2, .int .i64 c3, .int .i64 c4, .string c5, .string c6, .string c7, c8, c9, .bool c10] #[.int .i64 0, .int .i64 0, .bool false, .int .i64 0, .int .i64 0, .string ⟨#[]⟩, .string ⟨#[]⟩, .string ⟨#[]⟩, .slice none 0 0, .slice none 0 0, .bool false] #[.int .i64 c0, .int .i64 c1, .bool false, .int .i64 0, .int .i64 0, .string ⟨#[]⟩, .string ⟨#[]⟩, .string ⟨#[]⟩, .slice none 0 0, .slice none 0 0, .bool false] := H.put 1 (.int .i64 c1)
  replace s8 := s8.set (p := ⟨w.heap.size + 2, 1, none⟩) (Nat.lt_succ_self _) (.int .i64 c1)
  replace s9 := s9.set (p := ⟨w.heap.size + 2, 1, none⟩) (Nat.lt_succ_self _) (.int .i64 c1)
  replace H : TF w _ 107 115 #[.int .i64 c0, .int .i64 c1, .bool c2, .int .i64 c3, .int .i64 c4, .string c5, .string c6, .string c7, c8, c9, .bool c10] #[.int .i64 0, .int .i64 0, .bool false, .int .i64 0, .int .i64 0, .string ⟨#[]⟩, .string ⟨#[]⟩, .string ⟨#[]⟩, .slice none 0 0, .slice none 0 0, .bool false] #[.int .i64 c0, .int .i64 c1, .bool c2, .int .i64 0, .int .i64 0, .string ⟨#[]⟩, .string ⟨#[]⟩, .string ⟨#[]⟩, .slice none 0 0, .slice none 0 0, .bool false] := H.put 2 (.bool c2)
  replace s8 := s8.set (p := ⟨w.heap.size + 2, 2, none⟩) (Nat.lt_succ_self _) (.bool c2)
  replace s9 := s9.set (p := ⟨w.heap.size + 2, 2, none⟩) (Nat.lt_succ_self _) (.bool c2)
  replace H : TF w _ 107 115 #[.int .i64 c0, .int .i64 c1, .bool c2, .int .i64 c3, .int .i64 c4, .string c5, .string c6, .string c7, c8, c9, .bool c10] #[.int .i64 0, .int .i64 0, .bool false, .int .i64 0, .int .i64 0, .string ⟨#[]⟩, .string ⟨#[]⟩, .string ⟨#[]⟩, .slice none 0 0, .slice none 0 0, .bool false] #[.int .i64 c0, .int .i64 c1, .bool c2, .int .i64 c3, .int .i64 0, .string ⟨#[]⟩, .string ⟨#[]⟩, .string ⟨#[]⟩, .slice none 0 0, .slice none 0 0, .bool false] := H.put 3 (.int .i64 c3)
  replace s8 := s8.set (p := ⟨w.heap.size + 2, 3, none⟩) (Nat.lt_succ_self _) (.int .i64 c3)
  replace s9 := s9.set (p := ⟨w.heap.size + 2, 3, none⟩) (Nat.lt_succ_self _) (.int .i64 c3)
  replace H : TF w _ 107 115 #[.int .i64 c0, .int .i64 c1, .bool c2, .int .i64 c3, .int .i64 c4, .string c5, .string c6, .string c7, c8, c9, .bool c10] #[.int .i64 0, .int .i64 0, .bool false, .int .i64 0, .int .i64 0, .string ⟨#[]⟩, .string ⟨#[]⟩, .string ⟨#[]⟩, .slice none 0 0, .slice none 0 0, .bool false] #[.int .i64 c0, .int .i64 c1, .bool c2, .int .i64 c3, .int .i64 c4, .string ⟨#[]⟩, .string ⟨#[]⟩, .string ⟨#[]⟩, .slice none 0 0, .slice none 0 0, .bool false] := H.put 4 (.int .i64 c4)
  replace s8 := s8.set (p := ⟨w.heap.size + 2, 4, none⟩) (Nat.lt_succ_self _) (.int .i64 c4)
  replace s9 := s9.set (p := ⟨w.heap.size + 2, 4, none⟩) (Nat.lt_succ_self _) (.int .i64 c4)
  replace H : TF w _ 107 115 #[.int .i64 c0, .int .i64 c1, .bool c2, .int .i64 c3, .int .i64 c4, .string c5, .string c6, .string c7, c8, c9, .bool c10] #[.int .i64 0, .int .i64 0, .bool false, .int .i64 0, .int .i64 0, .string ⟨#[]⟩, .string ⟨#[]⟩, .string ⟨#[]⟩, .slice none 0 0, .slice none 0 0, .bool false] #[.int .i64 c0, .int .i64 c1, .bool c2, .int .i64 c3, .int .i64 c4, .string c5, .string ⟨#[]⟩, .string ⟨#[]⟩, .slice none 0 0, .slice none 0 0, .bool false] := H.put 5 (.string c5)
  replace s8 := s8.set (p := ⟨w.heap.size + 2, 5, none⟩) (Nat.lt_succ_self _) (.string c5)
  replace s9 := s9.set (p := ⟨w.heap.size + 2, 5, none⟩) (Nat.lt_succ_self _) (.string c5)
  replace H : TF w _ 107 115 #[.int .i64 c0, .int .i64 c1, .bool c2, .int .i64 c3, .int .i64 c4, .string c5, .string c6, .string c7, c8, c9, .bool c10] #[.int .i64 0, .int .i64 0, .bool false, .int .i64 0, .int .i64 0, .string ⟨#[]⟩, .string ⟨#[]⟩, .string ⟨#[]⟩, .slice none 0 0, .slice none 0 0, .bool false] #[.int .i64 c0, .int .i64 c1, .bool c2, .int .i64 c3, .int .i64 c4, .string c5, .string c6, .string ⟨#[]⟩, .slice none 0 0, .slice none 0 0, .bool false] := H.put 6 (.string c6)
  replace s8 := s8.set (p := ⟨w.heap.size + 2, 6, none⟩) (Nat.lt_succ_self _) (.string c6)
  replace s9 := s9.set (p := ⟨w.heap.size + 2, 6, none⟩) (Nat.lt_succ_self _) (.string c6)
  replace H : TF w _ 107 115 #[.int .i64 c0, .int .i64 c1, .bool c2, .int .i64 c3, .int .i64 c4, .string c5, .string c6, .string c7, c8, c9, .bool c10] #[.int .i64 0, .int .i64 0, .bool false, .int .i64 0, .int .i64 0, .string ⟨#[]⟩, .string ⟨#[]⟩, .string ⟨#[]⟩, .slice none 0 0, .slice none 0 0, .bool false] #[.int .i64 c0, .int .i64 c1, .bool c2, .int .i64 c3, .int .i64 c4, .string c5, .string c6, .string c7, .slice none 0 0, .slice none 0 0, .bool false] := H.put 7 (.string c7)
  replace s8 := s8.set (p := ⟨w.heap.size + 2, 7, none⟩) (Nat.lt_succ_self _) (.string c7)
  replace s9 := s9.set (p := ⟨w.heap.size + 2, 7, none⟩) (Nat.lt_succ_self _) (.string c7)
  replace H : TF w _ 107 115 #[.int .i64 c0, .int .i64 c1, .bool c2, .int .i64 c3, .int .i64 c4, .string c5, .string c6, .string c7, c8, c9, .bool c10] #[.int .i64 0, .int .i64 0, .bool false, .int .i64 0, .int .i64 0, .string ⟨#[]⟩, .string ⟨#[]⟩, .string ⟨#[]⟩, .slice none 0 0, .slice none 0 0, .bool false] #[.int .i64 c0, .int .i64 c1, .bool c2, .int .i64 c3, .int .i64 c4, .string c5, .string c6, .string c7, .slice ya8 yn8 yc8, .slice none 0 0, .bool false] := H.put 8 (.slice ya8 yn8 yc8)
  replace s8 := s8.set (p := ⟨w.heap.size + 2, 8, none⟩) (Nat.lt_succ_self _) (.slice ya8 yn8 yc8)
  replace s9 := s9.set (p := ⟨w.heap.size + 2, 8, none⟩) (Nat.lt_succ_self _) (.slice ya8 yn8 yc8)
  replace H : TF w _ 107 115 #[.int .i64 c0, .int .i64 c1, .bool c2, .int .i64 c3, .int .i64 c4, .string c5, .string c6, .string c7, c8, c9, .bool c10] #[.int .i64 0, .int .i64 0, .bool false, .int .i64 0, .int .i64 0, .string ⟨#[]⟩, .string ⟨#[]⟩, .string ⟨#[]⟩, .slice none 0 0, .slice none 0 0, .bool false] #[.int .i64 c0, .int .i64 c1, .bool c2, .int .i64 c3, .int .i64 c4, .string c5, .string c6, .string c7, .slice ya8 yn8 yc8, .slice ya9 yn9 yc9, .bool false] := H.put 9 (.slice ya9 yn9 yc9)
  replace s8 := s8.set (p := ⟨w.heap.size + 2, 9, none⟩) (Nat.lt_succ_self _) (.slice ya9 yn9 yc9)
  replace s9 := s9.set (p := ⟨w.heap.size + 2, 9, none⟩) (Nat.lt_succ_self _) (.slice ya9 yn9 yc9)
  replace H : TF w _ 107 115 #[.int .i64 c0, .int .i64 c1, .bool c2, .int .i64 c3, .int .i64 c4, .string c5, .string c6, .string c7, c8, c9, .bool c10] #[.int .i64 0, .int .i64 0, .bool false, .int .i64 0, .int .i64 0, .string ⟨#[]⟩, .string ⟨#[]⟩, .string ⟨#[]⟩, .slice none 0 0, .slice none 0 0, .bool false] #[.int .i64 c0, .int .i64 c1, .bool c2, .int .i64 c3, .int .i64 c4, .string c5, .string c6, .string c7, .slice ya8 yn8 yc8, .slice ya9 yn9 yc9, .bool c10] := H.put 10 (.bool c10)
  replace s8 := s8.set (p := ⟨w.heap.size + 2, 10, none⟩) (Nat.lt_succ_self _) (.bool c10)
  replace s9 := s9.set (p := ⟨w.heap.size + 2, 10, none⟩) (Nat.lt_succ_self _) (.bool c10)
  go_upto_region 4 with (fail)
  generalize (((((((((((w1.setCell ⟨w.heap.size + 2, 0, none⟩ (.int .i64 c0)).setCell ⟨w.heap.size + 2, 1, none⟩ (.int .i64 c1)).setCell ⟨w.heap.size + 2, 2, none⟩ (.bool c2)).setCell ⟨w.heap.size + 2, 3, none⟩ (.int .i64 c3)).setCell ⟨w.heap.size + 2, 4, none⟩ (.int .i64 c4)).setCell ⟨w.heap.size + 2, 5, none⟩ (.string c5)).setCell ⟨w.heap.size + 2, 6, none⟩ (.string c6)).setCell ⟨w.heap.size + 2, 7, none⟩ (.string c7)).setCell ⟨w.heap.size + 2, 8, none⟩ (.slice ya8 yn8 yc8)).setCell ⟨w.heap.size + 2, 9, none⟩ (.slice ya9 yn9 yc9)).setCell ⟨w.heap.size + 2, 10, none⟩ (.bool c10)) = wz at H s8 s9 ⊢
  have g0 := H.rr.cell (i := 0) (v := .int .i64 0) rfl
  have k0 := H.rr.soft 0
  have o0 := H.ro.cell (i := 0) (v := .int .i64 c0) rfl
  have g1 := H.rr.cell (i := 1) (v := .int .i64 0) rfl
  have k1 := H.rr.soft 1
  have o1 := H.ro.cell (i := 1) (v := .int .i64 c1) rfl
  have g2 := H.rr.cell (i := 2) (v := .bool false) rfl
  have k2 := H.rr.soft 2
  have o2 := H.ro.cell (i := 2) (v := .bool c2) rfl
  have g3 := H.rr.cell (i := 3) (v := .int .i64 0) rfl
  have k3 := H.rr.soft 3
  have o3 := H.ro.cell (i := 3) (v := .int .i64 c3) rfl
  have g4 := H.rr.cell (i := 4) (v := .int .i64 0) rfl
  have k4 := H.rr.soft 4
  have o4 := H.ro.cell (i := 4) (v := .int .i64 c4) rfl
  have g5 := H.rr.cell (i := 5) (v := .string ⟨#[]⟩) rfl
  have k5 := H.rr.soft 5
  have o5 := H.ro.cell (i := 5) (v := .string c5) rfl
  have g6 := H.rr.cell (i := 6) (v := .string ⟨#[]⟩) rfl
  have k6 := H.rr.soft 6
  have o6 := H.ro.cell (i := 6) (v := .string c6) rfl
  have g7 := H.rr.cell (i := 7) (v := .string ⟨#[]⟩) rfl
  have k7 := H.rr.soft 7
  have o7 := H.ro.cell (i := 7) (v := .string c7) rfl
  have g8 := H.rr.cell (i := 8) (v := .slice none 0 0) rfl
  have k8 := H.rr.soft 8
  have o8 := H.ro.cell (i := 8) (v := .slice ya8 yn8 yc8) rfl
  have g9 := H.rr.cell (i := 9) (v := .slice none 0 0) rfl
  have k9 := H.rr.soft 9
  have o9 := H.ro.cell (i := 9) (v := .slice ya9 yn9 yc9) rfl
  have g10 := H.rr.cell (i := 10) (v := .bool false) rfl
  have k10 := H.rr.soft 10
  have o10 := H.ro.cell (i := 10) (v := .bool c10) rfl
  go_wp2_with fail
  rw [show (((((((((((wz.setCell ⟨w.heap.size + 1, 0, none⟩ (.int .i64 c0)).setCell ⟨w.heap.size + 1, 1, none⟩ (.int .i64 c1)).setCell ⟨w.heap.size + 1, 2, none⟩ (.bool c2)).setCell ⟨w.heap.size + 1, 3, none⟩ (.int .i64 c3)).setCell ⟨w.heap.size + 1, 4, none⟩ (.int .i64 c4)).setCell ⟨w.heap.size + 1, 5, none⟩ (.string c5)).setCell ⟨w.heap.size + 1, 6, none⟩ (.string c6)).setCell ⟨w.heap.size + 1, 7, none⟩ (.string c7)).setCell ⟨w.heap.size + 1, 8, none⟩ (.slice ya8 yn8 yc8)).setCell ⟨w.heap.size + 1, 9, none⟩ (.slice ya9 yn9 yc9)).setCell ⟨w.heap.size + 1, 10, none⟩ (.bool c10)) = puts (w.heap.size + 1) 0 [.int .i64 c0, .int .i64 c1, .bool c2, .int .i64 c3, .int .i64 c4, .string c5, .string c6, .string c7, .slice ya8 yn8 yc8, .slice ya9 yn9 yc9, .bool c10] wz from rfl]
  obtain ⟨hr, hbF, hrd⟩ := H.fin [.int .i64 c0, .int .i64 c1, .bool c2, .int .i64 c3, .int .i64 c4, .string c5, .string c6, .string c7, .slice ya8 yn8 yc8, .slice ya9 yn9 yc9, .bool c10] (by simp)
  have f0 := hr 0 (.int .i64 c0) rfl
  have f1 := hr 1 (.int .i64 c1) rfl
  have f2 := hr 2 (.bool c2) rfl
  have f3 := hr 3 (.int .i64 c3) rfl
  have f4 := hr 4 (.int .i64 c4) rfl
  have f5 := hr 5 (.string c5) rfl
  have f6 := hr 6 (.string c6) rfl
  have f7 := hr 7 (.string c7) rfl
  have f8 := hr 8 (.slice ya8 yn8 yc8) rfl
  have f9 := hr 9 (.slice ya9 yn9 yc9) rfl
  have f10 := hr 10 (.bool c10) rfl
  clear hr
  have t8 := hrd s8
  have t9 := hrd s9
  clear hrd
  generalize puts (w.heap.size + 1) 0 [.int .i64 c0, .int .i64 c1, .bool c2, .int .i64 c3, .int .i64 c4, .string c5, .string c6, .string c7, .slice ya8 yn8 yc8, .slice ya9 yn9 yc9, .bool c10] wz = wf at hbF f0 f1 f2 f3 f4 f5 f6 f7 f8 f9 f10 t8 t9 ⊢
  refine bodyPost_ret (v := .agg #[.int .i64 c0, .int .i64 c1, .bool c2, .int .i64 c3, .int .i64 c4, .string c5, .string c6, .string c7, .slice ya8 yn8 yc8, .slice ya9 yn9 yc9, .bool c10]) (by simp [results, Tryz.results78, go_sem, f0, f1, f2, f3, f4, f5, f6, f7, f8, f9, f10]) rfl ?_
  exact ⟨.slice ya8 yn8 yc8, .slice ya9 yn9 yc9, rfl, t8, t9, hbF⟩
set_option maxRecDepth 100000 in
set_option maxHeartbeats 4000000 in
theorem toQuery_any (c0 : Bool) (c1 : Value) (c2 : Value) (c3 : Value) (c4 : Value) (c5 : Int) (d1 : Dat) (d2 : Dat) (d3 : Dat) (d4 : Dat) (w : World) (h1 : ToP d1 .items) (h2 : ToP d2 .sources) (h3 : ToP d3 .exprs) (h4 : ToP d4 .keys) (r1 : Rd w 0 c1 d1) (q1 : Fits d1 .items) (m1 : msr d1 ≤ 1048576) (r2 : Rd w 0 c2 d2) (q2 : Fits d2 .sources) (m2 : msr d2 ≤ 1048576) (r3 : Rd w 0 c3 d3) (q3 : Fits d3 .exprs) (m3 : msr d3 ≤ 1048576) (r4 : Rd w 0 c4 d4) (q4 : Fits d4 .keys) (m4 : msr d4 ≤ 1048576) :
    Calls Tryz.prog 16 #[.agg #[.bool c0, c1, c2, c3, c4, .int .i64 c5]] w (ToQueryE c0 c5 d1 d2 d3 d4 w) := by
  unfold ToP at h1
  unfold ToP at h2
  unfold ToP at h3
  unfold ToP at h4
  go_enter Tryz.func16, Tryz.ntmps16
  go_wp2_with fail
  have H := TF.new w 27 39 #[.bool c0, c1, c2, c3, c4, .int .i64 c5] #[.bool false, .slice none 0 0, .slice none 0 0, .slice none 0 0, .slice none 0 0, .int .i64 0] #[.bool c0, .slice none 0 0, .slice none 0 0, .slice none 0 0, .slice none 0 0, .int .i64 0]
  generalize ((w.alloc (.cells #[.bool c0, c1, c2, c3, c4, .int .i64 c5] 27)).alloc (.cells #[.bool false, .slice none 0 0, .slice none 0 0, .slice none 0 0, .slice none 0 0, .int .i64 0] 39)).alloc (.cells #[.bool c0, .slice none 0 0, .slice none 0 0, .slice none 0 0, .slice none 0 0, .int .i64 0] 39) = w0 at H ⊢
  refine (h1 _ _ (r1.later H.b) q1 m1).mono ?_
  rintro e w1 ⟨y1, rfl, s1, hb⟩
  replace s1 := s1.low H.size
  obtain ⟨ya1, yn1, yc1, rfl⟩ := s1.slice_of q1 rfl
  replace H := H.next hb
  clear hb
  have u1 := H.ro.cell (i := 1) (v := .slice none 0 0) rfl
  have v1 := H.ro.soft 1
  have a2 := H.ra.cell (i := 2) (v := c2) rfl
  go_wp2_with fail
  replace H : TF w _ 27 39 #[.bool c0, c1, c2, c3, c4, .int .i64 c5] #[.bool false, .slice none 0 0, .slice none 0 0, .slice none 0 0, .slice none 0 0, .int .i64 0] #[.bool c0, .slice ya1 yn1 yc1, .slice none 0 0, .slice none 0 0, .slice none 0 0, .int .i64 0] := H.put 1 (.slice ya1 yn1 yc1)
  replace s1 := s1.set (p := ⟨w.heap.size + 2, 1, none⟩) (Nat.lt_succ_self _) (.slice ya1 yn1 yc1)
  clear a2
  refine (h2 _ _ (r2.later H.b) q2 m2).mono ?_
  rintro e w2 ⟨y2, rfl, s2, hb⟩
  replace s2 := s2.low H.size
  obtain ⟨ya2, yn2, yc2, rfl⟩ := s2.slice_of q2 rfl
  replace s1 := s1.later hb
  replace H := H.next hb
  clear hb
  have u2 := H.ro.cell (i := 2) (v := .slice none 0 0) rfl
  have v2 := H.ro.soft 2
  have a3 := H.ra.cell (i := 3) (v := c3) rfl
  go_wp2_with fail
  replace H : TF w _ 27 39 #[.bool c0, c1, c2, c3, c4, .int .i64 c5] #[.bool false, .slice none 0 0, .slice none 0 0, .slice none 0 0, .slice none 0 0, .int .i64 0] #[.bool c0, .slice ya1 yn1 yc1, .slice ya2 yn2 yc2, .slice none 0 0, .slice none 0 0, .int .i64 0] := H.put 2 (.slice ya2 yn2 yc2)
  replace s1 := s1.set (p := ⟨w.heap.size + 2, 2, none⟩) (Nat.lt_succ_self _) (.slice ya2 yn2 yc2)
  replace s2 := s2.set (p := ⟨w.heap.size + 2, 2, none⟩) (Nat.lt_succ_self _) (.slice ya2 yn2 yc2)
  clear a3
  refine (h3 _ _ (r3.later H.b) q3 m3).mono ?_
  rintro e w3 ⟨y3, rfl, s3, hb⟩
  replace s3 := s3.low H.size
  obtain ⟨ya3, yn3, yc3, rfl⟩ := s3.slice_of q3 rfl
  replace s1 := s1.later hb
  replace s2 := s2.later hb
  replace H := H.next hb
  clear hb
  have u3 := H.ro.cell (i := 3) (v := .slice none 0 0) rfl
  have v3 := H.ro.soft 3
  have a4 := H.ra.cell (i := 4) (v := c4) rfl
  go_wp2_with fail
  replace H : TF w _ 27 39 #[.bool c0, c1, c2, c3, c4, .int .i64 c5] #[.bool false, .slice none 0 0, .slice none 0 0, .slice none 0 0, .slice none 0 0, .int .i64 0] #[.bool c0, .slice ya1 yn1 yc1, .slice ya2 yn2 yc2, .slice ya3 yn3 yc3, .slice none 0 0, .int .i64 0] := H.put 3 (.slice ya3 yn3 yc3)
  replace s1 := s1.set (p := ⟨w.heap.size + 2, 3, none⟩) (Nat.lt_succ_self _) (.slice ya3 yn3 yc3)
  replace s2 := s2.set (p := ⟨w.heap.size + 2, 3, none⟩) (Nat.lt_succ_self _) (.slice ya3 yn3 yc3)
  replace s3 := s3.set (p := ⟨w.heap.size + 2, 3, none⟩) (Nat.lt_succ_self _) (.slice ya3 yn3 yc3)
  clear a4
  refine (h4 _ _ (r4.later H.b) q4 m4).mono ?_
  rintro e w4 ⟨y4, rfl, s4, hb⟩
  replace s4 := s4.low H.size
  obtain ⟨ya4, yn4, yc4, rfl⟩ := s4.slice_of q4 rfl
  replace s1 := s1.later hb
  replace s2 := s2.later hb
  replace s3 := s3.later hb
  replace H := H.next hb
  clear hb
  have u4 := H.ro.cell (i := 4) (v := .slice none 0 0) rfl
  have v4 := H.ro.soft 4
  have a5 := H.ra.cell (i := 5) (v := .int .i64 c5) rfl
  have u5 := H.ro.cell (i := 5) (v := .int .i64 0) rfl
  have v5 := H.ro.soft 5
  replace H : TF w _ 27 39 #[.bool c0, c1, c2, c3, c4, .int .i64 c5] #[.bool false, .slice none 0 0, .slice none 0 0, .slice none 0 0, .slice none 0 0, .int .i64 0] #[.bool c0, .slice ya1 yn1 yc1, .slice ya2 yn2 yc2, .slice ya3 yn3 yc3, .slice ya4 yn4 yc4, .int .i64 0] := H.put 4 (.slice ya4 yn4 yc4)
  replace s1 := s1.set (p := ⟨w.heap.size + 2, 4, none⟩) (Nat.lt_succ_self _) (.slice ya4 yn4 yc4)
  replace s2 := s2.set (p := ⟨w.heap.size + 2, 4, none⟩) (Nat.lt_succ_self _) (.slice ya4 yn4 yc4)
  replace s3 := s3.set (p := ⟨w.heap.size + 2, 4, none⟩) (Nat.lt_succ_self _) (.slice ya4 yn4 yc4)
  replace s4 := s4.set (p := ⟨w.heap.size + 2, 4, none⟩) (Nat.lt_succ_self _) (.slice ya4 yn4 yc4)
  replace H : TF w _ 27 39 #[.bool c0, c1, c2, c3, c4, .int .i64 c5] #[.bool false, .slice none 0 0, .slice none 0 0, .slice none 0 0, .slice none 0 0, .int .i64 0] #[.bool c0, .slice ya1 yn1 yc1, .slice ya2 yn2 yc2, .slice ya3 yn3 yc3, .slice ya4 yn4 yc4, .int .i64 c5] := H.put 5 (.int .i64 c5)
  replace s1 := s1.set (p := ⟨w.heap.size + 2, 5, none⟩) (Nat.lt_succ_self _) (.int .i64 c5)
  replace s2 := s2.set (p := ⟨w.heap.size + 2, 5, none⟩) (Nat.lt_succ_self _) (.int .i64 c5)
  replace s3 := s3.set (p := ⟨w.heap.size + 2, 5, none⟩) (Nat.lt_succ_self _) (.int .i64 c5)
  replace s4 := s4.set (p := ⟨w.heap.size + 2, 5, none⟩) (Nat.lt_succ_self _) (.int .i64 c5)
  go_upto_region 8 with (fail)
  generalize ((w4.setCell ⟨w.heap.size + 2, 4, none⟩ (.slice ya4 yn4 yc4)).setCell ⟨w.heap.size + 2, 5, none⟩ (.int .i64 c5)) = wz at H s1 s2 s3 s4 ⊢
  have g0 := H.rr.cell (i := 0) (v := .bool false) rfl
  have k0 := H.rr.soft 0
  have o0 := H.ro.cell (i := 0) (v := .bool c0) rfl
  have g1 := H.rr.cell (i := 1) (v := .slice none 0 0) rfl
  have k1 := H.rr.soft 1
  have o1 := H.ro.cell (i := 1) (v := .slice ya1 yn1 yc1) rfl
  have g2 := H.rr.cell (i := 2) (v := .slice none 0 0) rfl
  have k2 := H.rr.soft 2
  have o2 := H.ro.cell (i := 2) (v := .slice ya2 yn2 yc2) rfl
  have g3 := H.rr.cell (i := 3) (v := .slice none 0 0) rfl
  have k3 := H.rr.soft 3
  have o3 := H.ro.cell (i := 3) (v := .slice ya3 yn3 yc3) rfl
  have g4 := H.rr.cell (i := 4) (v := .slice none 0 0) rfl
  have k4 := H.rr.soft 4
  have o4 := H.ro.cell (i := 4) (v := .slice ya4 yn4 yc4) rfl
  have g5 := H.rr.cell (i := 5) (v := .int .i64 0) rfl
  have k5 := H.rr.soft 5
  have o5 := H.ro.cell (i := 5) (v := .int .i64 c5) rfl
  go_wp2_with fail
  rw [show ((((((wz.setCell ⟨w.heap.size + 1, 0, none⟩ (.bool c0)).setCell ⟨w.heap.size + 1, 1, none⟩ (.slice ya1 yn1 yc1)).setCell ⟨w.heap.size + 1, 2, none⟩ (.slice ya2 yn2 yc2)).setCell ⟨w.heap.size + 1, 3, none⟩ (.slice ya3 yn3 yc3)).setCell ⟨w.heap.size + 1, 4, none⟩ (.slice ya4 yn4 yc4)).setCell ⟨w.heap.size + 1, 5, none⟩ (.int .i64 c5)) = puts (w.heap.size + 1) 0 [.bool c0, .slice ya1 yn1 yc1, .slice ya2 yn2 yc2, .slice ya3 yn3 yc3, .slice ya4 yn4 yc4, .int .i64 c5] wz from rfl]
  obtain ⟨hr, hbF, hrd⟩ := H.fin [.bool c0, .slice ya1 yn1 yc1, .slice ya2 yn2 yc2, .slice ya3 yn3 yc3, .slice ya4 yn4 yc4, .int .i64 c5] (by simp)
  have f0 := hr 0 (.bool c0) rfl
  have f1 := hr 1 (.slice ya1 yn1 yc1) rfl
  have f2 := hr 2 (.slice ya2 yn2 yc2) rfl
  have f3 := hr 3 (.slice ya3 yn3 yc3) rfl
  have f4 := hr 4 (.slice ya4 yn4 yc4) rfl
  have f5 := hr 5 (.int .i64 c5) rfl
  clear hr
  have t1 := hrd s1
  have t2 := hrd s2
  have t3 := hrd s3
  have t4 := hrd s4
  clear hrd
  generalize puts (w.heap.size + 1) 0 [.bool c0, .slice ya1 yn1 yc1, .slice ya2 yn2 yc2, .slice ya3 yn3 yc3, .slice ya4 yn4 yc4, .int .i64 c5] wz = wf at hbF f0 f1 f2 f3 f4 f5 t1 t2 t3 t4 ⊢
  refine bodyPost_ret (v := .agg #[.bool c0, .slice ya1 yn1 yc1, .slice ya2 yn2 yc2, .slice ya3 yn3 yc3, .slice ya4 yn4 yc4, .int .i64 c5]) (by simp [results, Tryz.results16, go_sem, f0, f1, f2, f3, f4, f5]) rfl ?_
  exact ⟨.slice ya1 yn1 yc1, .slice ya2 yn2 yc2, .slice ya3 yn3 yc3, .slice ya4 yn4 yc4, rfl, t1, t2, t3, t4, hbF⟩
end Go.Proofs.YtcliijfdlcagoaaGreat
