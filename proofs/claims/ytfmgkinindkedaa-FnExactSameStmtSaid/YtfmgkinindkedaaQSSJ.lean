/- Joined texts: SameAll SameStS PreMath RangeV. -/
import Derived.Test.YtfmgkinindkedaaQHSameQ
import Derived.Test.YtfmgkinindkedaaQSSI
import Derived.Test.YtfmgkinindkedaaQSSG
import Derived.RangeFuncIn
import Derived.RangeFuncRecord
import Derived.RangeFuncSeq
import Derived.RangeFuncCalls
import Derived.RangeFuncLeaves
import Derived.RangeFuncKeeps
import Derived.Below
/- The model's comparison of trees, of every depth. -/
namespace Go.Proofs.Ytfmgkinindkedaa
open Go.RowKit

theorem sameS_of (d d' : Dat) (IH : ∀ e, e ∈ d.els → ∀ e', SameExprP e e') : SameSP d d' := by
  intro x y w hr hf hs hf'
  obtain ⟨n, k, f, rfl⟩ := hf.deep rfl
  obtain ⟨n', k', f', rfl⟩ := hf'.deep rfl
  obtain rfl : k = 10 := hf.2.2.1
  obtain rfl : k' = 10 := hf'.2.2.1
  exact l7Same_step n n' f f' (fun i hi => IH _ (List.mem_map.2 ⟨i, List.mem_range.2 hi, rfl⟩) _) x y w hr hf hs hf'
theorem sameE_of (c c' : Nat → Dat) (IHk : ∀ e, e ∈ (c 8).els → ∀ e', SameExprP e e') (IHs : ∀ q, q ∈ (c 9).els → ∀ q', SameQueryP q q') : SameExprP c c' := by
  intro x0 x1 x2 x3 x4 x5 x6 x7 x8 x9 y0 y1 y2 y3 y4 y5 y6 y7 y8 y9 w r8 q8 r9 q9 s8 t8 s9 t9
  obtain ⟨n, k, f, h9⟩ := q9.deep rfl
  obtain ⟨n', k', f', h9'⟩ := t9.deep rfl
  have hk := h9 ▸ q9
  have hk' := h9' ▸ t9
  obtain rfl : k = 6 := hk.2.2.1
  obtain rfl : k' = 6 := hk'.2.2.1
  rw [h9] at IHs
  exact sameExpr_step c c' (sameS_of _ _ IHk) n n' f f' h9 h9' (fun i hi _ => IHs _ (List.mem_map.2 ⟨i, List.mem_range.2 hi, rfl⟩) _) x0 x1 x2 x3 x4 x5 x6 x7 x8 x9 y0 y1 y2 y3 y4 y5 y6 y7 y8 y9 w r8 q8 r9 q9 s8 t8 s9 t9
theorem sameQ_of (q q' : Nat → Dat) (IH1 : ∀ c, c ∈ (q 1).els → ∀ e', SameExprP (cut 2 c) e') (IH2 : ∀ c, c ∈ (q 2).els → ∀ d', SameSP (c 2) d') (IH3 : ∀ d', SameSP (q 3) d') (IH4 : ∀ e, e ∈ (q 4).els → ∀ e', SameExprP e e') : SameQueryP q q' := by
  intro x0 x1 x2 x3 x4 x5 y0 y1 y2 y3 y4 y5 w e0 l0 e5 l5 r1 q1 r2 q2 r3 q3 r4 q4 s1 t1 s2 t2 s3 t3 s4 t4
  obtain ⟨n1, k1, f1, h1⟩ := q1.deep rfl
  obtain ⟨n2, k2, f2, h2⟩ := q2.deep rfl
  obtain ⟨n4, k4, f4, h4⟩ := q4.deep rfl
  obtain ⟨n1', k1', f1', h1'⟩ := t1.deep rfl
  obtain ⟨n2', k2', f2', h2'⟩ := t2.deep rfl
  obtain ⟨n4', k4', f4', h4'⟩ := t4.deep rfl
  have a1 := h1 ▸ q1
  have a2 := h2 ▸ q2
  have a4 := h4 ▸ q4
  have b1 := h1' ▸ t1
  have b2 := h2' ▸ t2
  have b4 := h4' ▸ t4
  obtain rfl : k1 = 13 := a1.2.2.1
  obtain rfl : k2 = 3 := a2.2.2.1
  obtain rfl : k4 = 11 := a4.2.2.1
  obtain rfl : k1' = 13 := b1.2.2.1
  obtain rfl : k2' = 3 := b2.2.2.1
  obtain rfl : k4' = 11 := b4.2.2.1
  rw [h1] at IH1
  rw [h2] at IH2
  rw [h4] at IH4
  exact sameQuery_step q q' n1 n2 n4 n1' n2' n4' f1 f2 f4 f1' f2' f4' h1 h2 h4 h1' h2' h4' (IH3 _) (fun i hi => IH1 _ (List.mem_map.2 ⟨i, List.mem_range.2 hi, rfl⟩) _) (fun i hi => IH2 _ (List.mem_map.2 ⟨i, List.mem_range.2 hi, rfl⟩) _)
    (fun i hi => IH4 _ (List.mem_map.2 ⟨i, List.mem_range.2 hi, rfl⟩) _) x0 x1 x2 x3 x4 x5 y0 y1 y2 y3 y4 y5 w e0 l0 e5 l5 r1 q1 r2 q2 r3 q3 r4 q4 s1 t1 s2 t2 s3 t3 s4 t4
/-- all that is told of a slice's elements, of whatever type they be -/
structure SA (d : Dat) : Prop where
  s : ∀ d', SameSP d d'
  e : ∀ e, e ∈ d.els → ∀ e', SameExprP e e'
  i : ∀ c, c ∈ d.els → ∀ e', SameExprP (cut 2 c) e'
  f : ∀ c, c ∈ d.els → ∀ d', SameSP (c 2) d'
  q : ∀ q, q ∈ d.els → ∀ q', SameQueryP q q'
theorem sameAll : ∀ d : Dat, SA d
  | .v x => ⟨fun d' => sameS_of _ _ fun e he => absurd he (by simp [Dat.els, Dat.len]), fun e he => absurd he (by simp [Dat.els, Dat.len]), fun e he => absurd he (by simp [Dat.els, Dat.len]), fun e he => absurd he (by simp [Dat.els, Dat.len]), fun e he => absurd he (by simp [Dat.els, Dat.len])⟩
  | .sl n k f => by
    have IH : ∀ i j, SA (f i j) := fun i j => sameAll (f i j)
    have hE : ∀ e, e ∈ (Dat.sl n k f).els → ∀ e', SameExprP e e' := fun e he e' => by
      obtain ⟨i, -, rfl⟩ := List.mem_map.1 he
      exact sameE_of _ _ (IH i 8).e (IH i 9).q
    refine ⟨fun d' => sameS_of _ _ hE, hE, fun c he e' => ?_, fun c he d' => ?_, fun q he q' => ?_⟩
    · obtain ⟨i, -, rfl⟩ := List.mem_map.1 he
      exact sameE_of _ _ (IH i 10).e (IH i 11).q
    · obtain ⟨i, -, rfl⟩ := List.mem_map.1 he
      exact (IH i 2).s d'
    · obtain ⟨i, -, rfl⟩ := List.mem_map.1 he
      exact sameQ_of _ _ (IH i 1).i (IH i 2).f (IH i 3).s (IH i 4).e
end Go.Proofs.Ytfmgkinindkedaa

/- The model's SameStmt. -/
namespace Go.Proofs.Ytfmgkinindkedaa
open Go.RowKit

set_option maxRecDepth 100000 in
set_option maxHeartbeats 16000000 in
theorem SameStmt_spec (c d : Nat → Dat) (c0 : Int) (c1 : Bool) (x2 : Value) (x3 : Value) (x4 : Value) (x5 : Value) (c6 : Int) (c7 : ByteArray) (x8 : Value) (x9 : Value) (x10 : Value) (x11 : Value) (s0 : Int) (s1 : Bool) (y2 : Value) (y3 : Value) (y4 : Value) (y5 : Value) (s6 : Int) (s7 : ByteArray) (y8 : Value) (y9 : Value) (y10 : Value) (y11 : Value) (W : World) (e0 : c 0 = .v (.int .i64 c0)) (e1 : c 1 = .v (.bool c1)) (e6 : c 6 = .v (.int .i64 c6)) (e7 : c 7 = .v (.string c7)) (l0 : d 0 = .v (.int .i64 s0)) (l1 : d 1 = .v (.bool s1)) (l6 : d 6 = .v (.int .i64 s6)) (l7 : d 7 = .v (.string s7)) (r2 : Rd W 0 x2 (c 2)) (q2 : Fits (c 2) .items) (r3 : Rd W 0 x3 (c 3)) (q3 : Fits (c 3) .sources) (r4 : Rd W 0 x4 (c 4)) (q4 : Fits (c 4) .exprs) (r5 : Rd W 0 x5 (c 5)) (q5 : Fits (c 5) .keys) (r8 : Rd W 0 x8 (c 8)) (q8 : Fits (c 8) .rows) (r9 : Rd W 0 x9 (c 9)) (q9 : Fits (c 9) .names) (r10 : Rd W 0 x10 (c 10)) (q10 : Fits (c 10) .exprs) (r11 : Rd W 0 x11 (c 11)) (q11 : Fits (c 11) .exprs) (k2 : Rd W 0 y2 (d 2)) (l_2 : Fits (d 2) .items) (k3 : Rd W 0 y3 (d 3)) (l_3 : Fits (d 3) .sources) (k4 : Rd W 0 y4 (d 4)) (l_4 : Fits (d 4) .exprs) (k5 : Rd W 0 y5 (d 5)) (l_5 : Fits (d 5) .keys) (k8 : Rd W 0 y8 (d 8)) (l_8 : Fits (d 8) .rows) (k9 : Rd W 0 y9 (d 9)) (l_9 : Fits (d 9) .names) (k10 : Rd W 0 y10 (d 10)) (l_10 : Fits (d 10) .exprs) (k11 : Rd W 0 y11 (d 11)) (l_11 : Fits (d 11) .exprs) :
    Calls Try.prog 36 #[.agg #[.int .i64 c0, .bool c1, x2, x3, x4, x5, .int .i64 c6, .string c7, x8, x9, x10, x11], .agg #[.int .i64 s0, .bool s1, y2, y3, y4, y5, .int .i64 s6, .string s7, y8, y9, y10, y11]] W (BoolE (stmtSame c d) W) := by
  obtain ⟨n8, k8_, f8, h8⟩ := q8.deep rfl
  obtain ⟨m8, j8, g8, h8'⟩ := l_8.deep rfl
  obtain ⟨n9, k9_, f9, h9⟩ := q9.deep rfl
  obtain ⟨m9, j9, g9, h9'⟩ := l_9.deep rfl
  have hV : stmtSame c d = ((c0 == s0) && (decide (c7 = s7) && (sameC (rowTy .queries) (cut 1 c) (cut 1 d) && (((n8 == m8) && (List.range n8).all fun i => same (f8 i 0) (g8 i 0) .exprs) && (same (c 9) (d 9) .names && (same (c 10) (d 10) .exprs && same (c 11) (d 11) .exprs)))))) := by
    unfold stmtSame
    rw [e0, l0, e7, l7, same_int, same_str, h8, h8', same_rows]
  have hQ := fun v (h : Below W.heap.size W v) => sameQ_of (cut 1 c) (cut 1 d) (sameAll (c 2)).i (sameAll (c 3)).f (sameAll (c 4)).s (sameAll (c 5)).e c1 x2 x3 x4 x5 c6 s1 y2 y3 y4 y5 s6 v e1 l1 e6 l6 (r2.later h) q2 (r3.later h) q3 (r4.later h) q4 (r5.later h) q5 (k2.later h) l_2 (k3.later h) l_3 (k4.later h) l_4 (k5.later h) l_5
  rw [h9] at r9 q9
  rw [h9'] at k9 l_9
  obtain rfl : k9_ = 1 := q9.2.2.1
  obtain rfl : j9 = 1 := l_9.2.2.1
  have hN := fun v (h : Below W.heap.size W v) => sameNames_spec n9 m9 f9 g9 x9 y9 v (r9.later h) q9 (k9.later h) l_9
  rw [← h9, ← h9'] at hN
  have hS := fun v (h : Below W.heap.size W v) => (sameAll (c 10)).s (d 10) x10 y10 v (r10.later h) q10 (k10.later h) l_10
  have hW := fun v (h : Below W.heap.size W v) => (sameAll (c 11)).s (d 11) x11 y11 v (r11.later h) q11 (k11.later h) l_11
  rw [h8] at r8 q8
  rw [h8'] at k8 l_8
  have hn8 := q8.2.1
  have hm8 := l_8.2.1
  obtain ⟨ax8, px8, rfl⟩ := r8.slice
  obtain ⟨ay8, py8, rfl⟩ := k8.slice
  generalize sameC (rowTy .queries) (cut 1 c) (cut 1 d) = vq at hV hQ
  generalize same (c 9) (d 9) .names = vn at hV hN
  generalize same (c 10) (d 10) .exprs = vs at hV hS
  generalize same (c 11) (d 11) .exprs = vw at hV hW
  generalize stmtSame c d = V at hV ⊢
  have HV := Lib.hid hV
  clear hV e0 e1 e6 e7 l0 l1 l6 l7 h8 h8' h9 h9' r2 r3 r4 r5 r9 r10 r11 q2 q3 q4 q5 q9 q10 q11 k2 k3 k4 k5 k9 k10 k11 l_2 l_3 l_4 l_5 l_9 l_10 l_11
  have RA : RowAt ((W.alloc (.cells #[.int .i64 c0, .bool c1, x2, x3, x4, x5, .int .i64 c6, .string c7, .slice ax8 n8 px8, x9, x10, x11] 42)).alloc (.cells #[.int .i64 s0, .bool s1, y2, y3, y4, y5, .int .i64 s6, .string s7, .slice ay8 m8 py8, y9, y10, y11] 42)) W.heap.size 42 #[.int .i64 c0, .bool c1, x2, x3, x4, x5, .int .i64 c6, .string c7, .slice ax8 n8 px8, x9, x10, x11] := (RowAt.new W 42 #[.int .i64 c0, .bool c1, x2, x3, x4, x5, .int .i64 c6, .string c7, .slice ax8 n8 px8, x9, x10, x11]).alloc (.cells #[.int .i64 s0, .bool s1, y2, y3, y4, y5, .int .i64 s6, .string s7, .slice ay8 m8 py8, y9, y10, y11] 42)
  have RB : RowAt ((W.alloc (.cells #[.int .i64 c0, .bool c1, x2, x3, x4, x5, .int .i64 c6, .string c7, .slice ax8 n8 px8, x9, x10, x11] 42)).alloc (.cells #[.int .i64 s0, .bool s1, y2, y3, y4, y5, .int .i64 s6, .string s7, .slice ay8 m8 py8, y9, y10, y11] 42)) (W.heap.size + 1) 42 #[.int .i64 s0, .bool s1, y2, y3, y4, y5, .int .i64 s6, .string s7, .slice ay8 m8 py8, y9, y10, y11] := RowAt.new1 W (.cells #[.int .i64 c0, .bool c1, x2, x3, x4, x5, .int .i64 c6, .string c7, .slice ax8 n8 px8, x9, x10, x11] 42) 42 #[.int .i64 s0, .bool s1, y2, y3, y4, y5, .int .i64 s6, .string s7, .slice ay8 m8 py8, y9, y10, y11]
  have HB : Below W.heap.size W ((W.alloc (.cells #[.int .i64 c0, .bool c1, x2, x3, x4, x5, .int .i64 c6, .string c7, .slice ax8 n8 px8, x9, x10, x11] 42)).alloc (.cells #[.int .i64 s0, .bool s1, y2, y3, y4, y5, .int .i64 s6, .string s7, .slice ay8 m8 py8, y9, y10, y11] 42)) := ((Below.refl W.heap.size W).alloc (Nat.le_refl _) (.cells #[.int .i64 c0, .bool c1, x2, x3, x4, x5, .int .i64 c6, .string c7, .slice ax8 n8 px8, x9, x10, x11] 42)).alloc (by simp) (.cells #[.int .i64 s0, .bool s1, y2, y3, y4, y5, .int .i64 s6, .string s7, .slice ay8 m8 py8, y9, y10, y11] 42)
  go_enter Try.func36, Try.ntmps36
  have a0 := RA.cell (i := 0) (v := .int .i64 c0) rfl
  have a1 := RA.cell (i := 1) (v := .bool c1) rfl
  have a2 := RA.cell (i := 2) (v := x2) rfl
  have a3 := RA.cell (i := 3) (v := x3) rfl
  have a4 := RA.cell (i := 4) (v := x4) rfl
  have a5 := RA.cell (i := 5) (v := x5) rfl
  have a6 := RA.cell (i := 6) (v := .int .i64 c6) rfl
  have a7 := RA.cell (i := 7) (v := .string c7) rfl
  have a8 := RA.cell (i := 8) (v := .slice ax8 n8 px8) rfl
  have a9 := RA.cell (i := 9) (v := x9) rfl
  have a10 := RA.cell (i := 10) (v := x10) rfl
  have a11 := RA.cell (i := 11) (v := x11) rfl
  have b0 := RB.cell (i := 0) (v := .int .i64 s0) rfl
  have b1 := RB.cell (i := 1) (v := .bool s1) rfl
  have b2 := RB.cell (i := 2) (v := y2) rfl
  have b3 := RB.cell (i := 3) (v := y3) rfl
  have b4 := RB.cell (i := 4) (v := y4) rfl
  have b5 := RB.cell (i := 5) (v := y5) rfl
  have b6 := RB.cell (i := 6) (v := .int .i64 s6) rfl
  have b7 := RB.cell (i := 7) (v := .string s7) rfl
  have b8 := RB.cell (i := 8) (v := .slice ay8 m8 py8) rfl
  have b9 := RB.cell (i := 9) (v := y9) rfl
  have b10 := RB.cell (i := 10) (v := y10) rfl
  have b11 := RB.cell (i := 11) (v := y11) rfl
  by_cases h0 : c0 = s0
  case neg =>
    have t0 : (c0 != s0) = true := by simpa using h0
    have u0 : (c0 == s0) = false := by simpa using h0
    clear h0
    go_wp2_with fail
    go_ret
    exact ⟨by rw [HV.out]; rw [u0]; rfl, HB⟩
  have t0 : (c0 != s0) = false := by simpa using h0
  have u0 : (c0 == s0) = true := by simpa using h0
  clear h0
  by_cases h7 : c7 = s7
  case neg =>
    have t7 := (toList_ne h7).1
    have u7 : decide (c7 = s7) = false := by simpa using h7
    have t7b := (toList_ne h7).2
    have HU := Lib.hid u7
    clear h7 u7
    go_wp2_with fail
    go_ret
    exact ⟨by rw [HV.out]; rw [HU.out, Bool.false_and, Bool.and_false]; rfl, HB⟩
  have HV2 : Hid (V = (vq && (((n8 == m8) && (List.range n8).all fun i => same (f8 i 0) (g8 i 0) .exprs) && (vn && (vs && vw))))) := by show V = _; rw [HV.out, u0, decide_eq_true h7, Bool.true_and, Bool.true_and]
  subst h7
  have t7 : (c7.toList != c7.toList) = false := by simp
  clear HV u0
  have HV := HV2
  clear HV2
  go_wp2_with fail
  generalize (W.alloc (.cells #[.int .i64 c0, .bool c1, x2, x3, x4, x5, .int .i64 c6, .string c7, .slice ax8 n8 px8, x9, x10, x11] 42)).alloc (.cells #[.int .i64 s0, .bool s1, y2, y3, y4, y5, .int .i64 s6, .string c7, .slice ay8 m8 py8, y9, y10, y11] 42) = W1 at RA RB HB ⊢
  clear a0 b0 a1 b1 a2 b2 a3 b3 a4 b4 a5 b5 a6 b6 a7 b7 a8 b8 a9 b9 a10 b10 a11 b11
  refine (hQ _ HB).mono ?_
  rintro e Wn ⟨rfl, hb⟩
  replace RA := RA.later hb
  replace RB := RB.later hb
  replace HB := HB.trans (hb.mono HB.size)
  clear hb hQ
  have a0 := RA.cell (i := 0) (v := .int .i64 c0) rfl
  have a1 := RA.cell (i := 1) (v := .bool c1) rfl
  have a2 := RA.cell (i := 2) (v := x2) rfl
  have a3 := RA.cell (i := 3) (v := x3) rfl
  have a4 := RA.cell (i := 4) (v := x4) rfl
  have a5 := RA.cell (i := 5) (v := x5) rfl
  have a6 := RA.cell (i := 6) (v := .int .i64 c6) rfl
  have a7 := RA.cell (i := 7) (v := .string c7) rfl
  have a8 := RA.cell (i := 8) (v := .slice ax8 n8 px8) rfl
  have a9 := RA.cell (i := 9) (v := x9) rfl
  have a10 := RA.cell (i := 10) (v := x10) rfl
  have a11 := RA.cell (i := 11) (v := x11) rfl
  have b0 := RB.cell (i := 0) (v := .int .i64 s0) rfl
  have b1 := RB.cell (i := 1) (v := .bool s1) rfl
  have b2 := RB.cell (i := 2) (v := y2) rfl
  have b3 := RB.cell (i := 3) (v := y3) rfl
  have b4 := RB.cell (i := 4) (v := y4) rfl
  have b5 := RB.cell (i := 5) (v := y5) rfl
  have b6 := RB.cell (i := 6) (v := .int .i64 s6) rfl
  have b7 := RB.cell (i := 7) (v := .string c7) rfl
  have b8 := RB.cell (i := 8) (v := .slice ay8 m8 py8) rfl
  have b9 := RB.cell (i := 9) (v := y9) rfl
  have b10 := RB.cell (i := 10) (v := y10) rfl
  have b11 := RB.cell (i := 11) (v := y11) rfl
  cases vq
  case false =>
    go_wp2_with fail
    go_ret
    exact ⟨by rw [HV.out]; rfl, HB⟩
  by_cases hn : n8 = m8
  case neg =>
    have tn : ((n8 : Int) != (m8 : Int)) = true := by simp; omega
    have un : (n8 == m8) = false := by simpa using hn
    have HU := Lib.hid un
    clear hn un
    go_wp2_with fail
    go_ret
    exact ⟨by rw [HV.out]; rw [HU.out, Bool.false_and, Bool.false_and, Bool.and_false]; rfl, HB⟩
  subst hn
  have HV2 : Hid (V = (((List.range n8).all fun i => same (f8 i 0) (g8 i 0) .exprs) && (vn && (vs && vw)))) := by show V = _; rw [HV.out, beq_self_eq_true, Bool.true_and, Bool.true_and]
  clear HV
  have HV := HV2
  clear HV2
  go_wp2_with fail
  clear a0 b0 a1 b1 a2 b2 a3 b3 a4 b4 a5 b5 a6 b6 a7 b7 a8 b8 a9 b9 a10 b10 a11 b11
  refine (hN _ HB).mono ?_
  rintro e Wn ⟨rfl, hb⟩
  replace RA := RA.later hb
  replace RB := RB.later hb
  replace HB := HB.trans (hb.mono HB.size)
  clear hb hN
  have a0 := RA.cell (i := 0) (v := .int .i64 c0) rfl
  have a1 := RA.cell (i := 1) (v := .bool c1) rfl
  have a2 := RA.cell (i := 2) (v := x2) rfl
  have a3 := RA.cell (i := 3) (v := x3) rfl
  have a4 := RA.cell (i := 4) (v := x4) rfl
  have a5 := RA.cell (i := 5) (v := x5) rfl
  have a6 := RA.cell (i := 6) (v := .int .i64 c6) rfl
  have a7 := RA.cell (i := 7) (v := .string c7) rfl
  have a8 := RA.cell (i := 8) (v := .slice ax8 n8 px8) rfl
  have a9 := RA.cell (i := 9) (v := x9) rfl
  have a10 := RA.cell (i := 10) (v := x10) rfl
  have a11 := RA.cell (i := 11) (v := x11) rfl
  have b0 := RB.cell (i := 0) (v := .int .i64 s0) rfl
  have b1 := RB.cell (i := 1) (v := .bool s1) rfl
  have b2 := RB.cell (i := 2) (v := y2) rfl
  have b3 := RB.cell (i := 3) (v := y3) rfl
  have b4 := RB.cell (i := 4) (v := y4) rfl
  have b5 := RB.cell (i := 5) (v := y5) rfl
  have b6 := RB.cell (i := 6) (v := .int .i64 s6) rfl
  have b7 := RB.cell (i := 7) (v := .string c7) rfl
  have b8 := RB.cell (i := 8) (v := .slice ay8 n8 py8) rfl
  have b9 := RB.cell (i := 9) (v := y9) rfl
  have b10 := RB.cell (i := 10) (v := y10) rfl
  have b11 := RB.cell (i := 11) (v := y11) rfl
  cases vn
  case false =>
    go_wp2_with fail
    go_ret
    exact ⟨by rw [HV.out]; rw [Bool.false_and, Bool.and_false]; rfl, HB⟩
  go_wp2_with fail
  clear a0 b0 a1 b1 a2 b2 a3 b3 a4 b4 a5 b5 a6 b6 a7 b7 a8 b8 a9 b9 a10 b10 a11 b11
  refine (hS _ HB).mono ?_
  rintro e Wn ⟨rfl, hb⟩
  replace RA := RA.later hb
  replace RB := RB.later hb
  replace HB := HB.trans (hb.mono HB.size)
  clear hb hS
  have a0 := RA.cell (i := 0) (v := .int .i64 c0) rfl
  have a1 := RA.cell (i := 1) (v := .bool c1) rfl
  have a2 := RA.cell (i := 2) (v := x2) rfl
  have a3 := RA.cell (i := 3) (v := x3) rfl
  have a4 := RA.cell (i := 4) (v := x4) rfl
  have a5 := RA.cell (i := 5) (v := x5) rfl
  have a6 := RA.cell (i := 6) (v := .int .i64 c6) rfl
  have a7 := RA.cell (i := 7) (v := .string c7) rfl
  have a8 := RA.cell (i := 8) (v := .slice ax8 n8 px8) rfl
  have a9 := RA.cell (i := 9) (v := x9) rfl
  have a10 := RA.cell (i := 10) (v := x10) rfl
  have a11 := RA.cell (i := 11) (v := x11) rfl
  have b0 := RB.cell (i := 0) (v := .int .i64 s0) rfl
  have b1 := RB.cell (i := 1) (v := .bool s1) rfl
  have b2 := RB.cell (i := 2) (v := y2) rfl
  have b3 := RB.cell (i := 3) (v := y3) rfl
  have b4 := RB.cell (i := 4) (v := y4) rfl
  have b5 := RB.cell (i := 5) (v := y5) rfl
  have b6 := RB.cell (i := 6) (v := .int .i64 s6) rfl
  have b7 := RB.cell (i := 7) (v := .string c7) rfl
  have b8 := RB.cell (i := 8) (v := .slice ay8 n8 py8) rfl
  have b9 := RB.cell (i := 9) (v := y9) rfl
  have b10 := RB.cell (i := 10) (v := y10) rfl
  have b11 := RB.cell (i := 11) (v := y11) rfl
  cases vs
  case false =>
    go_wp2_with fail
    go_ret
    exact ⟨by rw [HV.out]; rw [Bool.false_and, Bool.and_false, Bool.and_false]; rfl, HB⟩
  go_wp2_with fail
  clear a0 b0 a1 b1 a2 b2 a3 b3 a4 b4 a5 b5 a6 b6 a7 b7 a8 b8 a9 b9 a10 b10 a11 b11
  refine (hW _ HB).mono ?_
  rintro e Wn ⟨rfl, hb⟩
  replace RA := RA.later hb
  replace RB := RB.later hb
  replace HB := HB.trans (hb.mono HB.size)
  clear hb hW
  have a0 := RA.cell (i := 0) (v := .int .i64 c0) rfl
  have a1 := RA.cell (i := 1) (v := .bool c1) rfl
  have a2 := RA.cell (i := 2) (v := x2) rfl
  have a3 := RA.cell (i := 3) (v := x3) rfl
  have a4 := RA.cell (i := 4) (v := x4) rfl
  have a5 := RA.cell (i := 5) (v := x5) rfl
  have a6 := RA.cell (i := 6) (v := .int .i64 c6) rfl
  have a7 := RA.cell (i := 7) (v := .string c7) rfl
  have a8 := RA.cell (i := 8) (v := .slice ax8 n8 px8) rfl
  have a9 := RA.cell (i := 9) (v := x9) rfl
  have a10 := RA.cell (i := 10) (v := x10) rfl
  have a11 := RA.cell (i := 11) (v := x11) rfl
  have b0 := RB.cell (i := 0) (v := .int .i64 s0) rfl
  have b1 := RB.cell (i := 1) (v := .bool s1) rfl
  have b2 := RB.cell (i := 2) (v := y2) rfl
  have b3 := RB.cell (i := 3) (v := y3) rfl
  have b4 := RB.cell (i := 4) (v := y4) rfl
  have b5 := RB.cell (i := 5) (v := y5) rfl
  have b6 := RB.cell (i := 6) (v := .int .i64 s6) rfl
  have b7 := RB.cell (i := 7) (v := .string c7) rfl
  have b8 := RB.cell (i := 8) (v := .slice ay8 n8 py8) rfl
  have b9 := RB.cell (i := 9) (v := y9) rfl
  have b10 := RB.cell (i := 10) (v := y10) rfl
  have b11 := RB.cell (i := 11) (v := y11) rfl
  cases vw
  case false =>
    go_wp2_with fail
    go_ret
    exact ⟨by rw [HV.out]; rw [Bool.and_false, Bool.and_false, Bool.and_false]; rfl, HB⟩
  have HV2 : Hid (V = ((List.range n8).all fun i => same (f8 i 0) (g8 i 0) .exprs)) := by show V = _; rw [HV.out]; simp
  clear HV
  go_wp2_with fail
  clear a0 b0 a1 b1 a2 b2 a3 b3 a4 b4 a5 b5 a6 b6 a7 b7 a8 b8 a9 b9 a10 b10 a11 b11
  go_loopw [5] (fun i wr => ∃ j : Nat, j ≤ n8 ∧ i = .int .i64 (j : Int) ∧ Hid (((List.range j).all fun i => same (f8 i 0) (g8 i 0) .exprs) = true) ∧ Below W.heap.size W wr ∧ RowAt wr W.heap.size 42 #[.int .i64 c0, .bool c1, x2, x3, x4, x5, .int .i64 c6, .string c7, .slice ax8 n8 px8, x9, x10, x11] ∧ RowAt wr (W.heap.size + 1) 42 #[.int .i64 s0, .bool s1, y2, y3, y4, y5, .int .i64 s6, .string c7, .slice ay8 n8 py8, y9, y10, y11]) (fun i _ => n8 - (intOf i).toNat)
  case atStart => exact ⟨0, by omega, rfl, rfl, HB, RA, RB⟩
  case round =>
    clear HB RA RB
    obtain ⟨j, hj, rfl, HA, hB, RA, RB⟩ := hrel
    have a8 := RA.cell (i := 8) (v := .slice ax8 n8 px8) rfl
    have b8 := RB.cell (i := 8) (v := .slice ay8 n8 py8) rfl
    by_cases hlt : j < n8
    · have hlt2 : (j : Int) < (n8 : Int) := by omega
      obtain ⟨g, o, rfl, -, hg, x, z0, rz, qz⟩ := row_rows (r8.later hB) q8 hlt
      obtain ⟨g2, o2, rfl, -, hg2, y, k0, rk, qk⟩ := row_rows (k8.later hB) l_8 hlt
      obtain ⟨ka, kn, kp, rfl⟩ := rz.slice_of qz rfl
      obtain ⟨la, ln, lp, rfl⟩ := rk.slice_of qk rfl
      have hE := fun v => (sameAll (f8 j 0)).s (g8 j 0) _ _ (lat wr v) (Rd.later rz (lat_below wr v)) qz (Rd.later rk (lat_below wr v)) qk
      go_wp2_with fail
      replace a8 := lat_cell a8
      replace b8 := lat_cell b8
      replace z0 := lat_cell z0
      replace k0 := lat_cell k0
      cases hV : same (f8 j 0) (g8 j 0) .exprs
      all_goals
        rw [hV] at hE
        have HW := Lib.hid hV
        clear hV rz qz rk qk
        refine region_lat (by kernel_rfl) (by kernel_rfl) ?_
        iterate 12 (go_big_quiet_step ((refine (hE _).mono ?_; rintro e w'' ⟨rfl, hb''⟩; exact ⟨rfl, lat_to hb''⟩)))
        refine wpQuiet_nil ?_
        rintro _ ⟨nq, rfl⟩
        have hbq := hB.trans ((lat_below wr nq).mono hB.size)
        replace RA := RA.later (lat_below wr nq)
        replace RB := RB.later (lat_below wr nq)
        clear hE z0 k0 a8 b8
        generalize lat wr nq = wq at hbq RA RB ⊢
      · go_wp2_with fail
        go_ret
        refine ⟨?_, hbq⟩
        have h : ((List.range n8).all fun i => same (f8 i 0) (g8 i 0) .exprs) = false := by
          rw [List.all_eq_false]
          exact ⟨j, List.mem_range.2 hlt, by rw [HW.out]; simp⟩
        rw [HV2.out, h]; rfl
      · have HA2 : Hid (((List.range (j + 1)).all fun i => same (f8 i 0) (g8 i 0) .exprs) = true) := by show _ = true; rw [all_succ, HA.out, HW.out]; rfl
        go_wp2_with fail
        go_roundw
        case rel => exact ⟨j + 1, by omega, by go_num, HA2, hbq, RA, RB⟩
        case measure => simp [intOf]; omega
    · obtain rfl : n8 = j := by omega
      go_wp2_with fail
      go_ret
      exact ⟨by rw [HV2.out, HA.out]; rfl, hB⟩
end Go.Proofs.Ytfmgkinindkedaa

/- Trees in the order of their nodes: an expression, then all that lies below it, each with its depth. No program. -/
namespace Go.Proofs.Ytfmgkinindkedaa
open Go.RowKit

abbrev Nd := Nat → Dat
/-- a node d deeper -/
def shift (d : Nat) (p : Nat × Nd) : Nat × Nd := (p.1 + d, p.2)
def preA : Alg (List (Nat × Nd)) := ⟨(· ++ ·), [], fun c l => (0, c) :: l.map (shift 1), fun _ l => l⟩
theorem preA_good : preA.Good := ⟨fun a b c => List.append_assoc a b c, fun _ => rfl, fun a => List.append_nil a⟩
theorem preA_of {β : Type} (g : β → List (Nat × Nd)) : ∀ l : List β, preA.of (l.map g) = l.flatMap g
  | [] => rfl
  | a :: l => by rw [List.map_cons, preA_good.of_cons, preA_of g l]; rfl
/-- the nodes of a tree, the tree's root at depth d -/
def pre (d : Nat) (c : Nd) : List (Nat × Nd) := (foldE preA c).map (shift d)
/-- what lies directly below an expression -/
def parts (c : Nd) : List Nd := (c 8).els ++ (c 9).els.flatMap exprsOf
theorem els_fits {d : Dat} {ty : Ty} (h : Fits d ty) {c : Nd} (hc : c ∈ d.els) : ∀ j (hj : j < (rowTy ty).length), Fits (c j) ((rowTy ty)[j]) := by
  cases d with
  | v x => simp [Dat.els, Dat.len] at hc
  | sl n k f =>
    obtain ⟨_, _, _, hfit⟩ := h
    simp only [Dat.els, Dat.len, Dat.el, List.mem_map, List.mem_range] at hc
    obtain ⟨i, hi, rfl⟩ := hc
    exact fun j hj => hfit i hi j hj
theorem fold_flatQ {α : Type} {G : Alg α} {d : Dat} (h : Fits d .queries) : fold G d .queries = G.of (d.els.map (foldQ G)) := by
  cases d with
  | v x => exact h.elim
  | sl n k f => exact fold_queries G
theorem preQ {q : Nd} (h : ∀ j (hj : j < (rowTy .queries).length), Fits (q j) ((rowTy .queries)[j])) : foldQ preA q = (exprsOf q).flatMap (foldE preA) := by
  rw [foldQ_is preA_good (h 1 (by decide)) (h 2 (by decide)) (h 3 (by decide)) (h 4 (by decide)), preA_of]
  rfl
theorem flatMap_congr' {α β : Type} {f g : α → List β} : ∀ {l : List α}, (∀ a ∈ l, f a = g a) → l.flatMap f = l.flatMap g
  | [], _ => rfl
  | a :: l, h => by
    rw [List.flatMap_cons, List.flatMap_cons, h a (List.mem_cons_self ..), flatMap_congr' fun b hb => h b (List.mem_cons_of_mem _ hb)]
theorem pre_eq (d : Nat) {c : Nd} (h8 : Fits (c 8) .exprs) (h9 : Fits (c 9) .queries) : pre d c = (d, c) :: (parts c).flatMap (pre (d + 1)) := by
  have e : foldE preA c = (0, c) :: ((parts c).flatMap (foldE preA)).map (shift 1) := by
    have e8 := fold_flat preA h8
    have e9 := fold_flatQ (G := preA) h9
    rw [preA_of] at e8 e9
    rw [flatMap_congr' fun q hq => preQ (els_fits h9 hq)] at e9
    unfold foldE parts
    rw [e8, e9, List.flatMap_append, List.flatMap_assoc]
    rfl
  unfold pre
  rw [e, List.map_cons, List.map_map, List.map_flatMap]
  have hs : shift d ∘ shift 1 = shift (d + 1) := by funext p; show (p.1 + 1 + d, p.2) = _; rw [Nat.add_assoc, Nat.add_comm 1 d]; rfl
  rw [hs]
  show (0 + d, c) :: _ = _
  rw [Nat.zero_add]
theorem fold_hom {α β : Type} {G : Alg α} {H : Alg β} (h : α → β) (hu : ∀ a b, h (G.up a b) = H.up (h a) (h b)) (hz : h G.z = H.z)
    (hn : ∀ c a, h (G.node c a) = H.node c (h a)) (hq : ∀ c a, h (G.qn c a) = H.qn c (h a)) : ∀ (d : Dat) (ty : Ty), h (fold G d ty) = fold H d ty
  | .v _, ty => by cases ty <;> exact hz
  | .sl n k f, ty => by
    have IH : ∀ i j ty, h (fold G (f i j) ty) = fold H (f i j) ty := fun i j ty => fold_hom h hu hz hn hq (f i j) ty
    have hof : ∀ (l : List α) (a : α), h (l.foldl G.up a) = (l.map h).foldl H.up (h a) := fun l => by
      induction l with
      | nil => intro a; rfl
      | cons b l ih => intro a; rw [List.foldl_cons, ih, hu]; rfl
    have hof' : ∀ l : List α, h (G.of l) = H.of (l.map h) := fun l => by unfold Alg.of; rw [hof, hz]
    cases ty
    case int => exact hz
    case bool => exact hz
    case str => exact hz
    case names => exact hz
    case rows => rw [fold, fold, hof', List.map_map]; congr 2; funext i; exact IH _ _ _
    case exprs => rw [fold, fold, hof', List.map_map]; congr 2; funext i; show h (G.node _ _) = _; rw [hn, hu, IH, IH]
    case items =>
      rw [fold, fold, hof', List.map_map]; congr 2; funext i
      show h (if (f i 0).tru then G.z else _) = _
      by_cases ht : (f i 0).tru
      · rw [if_pos ht, if_pos ht]; exact hz
      · rw [if_neg ht, if_neg ht, hn, hu, IH, IH]
    case sources => rw [fold, fold, hof', List.map_map]; congr 2; funext i; exact IH _ _ _
    case keys => rw [fold, fold, hof', List.map_map]; congr 2; funext i; show h (G.node _ _) = _; rw [hn, hu, IH, IH]
    case queries => rw [fold, fold, hof', List.map_map]; congr 2; funext i; show h (G.qn _ _) = _; rw [hq, hu, hu, hu, IH, IH, IH, IH]
theorem fold_homE {α β : Type} {G : Alg α} {H : Alg β} (h : α → β) (hu : ∀ a b, h (G.up a b) = H.up (h a) (h b)) (hz : h G.z = H.z)
    (hn : ∀ c a, h (G.node c a) = H.node c (h a)) (hq : ∀ c a, h (G.qn c a) = H.qn c (h a)) (c : Nd) : h (foldE G c) = foldE H c := by
  unfold foldE; rw [hn, hu, fold_hom h hu hz hn hq, fold_hom h hu hz hn hq]
/-- the deepest of some nodes -/
def mx (l : List (Nat × Nd)) : Nat := l.foldr (fun p m => max p.1 m) 0
theorem mx_append (l r : List (Nat × Nd)) : mx (l ++ r) = max (mx l) (mx r) := by
  induction l with
  | nil => show mx r = max 0 (mx r); omega
  | cons a l ih => show max a.1 (mx (l ++ r)) = max (max a.1 (mx l)) (mx r); rw [ih]; omega
theorem mx_up (d : Nat) (l : List (Nat × Nd)) : max (d + 1) (mx (l.map (shift (d + 1 + 1)))) = max d (mx (l.map (shift (d + 1)))) + 1 := by
  induction l with
  | nil => show max (d + 1) 0 = max d 0 + 1; omega
  | cons a l ih =>
    show max (d + 1) (max (a.1 + (d + 1 + 1)) (mx (l.map (shift (d + 1 + 1))))) = max d (max (a.1 + (d + 1)) (mx (l.map (shift (d + 1))))) + 1
    omega
theorem mx_pre (c : Nd) : mx (pre 1 c) = foldE depA c := by
  refine fold_homE (G := preA) (H := depA) (fun l => mx (l.map (shift 1))) (fun a b => ?_) rfl (fun c l => ?_) (fun _ _ => rfl) c
  · show mx ((a ++ b).map _) = max _ _
    rw [List.map_append, mx_append]
  · have h := mx_up 0 l
    show max (0 + 1) (mx ((l.map (shift 1)).map (shift 1))) = mx (l.map (shift 1)) + 1
    rw [List.map_map]
    have hs : shift 1 ∘ shift 1 = shift (0 + 1 + 1) := by funext p; rfl
    rw [hs, h]
    show max 0 (mx (l.map (shift (0 + 1)))) + 1 = mx (l.map (shift 1)) + 1
    rw [Nat.zero_max]
theorem len_pre (d : Nat) (c : Nd) : (pre d c).length = foldE sizA c := by
  unfold pre
  rw [List.length_map]
  exact fold_homE (G := preA) (H := sizA) List.length (fun a b => List.length_append) rfl (fun c l => by show ((0, c) :: l.map _).length = l.length + 1; simp) (fun _ _ => rfl) c
theorem mx_flat (l : List Nd) : mx (l.flatMap (pre 1)) = depA.of (l.map (foldE depA)) := by
  induction l with
  | nil => rfl
  | cons c l ih => rw [List.flatMap_cons, mx_append, ih, mx_pre, List.map_cons, depA_good.of_cons]; rfl
theorem len_flat (d : Nat) (l : List Nd) : (l.flatMap (pre d)).length = sizA.of (l.map (foldE sizA)) := by
  induction l with
  | nil => rfl
  | cons c l ih => rw [List.flatMap_cons, List.length_append, ih, len_pre, List.map_cons, sizA_good.of_cons]; rfl
theorem take_next {α : Type} {l : List α} {i : Nat} {x : α} (h : l[i]? = some x) : l.take (i + 1) = l.take i ++ [x] := by
  rw [List.take_add_one, h]; rfl
/-- the nodes that a stack has still to come: its lists, the last first -/
def togo : List (Nat × List Nd) → List (Nat × Nd)
  | [] => []
  | (d, L) :: r => L.flatMap (pre d) ++ togo r
end Go.Proofs.Ytfmgkinindkedaa

/- A range over a function whose rounds come one by one off a list that is known: the iterator may write blocks of its own; the body may write the blocks of E. -/
namespace Go.Proofs.Ytfmgkinindkedaa
open Go.RowKit

/-- whatever lies outside E lies as it lay -/
structure But (E : Nat → Prop) (W W' : World) : Prop where
  os : W'.os = W.os
  tape : W'.tape = W.tape
  output : W'.output = W.output
  size : W.heap.size ≤ W'.heap.size
  block : ∀ k, k < W.heap.size → ¬ E k → W'.heap[k]? = W.heap[k]?
theorem But.refl (E : Nat → Prop) (W : World) : But E W W := ⟨rfl, rfl, rfl, Nat.le_refl _, fun _ _ _ => rfl⟩
theorem But.trans {E : Nat → Prop} {a b c : World} (h : But E a b) (k : But E b c) : But E a c :=
  ⟨k.os.trans h.os, k.tape.trans h.tape, k.output.trans h.output, Nat.le_trans h.size k.size, fun i hi hn => (k.block i (Nat.lt_of_lt_of_le hi h.size) hn).trans (h.block i hi hn)⟩
theorem But.wide {E E' : Nat → Prop} {a b : World} (h : But E a b) (hE : ∀ k, E k → E' k) : But E' a b := ⟨h.os, h.tape, h.output, h.size, fun k hk hn => h.block k hk fun he => hn (hE k he)⟩
theorem But.below {E : Nat → Prop} {a b : World} (h : Below a.heap.size a b) : But E a b := ⟨h.os, h.tape, h.output, h.size, fun k hk _ => h.block k hk⟩
theorem But.of_below {E : Nat → Prop} {B : Nat} {a b : World} (h : Below B a b) (hE : ∀ k, B ≤ k → k < a.heap.size → E k) : But E a b :=
  ⟨h.os, h.tape, h.output, h.size, fun k hk hn => h.block k (Nat.lt_of_not_le fun hle => hn (hE k hle hk))⟩
theorem But.setCell {E : Nat → Prop} (W : World) (p : Addr) (u : Value) (hE : E p.block) : But E W (W.setCell p u) :=
  ⟨rfl, rfl, rfl, by simp [World.setCell], fun k _ hn => Below.heap_setCell _ _ _ _ (fun e => hn (e ▸ hE))⟩
theorem But.alloc {E : Nat → Prop} (W : World) (o : Obj) : But E W (W.alloc o) := .below ((Below.refl _ W).alloc (Nat.le_refl _) o)
theorem But.drew {E : Nat → Prop} (W : World) : But E W W.drew := ⟨rfl, rfl, rfl, Nat.le_refl _, fun _ _ _ => rfl⟩
theorem But.put {E : Nat → Prop} (W : World) (l : Nat) (o : Obj) (hE : E l) : But E W (W.putObj l o) :=
  ⟨rfl, rfl, rfl, by simp [World.putObj], fun k _ hn => World.putObj_heap_other (fun e => hn (e ▸ hE))⟩
theorem But.low {E : Nat → Prop} {a b : World} (h : But E a b) {B : Nat} (hB : B ≤ a.heap.size) (hE : ∀ k, k < B → ¬ E k) : Below B a b :=
  ⟨h.os, h.tape, h.output, h.size, fun k hk => h.block k (Nat.lt_of_lt_of_le hk hB) (hE k hk)⟩
theorem below_put {B : Nat} (W : World) (l : Nat) (o : Obj) (hB : B ≤ l) : Below B W (W.putObj l o) :=
  ⟨rfl, rfl, rfl, by simp [World.putObj], fun k hk => World.putObj_heap_other (by omega)⟩

/-- THE ITERATOR's CONTRACT: its rounds are those of xs, in order, each as a value that ok takes; a round keeps all but E and what lay between w and the call. -/
def SeqV {α : Type} (F : Fence) (n : Nat) (P : Program) (g : Nat) (lb : Array Value) (xs : List α) (ok : α → Array Value → Prop) (go : α → Prop) (E : Nat → Prop) (w : World) : Prop :=
  ∀ (l : Nat) (J Jx : Nat → World → Prop) (Ew : Nat → Prop) (W : World), Below w.heap.size w W → (∀ k, Ew k → E k ∨ (w.heap.size ≤ k ∧ k < W.heap.size)) →
    (∀ i A B, J i A → Below W.heap.size A B → J i B) → (∀ i A B, Jx i A → Below W.heap.size A B → Jx i B) →
    (∀ i x v W1, xs[i]? = some x → ok x v → J i W1 → YieldAt F (n - 1) P l v W1 fun e W' =>
      (e = .returned (.bool true) ∧ go x ∧ J (i + 1) W' ∧ But Ew W1 W') ∨ (e = .returned (.bool false) ∧ Jx (i + 1) W')) →
    J 0 W →
    CallsIn F n P g (#[.func (.yield l) #[] #[]] ++ lb) W fun e W' => (∃ v, e = .returned v) ∧ (J xs.length W' ∨ ∃ i, i ≤ xs.length ∧ Jx i W')

/-- how the body of a round may be left -/
def postV (E : Nat → Prop) (gx : Prop) (I : Nat → World → Prop) (Ix : Code → Nat → World → Prop) (i : Nat) (W : World) : Exit → Act → World → Prop
  | .normal, _, W' => But E W W' ∧ gx ∧ I i W'
  | .ret, _, W' => But E W W' ∧ Ix .ret i W'
  | .exit id, _, W' => But E W W' ∧ Ix (.exit id) i W'
  | .goto t, _, W' => But E W W' ∧ Ix (.goto t) i W'
  | .panic _, _, _ => False
  | .outgrown, _, _ => False

theorem wpIn_rangeV {F : Fence} {n : Nat} {P : Program} {α : Type} {g : Operand} {ps : Array Tmp} {assign body : Code} {Q : Exit → Act → World → Prop} {a : Act} {w : World}
    (hro : F.round = none) (h1 : 1 ≤ n) {gf : Nat} {lb : Array Value} (hg : a.eval g = .func (.func gf) #[] lb) (hFg : F.fn gf) (eg : ∀ args w, (callFunc gf args).run P w = .ok (.enter gf args) w)
    {xs : List α} {ok : α → Array Value → Prop} {go : α → Prop} {E : Nat → Prop} (hseq : SeqV F (n - 1) P gf lb xs ok go E w) (hE : ∀ k, E k → k < w.heap.size) (hps : ∀ x v, ok x v → v.size = ps.size)
    (I : Nat → World → Prop) (Ix : Code → Nat → World → Prop) (hI : ∀ i A B, I i A → Below w.heap.size A B → I i B) (hIx : ∀ c i A B, Ix c i A → Below w.heap.size A B → Ix c i B) (h0 : I 0 w)
    (Ax : α → Act → World → Prop) (hAx : ∀ x a₁ (A B : World), Ax x a₁ A → (∀ k, w.heap.size + 1 < k → B.heap[k]? = A.heap[k]?) → Ax x a₁ B)
    (hassign : ∀ (l : Nat) (x : α) (v : Array Value) (W : World) (K : Act → World → Prop), ok x v → w.heap.size + 1 < W.heap.size → (∀ a₁ W', Ax x a₁ W' → Below W.heap.size W W' → K a₁ W') →
      assign.wpIn (F.inRound l) (n - 1 - 1) P (Exit.then K (fun _ _ _ => False)) { tmps := (ps.zip v).foldl (fun t (p, v) => t.setIfInBounds p v) a.tmps, defers := [] } W)
    (hbody : ∀ (l : Nat) (i : Nat) (x : α) (a₁ : Act) (W : World), xs[i]? = some x → I i W → w.heap.size < W.heap.size → Ax x a₁ W → body.wpIn (F.inRound l) (n - 1 - 1) P (postV E (go x) I Ix (i + 1) W) a₁ W)
    (hdone : ∀ (D : Nat) (W : World), w.heap.size ≤ D → I xs.length W → W.heap[D]? = some (.deferred (some [])) → Q .normal { a with defers := { target := .collected D, args := #[] } :: a.defers } W)
    (hstop : ∀ (D : Nat) (c : Code) (i : Nat) (W : World), w.heap.size ≤ D → i ≤ xs.length → Ix c i W → W.heap[D]? = some (.deferred (some [])) → c.wpIn F n P Q { a with defers := { target := .collected D, args := #[] } :: a.defers } W) :
    (Code.rangeFunc g ps assign body).wpIn F n P Q a w := by
  refine wpIn_rangeFunc ?_
  intro fn hfn
  rw [hro]
  obtain ⟨rec, hrec⟩ : ∃ rec : LoopState → Option Code → Loop, rec = fun st pe => { state := st, pending := pe, fn, tmps := a.tmps, params := ps, assign, body, defers := w.heap.size } := ⟨_, rfl⟩
  obtain ⟨W1, hW1⟩ : ∃ W1, (w.alloc (.deferred (some []))).alloc (.loop (rec .ready none)) = W1 := ⟨_, rfl⟩
  have hL1 : W1.heap[w.heap.size + 1]? = some (.loop (rec .ready none)) := by
    rw [← hW1]; have := World.alloc_heap_new (w.alloc (.deferred (some []))) (.loop (rec .ready none)); rwa [World.size_alloc] at this
  have hK1 : W1.heap[w.heap.size]? = some (.deferred (some [])) := by
    rw [← hW1]; exact (Below.heap_alloc _ _ _ (by simp)).trans (World.alloc_heap_new w _)
  have hb1 : Below w.heap.size w W1 := by
    rw [← hW1]; exact ((Below.refl _ w).alloc (Nat.le_refl _) _).alloc (by simp) _
  have hI1 : I 0 W1 := hI _ _ _ h0 hb1
  have hs1 : W1.heap.size = w.heap.size + 2 := by rw [← hW1]; simp
  refine ⟨w.heap.size + 1, [{ target := .collected w.heap.size, args := #[] }], W1, { target := .fn (.func gf) lb, args := #[.func (.yield (w.heap.size + 1)) #[] #[]] }, W1, gf,
    #[.func (.yield (w.heap.size + 1)) #[] #[]] ++ lb, W1, ?_, ?_, ?_, ?_, fun _ => h1, ?_⟩
  · rw [← hW1, hrec]; exact run_enterLoop_outer _ _ _ _ _
  · simp only [resolve, hg]
    simp [go_sem]
  · intro f' hf'; simp [Target.leads] at hf'; subst hf'; exact hFg
  · simp [invoke, go_sem, eg]
  · refine (hseq (w.heap.size + 1)
      (fun i W => I i W ∧ W.heap[w.heap.size + 1]? = some (.loop (rec .ready none)) ∧ W.heap[w.heap.size]? = some (.deferred (some [])))
      (fun i W => ∃ c, i ≤ xs.length ∧ Ix c i W ∧ W.heap[w.heap.size + 1]? = some (.loop (rec .done (some c))) ∧ W.heap[w.heap.size]? = some (.deferred (some [])))
      (fun k => E k ∨ k = w.heap.size + 1) W1 hb1 (fun k hk => hk.imp id fun e => ⟨by omega, by omega⟩)
      (fun i A B hs hg' => ⟨hI i A B hs.1 (hg'.mono (by omega)), (hg'.block _ (by omega)).trans hs.2.1, (hg'.block _ (by omega)).trans hs.2.2⟩)
      (fun i A B hs hg' => by
        obtain ⟨c, hle, hc, hl, hk⟩ := hs
        exact ⟨c, hle, hIx c i A B hc (hg'.mono (by omega)), (hg'.block _ (by omega)).trans hl, (hg'.block _ (by omega)).trans hk⟩)
      ?_ ⟨hI1, hL1, hK1⟩).mono ?_
    · -- one round
      rintro i x v W hx hok ⟨hi, hl, hk⟩
      have hlt : w.heap.size + 1 < W.heap.size := (Array.getElem?_eq_some_iff.1 hl).1
      have hy := run_yield (P := P) (args := v) hl (by rw [hrec]; exact hps x v hok)
      rw [hrec] at hy
      have hilen : i + 1 ≤ xs.length := (List.getElem?_eq_some_iff.1 hx).1
      refine ⟨fn, _, assign, body, hy, roundIn_of_wpIn hfn (hassign _ x v W _ hok hlt fun a₁ W' ha₁ hbW => ⟨_, run_beginRound ((hbW.block _ hlt).trans hl) (by rw [hrec]), ?_⟩)⟩
      have hl' := (hbW.block _ hlt).trans hl
      have hk' := (hbW.block w.heap.size (by omega)).trans hk
      have hlt' : w.heap.size + 1 < W'.heap.size := Nat.lt_of_lt_of_le hlt hbW.size
      have bW : But (fun k => E k ∨ k = w.heap.size + 1) W W' := But.below hbW
      replace hi : I i W' := hI i _ _ hi (hbW.mono (by omega))
      have hl2 : (W'.putObj (w.heap.size + 1) (.loop { rec .ready none with state := .busy })).heap[w.heap.size + 1]? = some (.loop { rec .ready none with state := .busy }) := World.putObj_heap_same hlt'
      have hk2 : (W'.putObj (w.heap.size + 1) (.loop { rec .ready none with state := .busy })).heap[w.heap.size]? = some (.deferred (some [])) := (World.putObj_heap_other (by omega)).trans hk'
      refine wpIn_mono (hbody _ i x a₁ _ hx (hI i _ _ hi (below_put W' _ _ (by omega))) (by simp [World.putObj]; omega) (hAx _ _ _ _ ha₁ fun k hk => World.putObj_heap_other (by omega))) ?_
      have fin : ∀ (jump : Option Code) (W3 : World), But E (W'.putObj (w.heap.size + 1) (.loop { rec .ready none with state := .busy })) W3 →
          (Instr.endRound (w.heap.size + 1) jump).run P W3 = .ok (.bool jump.isNone) (W3.putObj (w.heap.size + 1) (.loop (rec (if jump.isNone then .ready else .done) jump))) ∧
          (W3.putObj (w.heap.size + 1) (.loop (rec (if jump.isNone then .ready else .done) jump))).heap[w.heap.size + 1]? = some (.loop (rec (if jump.isNone then .ready else .done) jump)) ∧
          (W3.putObj (w.heap.size + 1) (.loop (rec (if jump.isNone then .ready else .done) jump))).heap[w.heap.size]? = some (.deferred (some [])) := fun jump W3 hk3 => by
        have hl3 := (hk3.block (w.heap.size + 1) (by simpa [World.putObj] using hlt') (fun he => by have := hE _ he; omega)).trans hl2
        have hd3 := (hk3.block w.heap.size (by simp [World.putObj]; omega) (fun he => by have := hE _ he; omega)).trans hk2
        have := run_endRound (P := P) jump hl3
        rw [hrec] at this ⊢
        exact ⟨this, World.putObj_heap_same (Array.getElem?_eq_some_iff.1 hl3).1, (World.putObj_heap_other (by omega)).trans hd3⟩
      have bw : But (fun k => E k ∨ k = w.heap.size + 1) W (W'.putObj (w.heap.size + 1) (.loop { rec .ready none with state := .busy })) := bW.trans (But.put _ _ _ (.inr rfl))
      rintro e a3 W3 hp
      cases e with
      | normal =>
        obtain ⟨hk3, hgx, hi3⟩ := hp
        obtain ⟨hr, hl4, hk4⟩ := fin none W3 hk3
        exact ⟨_, _, hr, .inl ⟨rfl, hgx, ⟨hI _ _ _ hi3 (below_put W3 _ _ (by omega)), hl4, hk4⟩, (bw.trans (hk3.wide fun k hk => .inl hk)).trans (But.put _ _ _ (.inr rfl))⟩⟩
      | ret =>
        obtain ⟨hk3, hi3⟩ := hp
        obtain ⟨hr, hl4, hk4⟩ := fin (some .ret) W3 hk3
        exact ⟨_, _, hr, .inr ⟨rfl, .ret, hilen, hIx _ _ _ _ hi3 (below_put W3 _ _ (by omega)), hl4, hk4⟩⟩
      | exit id =>
        obtain ⟨hk3, hi3⟩ := hp
        obtain ⟨hr, hl4, hk4⟩ := fin (some (.exit id)) W3 hk3
        exact ⟨_, _, hr, .inr ⟨rfl, .exit id, hilen, hIx _ _ _ _ hi3 (below_put W3 _ _ (by omega)), hl4, hk4⟩⟩
      | goto t =>
        obtain ⟨hk3, hi3⟩ := hp
        obtain ⟨hr, hl4, hk4⟩ := fin (some (.goto t)) W3 hk3
        exact ⟨_, _, hr, .inr ⟨rfl, .goto t, hilen, hIx _ _ _ _ hi3 (below_put W3 _ _ (by omega)), hl4, hk4⟩⟩
      | panic ch => exact hp.elim
      | outgrown => exact hp.elim
    · -- behind the iterator
      rintro e W2 ⟨⟨v, rfl⟩, (⟨hi, hl, hk⟩ | ⟨i, hile, c, hile', hi, hl, hk⟩)⟩
      · exact ⟨none, _, by have := run_endLoop (P := P) hl (by rw [hrec]; simp); rw [hrec] at this; exact this, hdone _ _ (Nat.le_refl _) (hI _ _ _ hi (below_put W2 _ _ (by omega))) ((World.putObj_heap_other (by omega)).trans hk)⟩
      · exact ⟨some c, _, by have := run_endLoop (P := P) hl (by rw [hrec]; simp); rw [hrec] at this; exact this, hstop _ c i _ (Nat.le_refl _) hile (hIx _ _ _ _ hi (below_put W2 _ _ (by omega))) ((World.putObj_heap_other (by omega)).trans hk)⟩
end Go.Proofs.Ytfmgkinindkedaa
