/- Joined texts: StOf ExStmT ArgDat. -/
import Derived.Test.YtfmgkinindkedaaQHStmtI
import Derived.Test.YtfmgkinindkedaaQSSR
import Derived.Test.YtfmgkinindkedaaQHExSameT
import Derived.Test.YtfmgkinindkedaaQSSJ
import Derived.Test.YtfmgkinindkedaaQHSameStIc
import Derived.Test.YtfmgkinindkedaaRows
import Derived.Test.YtfmgkinindkedaaQSSA
import Derived.ProofKit
import Derived.OpenShut
import Derived.ShutString
import Derived.Deep.Slices
import Derived.Deep.Strs
/- A statement as the contracts take it. -/
namespace Go.Proofs.Ytfmgkinindkedaa
open Go.RowKit
/-- a statement as the contracts take it -/
def stOf (c0 : Int) (c1 : Bool) (c6 : Int) (c7 : ByteArray) (c : Nd) : Nd := fun j => match j with
  | 0 => .v (.int .i64 c0) | 1 => .v (.bool c1) | 6 => .v (.int .i64 c6) | 7 => .v (.string c7) | j => c j
theorem stOf_exprs {c0 : Int} {c1 : Bool} {c6 : Int} {c7 : ByteArray} {c : Nd} : stmtExprs (stOf c0 c1 c6 c7 c) = stmtExprs c := rfl
theorem stOf_out {c0 : Int} {c1 : Bool} {c6 : Int} {c7 : ByteArray} {c : Nd} {x2 x3 x4 x5 x8 x9 x10 x11 : Value} {w : World} (b0 : I64 c0) (b6 : I64 c6) (b7 : c7.size ≤ 9223372036854775807)
    (r2 : Rd w 0 x2 (c 2)) (q2 : Fits (c 2) .items) (r3 : Rd w 0 x3 (c 3)) (q3 : Fits (c 3) .sources) (r4 : Rd w 0 x4 (c 4)) (q4 : Fits (c 4) .exprs) (r5 : Rd w 0 x5 (c 5)) (q5 : Fits (c 5) .keys)
    (r8 : Rd w 0 x8 (c 8)) (q8 : Fits (c 8) .rows) (r9 : Rd w 0 x9 (c 9)) (q9 : Fits (c 9) .names) (r10 : Rd w 0 x10 (c 10)) (q10 : Fits (c 10) .exprs) (r11 : Rd w 0 x11 (c 11)) (q11 : Fits (c 11) .exprs) :
    OutK stTy w [.int .i64 c0, .bool c1, x2, x3, x4, x5, .int .i64 c6, .string c7, x8, x9, x10, x11] [stOf c0 c1 c6 c7 c] := OutK.one rfl (fun m hm => match m, hm with
  | 0, _ => ⟨_, rfl, rfl, ⟨_, rfl, b0⟩⟩
  | 1, _ => ⟨_, rfl, rfl, ⟨_, rfl⟩⟩
  | 2, _ => ⟨_, rfl, r2, q2⟩
  | 3, _ => ⟨_, rfl, r3, q3⟩
  | 4, _ => ⟨_, rfl, r4, q4⟩
  | 5, _ => ⟨_, rfl, r5, q5⟩
  | 6, _ => ⟨_, rfl, rfl, ⟨_, rfl, b6⟩⟩
  | 7, _ => ⟨_, rfl, rfl, ⟨_, rfl, b7⟩⟩
  | 8, _ => ⟨_, rfl, r8, q8⟩
  | 9, _ => ⟨_, rfl, r9, q9⟩
  | 10, _ => ⟨_, rfl, r10, q10⟩
  | 11, _ => ⟨_, rfl, r11, q11⟩
  | m + 12, hm => absurd hm (by simp [stTy]))
end Go.Proofs.Ytfmgkinindkedaa

/- The exact law of SameStmt at any two statements. -/
namespace Go.Proofs.Ytfmgkinindkedaa
open Go.RowKit

theorem exw_SameStmt (c d : Nat → Dat) (c0 : Int) (c1 : Bool) (c2 : Value) (c3 : Value) (c4 : Value) (c5 : Value) (c6 : Int) (c7 : ByteArray) (c8 : Value) (c9 : Value) (c10 : Value) (c11 : Value) (s0 : Int) (s1 : Bool) (s2 : Value) (s3 : Value) (s4 : Value) (s5 : Value) (s6 : Int) (s7 : ByteArray) (s8 : Value) (s9 : Value) (s10 : Value) (s11 : Value) (w : World)
    (r2 : Rd w 0 c2 (c 2)) (q2 : Fits (c 2) .items) (r3 : Rd w 0 c3 (c 3)) (q3 : Fits (c 3) .sources) (r4 : Rd w 0 c4 (c 4)) (q4 : Fits (c 4) .exprs) (r5 : Rd w 0 c5 (c 5)) (q5 : Fits (c 5) .keys) (r8 : Rd w 0 c8 (c 8)) (q8 : Fits (c 8) .rows) (r9 : Rd w 0 c9 (c 9)) (q9 : Fits (c 9) .names) (r10 : Rd w 0 c10 (c 10)) (q10 : Fits (c 10) .exprs) (r11 : Rd w 0 c11 (c 11)) (q11 : Fits (c 11) .exprs) (b0 : I64 c0) (b6 : I64 c6) (b7 : c7.size ≤ 9223372036854775807)
    (k2 : Rd w 0 s2 (d 2)) (l2 : Fits (d 2) .items) (k3 : Rd w 0 s3 (d 3)) (l3 : Fits (d 3) .sources) (k4 : Rd w 0 s4 (d 4)) (l4 : Fits (d 4) .exprs) (k5 : Rd w 0 s5 (d 5)) (l5 : Fits (d 5) .keys) (k8 : Rd w 0 s8 (d 8)) (l8 : Fits (d 8) .rows) (k9 : Rd w 0 s9 (d 9)) (l9 : Fits (d 9) .names) (k10 : Rd w 0 s10 (d 10)) (l10 : Fits (d 10) .exprs) (k11 : Rd w 0 s11 (d 11)) (l11 : Fits (d 11) .exprs) (h0 : I64 s0) (h6 : I64 s6) (h7 : s7.size ≤ 9223372036854775807) :
    Calls Try.prog 10 #[.agg #[.int .i64 c0, .bool c1, c2, c3, c4, c5, .int .i64 c6, .string c7, c8, c9, c10, c11], .agg #[.int .i64 s0, .bool s1, s2, s3, s4, s5, .int .i64 s6, .string s7, s8, s9, s10, s11]] w (BoolE true w) := by
  refine ex_SameStmt (stmtSame (stOf c0 c1 c6 c7 c) (stOf s0 s1 s6 s7 d)) c d c0 c1 c2 c3 c4 c5 c6 c7 c8 c9 c10 c11 s0 s1 s2 s3 s4 s5 s6 s7 s8 s9 s10 s11 w r2 q2 r3 q3 r4 q4 r5 q5 r8 q8 r9 q9 r10 q10 r11 q11 b7 k2 l2 k3 l3 k4 l4 k5 l5 k8 l8 k9 l9 k10 l10 k11 l11 h7 ?_ ?_
  · intro X2 X3 X4 X5 X8 X9 X10 X11 Y2 Y3 Y4 Y5 Y8 Y9 Y10 Y11 v e2 e3 e4 e5 e8 e9 e10 e11 f2 f3 f4 f5 f8 f9 f10 f11
    exact SameStmt_spec (stOf c0 c1 c6 c7 c) (stOf s0 s1 s6 s7 d) c0 c1 X2 X3 X4 X5 c6 c7 X8 X9 X10 X11 s0 s1 Y2 Y3 Y4 Y5 s6 s7 Y8 Y9 Y10 Y11 v rfl rfl rfl rfl rfl rfl rfl rfl e2 q2 e3 q3 e4 q4 e5 q5 e8 q8 e9 q9 e10 q10 e11 q11 f2 l2 f3 l3 f4 l4 f5 l5 f8 l8 f9 l9 f10 l10 f11 l11
  · intro m m' X2 X3 X4 X5 X8 X9 X10 X11 Y2 Y3 Y4 Y5 Y8 Y9 Y10 Y11 v e2 e3 e4 e5 e8 e9 e10 e11 f2 f3 f4 f5 f8 f9 f10 f11
    exact SameStmt_any v (stOf c0 c1 c6 c7 c) (stOf s0 s1 s6 s7 d) _ _ v (stOf_out b0 b6 b7 e2 q2 e3 q3 e4 q4 e5 q5 e8 q8 e9 q9 e10 q10 e11 q11) (stOf_out h0 h6 h7 f2 l2 f3 l3 f4 l4 f5 l5 f8 l8 f9 l9 f10 l10 f11 l11) (Below.refl _ _) ⟨⟨q2, q3, q4, q5⟩, q8, q9, q10, q11, m⟩ ⟨⟨l2, l3, l4, l5⟩, l8, l9, l10, l11, m'⟩
end Go.Proofs.Ytfmgkinindkedaa

/- Trees that came in, read out of the rows. -/
namespace Go.Proofs.Ytfmgkinindkedaa
open Go.ChangeShapes Go.WideShapes Go.ChangeAt Go.RowKit Go.Deep

/-- the program's types, as the laws spell them -/
def tid : Ty → TypeId
  | .int => 3
  | .bool => 4
  | .str => 9
  | .exprs => 24
  | .items => 22
  | .sources => 23
  | .keys => 25
  | .queries => 48
  | _ => 0
/-- cells, each read as one of its type with less fuel -/
def Cells {H : Type} (enc : TypeId × Value → H) (W : World) (tys : List Ty) (n : Nat) (cs : List Value) : Prop :=
  cs.length = tys.length ∧ ∀ j (h : j < tys.length), ∃ (m : Nat) (y : DataW H × List MemPlace), m < n ∧ DataW.trod enc Try.prog W 0 (fun _ => true) true m (tid tys[j]) [cs.getD j undef] = some y
section
variable {H : Type} {enc : TypeId × Value → H} {W : World}
set_option maxRecDepth 100000 in
theorem flat_Value {n : Nat} {cs : List Value} {y : DataW H × List MemPlace} (h : DataW.trod enc Try.prog W 0 (fun _ => true) true n 47 cs = some y) : Cells enc W [.int, .int, .str] n cs := by
  obtain ⟨xs, n', rfl, -, hl, hlen, hi⟩ := DataW.trod_struct Try.underlying47 h
  have hc : Try.prog.cellsOf 47 = 3 := by kernel_rfl
  have k_int : Try.prog.cellsOf 3 = 1 := by kernel_rfl
  have k_str : Try.prog.cellsOf 9 = 1 := by kernel_rfl
  have hx : ∀ i, i < 3 → ∃ y, xs[i]? = some y := fun i hi => ⟨xs[i]'(by have : xs.length = 3 := hlen; omega), List.getElem?_eq_getElem _⟩
  rw [hc] at hl
  match cs, hl with
  | [c0, c1, c2], _ =>
    obtain ⟨y0, hy0⟩ := hx 0 (by decide)
    have e0 : DataW.trod enc Try.prog W 0 (fun _ => true) true n' 3 [c0] = some y0 := by
      have h := hi 0 _ rfl
      rw [hy0] at h
      simpa [k_int] using h
    obtain ⟨y1, hy1⟩ := hx 1 (by decide)
    have e1 : DataW.trod enc Try.prog W 0 (fun _ => true) true n' 3 [c1] = some y1 := by
      have h := hi 1 _ rfl
      rw [hy1] at h
      simpa [k_int] using h
    obtain ⟨y2, hy2⟩ := hx 2 (by decide)
    have e2 : DataW.trod enc Try.prog W 0 (fun _ => true) true n' 9 [c2] = some y2 := by
      have h := hi 2 _ rfl
      rw [hy2] at h
      simpa [k_str] using h
    exact ⟨rfl, fun j hj => match j, hj with
      | 0, _ => ⟨n', y0, Nat.lt_succ_self _, e0⟩
      | 1, _ => ⟨n', y1, Nat.lt_succ_self _, e1⟩
      | 2, _ => ⟨n', y2, Nat.lt_succ_self _, e2⟩
      | j + 3, hj => absurd hj (by simp [exprTy, rowTy])⟩
set_option maxRecDepth 100000 in
theorem flat_Expr {n : Nat} {cs : List Value} {y : DataW H × List MemPlace} (h : DataW.trod enc Try.prog W 0 (fun _ => true) true n 50 cs = some y) : Cells enc W exprTy n cs := by
  obtain ⟨xs, n', rfl, -, hl, hlen, hi⟩ := DataW.trod_struct Try.underlying50 h
  have hc : Try.prog.cellsOf 50 = 10 := by kernel_rfl
  have k_bool : Try.prog.cellsOf 4 = 1 := by kernel_rfl
  have k_exprs : Try.prog.cellsOf 24 = 1 := by kernel_rfl
  have k_int : Try.prog.cellsOf 3 = 1 := by kernel_rfl
  have k_queries : Try.prog.cellsOf 48 = 1 := by kernel_rfl
  have k_str : Try.prog.cellsOf 9 = 1 := by kernel_rfl
  have k_Value : Try.prog.cellsOf 47 = 3 := by kernel_rfl
  have hx : ∀ i, i < 8 → ∃ y, xs[i]? = some y := fun i hi => ⟨xs[i]'(by have : xs.length = 8 := hlen; omega), List.getElem?_eq_getElem _⟩
  rw [hc] at hl
  match cs, hl with
  | [c0, c1, c2, c3, c4, c5, c6, c7, c8, c9], _ =>
    obtain ⟨y0, hy0⟩ := hx 0 (by decide)
    have e0 : DataW.trod enc Try.prog W 0 (fun _ => true) true n' 3 [c0] = some y0 := by
      have h := hi 0 _ rfl
      rw [hy0] at h
      simpa [k_int] using h
    obtain ⟨y1, hy1⟩ := hx 1 (by decide)
    have e1 : DataW.trod enc Try.prog W 0 (fun _ => true) true n' 3 [c1] = some y1 := by
      have h := hi 1 _ rfl
      rw [hy1] at h
      simpa [k_int] using h
    obtain ⟨y2, hy2⟩ := hx 2 (by decide)
    have e2 : DataW.trod enc Try.prog W 0 (fun _ => true) true n' 4 [c2] = some y2 := by
      have h := hi 2 _ rfl
      rw [hy2] at h
      simpa [k_bool] using h
    obtain ⟨y3, hy3⟩ := hx 3 (by decide)
    have e3 : DataW.trod enc Try.prog W 0 (fun _ => true) true n' 47 [c3, c4, c5] = some y3 := by
      have h := hi 3 _ rfl
      rw [hy3] at h
      simpa [k_Value] using h
    have q3 := flat_Value e3
    obtain ⟨y4, hy4⟩ := hx 4 (by decide)
    have e4 : DataW.trod enc Try.prog W 0 (fun _ => true) true n' 9 [c6] = some y4 := by
      have h := hi 4 _ rfl
      rw [hy4] at h
      simpa [k_str] using h
    obtain ⟨y5, hy5⟩ := hx 5 (by decide)
    have e5 : DataW.trod enc Try.prog W 0 (fun _ => true) true n' 9 [c7] = some y5 := by
      have h := hi 5 _ rfl
      rw [hy5] at h
      simpa [k_str] using h
    obtain ⟨y6, hy6⟩ := hx 6 (by decide)
    have e6 : DataW.trod enc Try.prog W 0 (fun _ => true) true n' 24 [c8] = some y6 := by
      have h := hi 6 _ rfl
      rw [hy6] at h
      simpa [k_exprs] using h
    obtain ⟨y7, hy7⟩ := hx 7 (by decide)
    have e7 : DataW.trod enc Try.prog W 0 (fun _ => true) true n' 48 [c9] = some y7 := by
      have h := hi 7 _ rfl
      rw [hy7] at h
      simpa [k_queries] using h
    exact ⟨rfl, fun j hj => match j, hj with
      | 0, _ => ⟨n', y0, Nat.lt_succ_self _, e0⟩
      | 1, _ => ⟨n', y1, Nat.lt_succ_self _, e1⟩
      | 2, _ => ⟨n', y2, Nat.lt_succ_self _, e2⟩
      | 3, _ => by obtain ⟨m, y, hm, ht⟩ := q3.2 0 (by decide); exact ⟨m, y, by omega, ht⟩
      | 4, _ => by obtain ⟨m, y, hm, ht⟩ := q3.2 1 (by decide); exact ⟨m, y, by omega, ht⟩
      | 5, _ => by obtain ⟨m, y, hm, ht⟩ := q3.2 2 (by decide); exact ⟨m, y, by omega, ht⟩
      | 6, _ => ⟨n', y4, Nat.lt_succ_self _, e4⟩
      | 7, _ => ⟨n', y5, Nat.lt_succ_self _, e5⟩
      | 8, _ => ⟨n', y6, Nat.lt_succ_self _, e6⟩
      | 9, _ => ⟨n', y7, Nat.lt_succ_self _, e7⟩
      | j + 10, hj => absurd hj (by simp [exprTy, rowTy])⟩
set_option maxRecDepth 100000 in
theorem flat_Item {n : Nat} {cs : List Value} {y : DataW H × List MemPlace} (h : DataW.trod enc Try.prog W 0 (fun _ => true) true n 137 cs = some y) : Cells enc W (rowTy .items) n cs := by
  obtain ⟨xs, n', rfl, -, hl, hlen, hi⟩ := DataW.trod_struct Try.underlying137 h
  have hc : Try.prog.cellsOf 137 = 13 := by kernel_rfl
  have k_bool : Try.prog.cellsOf 4 = 1 := by kernel_rfl
  have k_str : Try.prog.cellsOf 9 = 1 := by kernel_rfl
  have k_Expr : Try.prog.cellsOf 50 = 10 := by kernel_rfl
  have hx : ∀ i, i < 4 → ∃ y, xs[i]? = some y := fun i hi => ⟨xs[i]'(by have : xs.length = 4 := hlen; omega), List.getElem?_eq_getElem _⟩
  rw [hc] at hl
  match cs, hl with
  | [c0, c1, c2, c3, c4, c5, c6, c7, c8, c9, c10, c11, c12], _ =>
    obtain ⟨y0, hy0⟩ := hx 0 (by decide)
    have e0 : DataW.trod enc Try.prog W 0 (fun _ => true) true n' 4 [c0] = some y0 := by
      have h := hi 0 _ rfl
      rw [hy0] at h
      simpa [k_bool] using h
    obtain ⟨y1, hy1⟩ := hx 1 (by decide)
    have e1 : DataW.trod enc Try.prog W 0 (fun _ => true) true n' 9 [c1] = some y1 := by
      have h := hi 1 _ rfl
      rw [hy1] at h
      simpa [k_str] using h
    obtain ⟨y2, hy2⟩ := hx 2 (by decide)
    have e2 : DataW.trod enc Try.prog W 0 (fun _ => true) true n' 50 [c2, c3, c4, c5, c6, c7, c8, c9, c10, c11] = some y2 := by
      have h := hi 2 _ rfl
      rw [hy2] at h
      simpa [k_Expr] using h
    have q2 := flat_Expr e2
    obtain ⟨y3, hy3⟩ := hx 3 (by decide)
    have e3 : DataW.trod enc Try.prog W 0 (fun _ => true) true n' 9 [c12] = some y3 := by
      have h := hi 3 _ rfl
      rw [hy3] at h
      simpa [k_str] using h
    exact ⟨rfl, fun j hj => match j, hj with
      | 0, _ => ⟨n', y0, Nat.lt_succ_self _, e0⟩
      | 1, _ => ⟨n', y1, Nat.lt_succ_self _, e1⟩
      | 2, _ => by obtain ⟨m, y, hm, ht⟩ := q2.2 0 (by decide); exact ⟨m, y, by omega, ht⟩
      | 3, _ => by obtain ⟨m, y, hm, ht⟩ := q2.2 1 (by decide); exact ⟨m, y, by omega, ht⟩
      | 4, _ => by obtain ⟨m, y, hm, ht⟩ := q2.2 2 (by decide); exact ⟨m, y, by omega, ht⟩
      | 5, _ => by obtain ⟨m, y, hm, ht⟩ := q2.2 3 (by decide); exact ⟨m, y, by omega, ht⟩
      | 6, _ => by obtain ⟨m, y, hm, ht⟩ := q2.2 4 (by decide); exact ⟨m, y, by omega, ht⟩
      | 7, _ => by obtain ⟨m, y, hm, ht⟩ := q2.2 5 (by decide); exact ⟨m, y, by omega, ht⟩
      | 8, _ => by obtain ⟨m, y, hm, ht⟩ := q2.2 6 (by decide); exact ⟨m, y, by omega, ht⟩
      | 9, _ => by obtain ⟨m, y, hm, ht⟩ := q2.2 7 (by decide); exact ⟨m, y, by omega, ht⟩
      | 10, _ => by obtain ⟨m, y, hm, ht⟩ := q2.2 8 (by decide); exact ⟨m, y, by omega, ht⟩
      | 11, _ => by obtain ⟨m, y, hm, ht⟩ := q2.2 9 (by decide); exact ⟨m, y, by omega, ht⟩
      | 12, _ => ⟨n', y3, Nat.lt_succ_self _, e3⟩
      | j + 13, hj => absurd hj (by simp [exprTy, rowTy])⟩
set_option maxRecDepth 100000 in
theorem flat_Source {n : Nat} {cs : List Value} {y : DataW H × List MemPlace} (h : DataW.trod enc Try.prog W 0 (fun _ => true) true n 140 cs = some y) : Cells enc W (rowTy .sources) n cs := by
  obtain ⟨xs, n', rfl, -, hl, hlen, hi⟩ := DataW.trod_struct Try.underlying140 h
  have hc : Try.prog.cellsOf 140 = 3 := by kernel_rfl
  have k_exprs : Try.prog.cellsOf 24 = 1 := by kernel_rfl
  have k_str : Try.prog.cellsOf 9 = 1 := by kernel_rfl
  have hx : ∀ i, i < 3 → ∃ y, xs[i]? = some y := fun i hi => ⟨xs[i]'(by have : xs.length = 3 := hlen; omega), List.getElem?_eq_getElem _⟩
  rw [hc] at hl
  match cs, hl with
  | [c0, c1, c2], _ =>
    obtain ⟨y0, hy0⟩ := hx 0 (by decide)
    have e0 : DataW.trod enc Try.prog W 0 (fun _ => true) true n' 9 [c0] = some y0 := by
      have h := hi 0 _ rfl
      rw [hy0] at h
      simpa [k_str] using h
    obtain ⟨y1, hy1⟩ := hx 1 (by decide)
    have e1 : DataW.trod enc Try.prog W 0 (fun _ => true) true n' 9 [c1] = some y1 := by
      have h := hi 1 _ rfl
      rw [hy1] at h
      simpa [k_str] using h
    obtain ⟨y2, hy2⟩ := hx 2 (by decide)
    have e2 : DataW.trod enc Try.prog W 0 (fun _ => true) true n' 24 [c2] = some y2 := by
      have h := hi 2 _ rfl
      rw [hy2] at h
      simpa [k_exprs] using h
    exact ⟨rfl, fun j hj => match j, hj with
      | 0, _ => ⟨n', y0, Nat.lt_succ_self _, e0⟩
      | 1, _ => ⟨n', y1, Nat.lt_succ_self _, e1⟩
      | 2, _ => ⟨n', y2, Nat.lt_succ_self _, e2⟩
      | j + 3, hj => absurd hj (by simp [exprTy, rowTy])⟩
set_option maxRecDepth 100000 in
theorem flat_SortKey {n : Nat} {cs : List Value} {y : DataW H × List MemPlace} (h : DataW.trod enc Try.prog W 0 (fun _ => true) true n 143 cs = some y) : Cells enc W (rowTy .keys) n cs := by
  obtain ⟨xs, n', rfl, -, hl, hlen, hi⟩ := DataW.trod_struct Try.underlying143 h
  have hc : Try.prog.cellsOf 143 = 11 := by kernel_rfl
  have k_bool : Try.prog.cellsOf 4 = 1 := by kernel_rfl
  have k_Expr : Try.prog.cellsOf 50 = 10 := by kernel_rfl
  have hx : ∀ i, i < 2 → ∃ y, xs[i]? = some y := fun i hi => ⟨xs[i]'(by have : xs.length = 2 := hlen; omega), List.getElem?_eq_getElem _⟩
  rw [hc] at hl
  match cs, hl with
  | [c0, c1, c2, c3, c4, c5, c6, c7, c8, c9, c10], _ =>
    obtain ⟨y0, hy0⟩ := hx 0 (by decide)
    have e0 : DataW.trod enc Try.prog W 0 (fun _ => true) true n' 50 [c0, c1, c2, c3, c4, c5, c6, c7, c8, c9] = some y0 := by
      have h := hi 0 _ rfl
      rw [hy0] at h
      simpa [k_Expr] using h
    have q0 := flat_Expr e0
    obtain ⟨y1, hy1⟩ := hx 1 (by decide)
    have e1 : DataW.trod enc Try.prog W 0 (fun _ => true) true n' 4 [c10] = some y1 := by
      have h := hi 1 _ rfl
      rw [hy1] at h
      simpa [k_bool] using h
    exact ⟨rfl, fun j hj => match j, hj with
      | 0, _ => by obtain ⟨m, y, hm, ht⟩ := q0.2 0 (by decide); exact ⟨m, y, by omega, ht⟩
      | 1, _ => by obtain ⟨m, y, hm, ht⟩ := q0.2 1 (by decide); exact ⟨m, y, by omega, ht⟩
      | 2, _ => by obtain ⟨m, y, hm, ht⟩ := q0.2 2 (by decide); exact ⟨m, y, by omega, ht⟩
      | 3, _ => by obtain ⟨m, y, hm, ht⟩ := q0.2 3 (by decide); exact ⟨m, y, by omega, ht⟩
      | 4, _ => by obtain ⟨m, y, hm, ht⟩ := q0.2 4 (by decide); exact ⟨m, y, by omega, ht⟩
      | 5, _ => by obtain ⟨m, y, hm, ht⟩ := q0.2 5 (by decide); exact ⟨m, y, by omega, ht⟩
      | 6, _ => by obtain ⟨m, y, hm, ht⟩ := q0.2 6 (by decide); exact ⟨m, y, by omega, ht⟩
      | 7, _ => by obtain ⟨m, y, hm, ht⟩ := q0.2 7 (by decide); exact ⟨m, y, by omega, ht⟩
      | 8, _ => by obtain ⟨m, y, hm, ht⟩ := q0.2 8 (by decide); exact ⟨m, y, by omega, ht⟩
      | 9, _ => by obtain ⟨m, y, hm, ht⟩ := q0.2 9 (by decide); exact ⟨m, y, by omega, ht⟩
      | 10, _ => ⟨n', y1, Nat.lt_succ_self _, e1⟩
      | j + 11, hj => absurd hj (by simp [exprTy, rowTy])⟩
set_option maxRecDepth 100000 in
theorem flat_Query {n : Nat} {cs : List Value} {y : DataW H × List MemPlace} (h : DataW.trod enc Try.prog W 0 (fun _ => true) true n 27 cs = some y) : Cells enc W (rowTy .queries) n cs := by
  obtain ⟨xs, n', rfl, -, hl, hlen, hi⟩ := DataW.trod_struct Try.underlying27 h
  have hc : Try.prog.cellsOf 27 = 6 := by kernel_rfl
  have k_bool : Try.prog.cellsOf 4 = 1 := by kernel_rfl
  have k_exprs : Try.prog.cellsOf 24 = 1 := by kernel_rfl
  have k_int : Try.prog.cellsOf 3 = 1 := by kernel_rfl
  have k_items : Try.prog.cellsOf 22 = 1 := by kernel_rfl
  have k_keys : Try.prog.cellsOf 25 = 1 := by kernel_rfl
  have k_sources : Try.prog.cellsOf 23 = 1 := by kernel_rfl
  have hx : ∀ i, i < 6 → ∃ y, xs[i]? = some y := fun i hi => ⟨xs[i]'(by have : xs.length = 6 := hlen; omega), List.getElem?_eq_getElem _⟩
  rw [hc] at hl
  match cs, hl with
  | [c0, c1, c2, c3, c4, c5], _ =>
    obtain ⟨y0, hy0⟩ := hx 0 (by decide)
    have e0 : DataW.trod enc Try.prog W 0 (fun _ => true) true n' 4 [c0] = some y0 := by
      have h := hi 0 _ rfl
      rw [hy0] at h
      simpa [k_bool] using h
    obtain ⟨y1, hy1⟩ := hx 1 (by decide)
    have e1 : DataW.trod enc Try.prog W 0 (fun _ => true) true n' 22 [c1] = some y1 := by
      have h := hi 1 _ rfl
      rw [hy1] at h
      simpa [k_items] using h
    obtain ⟨y2, hy2⟩ := hx 2 (by decide)
    have e2 : DataW.trod enc Try.prog W 0 (fun _ => true) true n' 23 [c2] = some y2 := by
      have h := hi 2 _ rfl
      rw [hy2] at h
      simpa [k_sources] using h
    obtain ⟨y3, hy3⟩ := hx 3 (by decide)
    have e3 : DataW.trod enc Try.prog W 0 (fun _ => true) true n' 24 [c3] = some y3 := by
      have h := hi 3 _ rfl
      rw [hy3] at h
      simpa [k_exprs] using h
    obtain ⟨y4, hy4⟩ := hx 4 (by decide)
    have e4 : DataW.trod enc Try.prog W 0 (fun _ => true) true n' 25 [c4] = some y4 := by
      have h := hi 4 _ rfl
      rw [hy4] at h
      simpa [k_keys] using h
    obtain ⟨y5, hy5⟩ := hx 5 (by decide)
    have e5 : DataW.trod enc Try.prog W 0 (fun _ => true) true n' 3 [c5] = some y5 := by
      have h := hi 5 _ rfl
      rw [hy5] at h
      simpa [k_int] using h
    exact ⟨rfl, fun j hj => match j, hj with
      | 0, _ => ⟨n', y0, Nat.lt_succ_self _, e0⟩
      | 1, _ => ⟨n', y1, Nat.lt_succ_self _, e1⟩
      | 2, _ => ⟨n', y2, Nat.lt_succ_self _, e2⟩
      | 3, _ => ⟨n', y3, Nat.lt_succ_self _, e3⟩
      | 4, _ => ⟨n', y4, Nat.lt_succ_self _, e4⟩
      | 5, _ => ⟨n', y5, Nat.lt_succ_self _, e5⟩
      | j + 6, hj => absurd hj (by simp [exprTy, rowTy])⟩

/-- one slice's elements, as cells -/
theorem rows_flat {ty : Ty} (hd : tree ty = true) : ∃ e : TypeId, Try.prog.underlying (tid ty) = some (.slice e) ∧ Try.prog.cellsOf e = (rowTy ty).length ∧
    ∀ {n : Nat} {cs : List Value} {y : DataW H × List MemPlace}, DataW.trod enc Try.prog W 0 (fun _ => true) true n e cs = some y → Cells enc W (rowTy ty) n cs := by
  cases ty
  case int => cases hd
  case bool => cases hd
  case str => cases hd
  case rows => cases hd
  case names => cases hd
  case exprs => exact ⟨50, Try.underlying24, by kernel_rfl, fun h => flat_Expr h⟩
  case items => exact ⟨137, Try.underlying22, by kernel_rfl, fun h => flat_Item h⟩
  case sources => exact ⟨140, Try.underlying23, by kernel_rfl, fun h => flat_Source h⟩
  case keys => exact ⟨143, Try.underlying25, by kernel_rfl, fun h => flat_SortKey h⟩
  case queries => exact ⟨27, Try.underlying48, by kernel_rfl, fun h => flat_Query h⟩

theorem add_none {g o i : Nat} : (Addr.mk g o none).add i = ⟨g, o + i, none⟩ := by
  unfold Addr.add
  split <;> simp_all
/-- whatever has come in as one of the type reads as a datum of it -/
theorem cell_dat : ∀ (n : Nat) (ty : Ty) (x : Value) (y : DataW H × List MemPlace), plainTy ty = true → DataW.trod enc Try.prog W 0 (fun _ => true) true n (tid ty) [x] = some y → ∃ d, Rd W 0 x d ∧ Fits d ty := by
  intro n
  induction n using Nat.strongRecOn with
  | _ n ih =>
    intro ty x y hp h
    by_cases hd : tree ty = true
    · have hdp : deep ty = true := by cases ty <;> first | (cases hd; done) | rfl
      have hpr := List.all_eq_true.1 (plain_row hd)
      obtain ⟨e, hu, hk, hflat⟩ := rows_flat (H := H) (enc := enc) (W := W) hd
      have hk0 : 0 < (rowTy ty).length := by cases ty <;> first | (cases hd; done) | decide
      rcases DataW.trod_slice hu h with ⟨hcs, _⟩ | ⟨ad, len, cap, elems, rest, n', rfl, hcs, _, _, hlc, hcm, hel, hi, _, _⟩
      · obtain rfl : x = .slice none 0 0 := by simpa using hcs
        refine ⟨.sl 0 (rowTy ty).length fun _ _ => .v undef, ⟨none, 0, rfl, Nat.le_refl _, fun _ => rfl, .inl rfl⟩, ?_⟩
        exact ⟨hdp, by omega, rfl, fun i hi => by omega⟩
      · obtain rfl : x = .slice (some ad) len cap := by simpa using hcs
        have row : ∀ i, i < len → ∃ cs', W.cells? 0 (ad.add (i * (rowTy ty).length)) (rowTy ty).length = some cs' ∧ Cells enc W (rowTy ty) n' cs' := fun i hil => by
          have h1 := hi i hil
          rw [List.getElem?_eq_getElem (by omega), Option.bind_eq_some_iff, hk] at h1
          obtain ⟨cs', h2, h3⟩ := h1
          exact ⟨cs', h2, hflat h3⟩
        obtain ⟨g, o, spot⟩ := ad
        have hsp : 0 < len → spot = none := fun h0 => by
          obtain ⟨cs', h2, h3⟩ := row 0 h0
          obtain ⟨_, hl, hat⟩ := World.cells?_some h2
          have c0 := hat 0 hk0
          have e0 : ((Addr.mk g o spot).add (0 * (rowTy ty).length)).add 0 = Addr.mk g o spot := by unfold Addr.add; simp
          rw [e0, List.getElem?_eq_getElem (by omega)] at c0
          simpa using World.cell?_spot c0
        have key : ∀ i, i < len → ∃ F : Nat → Dat, ∀ j (hj : j < (rowTy ty).length), ∃ y, W.cell? ⟨g, o + i * (rowTy ty).length + j, none⟩ = some y ∧ Rd W 0 y (F j) ∧ Fits (F j) ((rowTy ty)[j]) := fun i hil => by
          obtain ⟨cs', h2, h3⟩ := row i hil
          have hs := hsp (by omega)
          subst hs
          obtain ⟨_, hl, hat⟩ := World.cells?_some h2
          have one : ∀ j (hj : j < (rowTy ty).length), ∃ d, Rd W 0 (cs'.getD j undef) d ∧ Fits d ((rowTy ty)[j]) := fun j hj => by
            obtain ⟨m, y, hm, ht⟩ := h3.2 j hj
            exact ih m (by omega) _ _ _ (hpr _ (List.getElem_mem hj)) ht
          refine ⟨fun j => if hj : j < (rowTy ty).length then Classical.choose (one j hj) else .v undef, fun j hj => ⟨cs'.getD j undef, ?_, ?_⟩⟩
          · have c := hat j hj
            rw [add_none, add_none] at c
            rw [c, List.getElem?_eq_getElem (by omega), List.getD_eq_getElem?_getD, List.getElem?_eq_getElem (by omega)]
            rfl
          · simp only [dif_pos hj]
            exact Classical.choose_spec (one j hj)
        refine ⟨.sl len (rowTy ty).length fun i => if hil : i < len then Classical.choose (key i hil) else fun _ => .v undef, ?_, ?_⟩
        · refine ⟨some ⟨g, o, spot⟩, cap, rfl, hlc, (fun h => by cases h), ?_⟩
          by_cases h0 : len = 0
          · exact .inl h0
          · refine .inr ?_
            have hs := hsp (by omega)
            subst hs
            have lt : g < W.heap.size := by
              obtain ⟨y, hy, _⟩ := Classical.choose_spec (key 0 (by omega)) 0 hk0
              rcases Nat.lt_or_ge g W.heap.size with hb | hb
              · exact hb
              · exfalso
                have : W.heap[g]? = none := Array.getElem?_eq_none hb
                simp [World.cell?, this] at hy
            refine ⟨g, o, rfl, Nat.zero_le _, lt, fun i hil j hj => ?_⟩
            obtain ⟨y, hy, hr, _⟩ := Classical.choose_spec (key i hil) j hj
            exact ⟨y, hy, by simp only [dif_pos hil]; exact hr⟩
        · refine ⟨hdp, by unfold maxLen at hcm; omega, rfl, fun i hil j hj => ?_⟩
          obtain ⟨y, hy, _, hf⟩ := Classical.choose_spec (key i hil) j hj
          simp only [dif_pos hil]; exact hf
    · cases ty
      case int =>
        obtain ⟨k, hk, -, hw⟩ := DataW.trod_int Try.underlying3 h
        obtain rfl : x = .int .i64 k := by simpa using hk
        exact ⟨.v (.int .i64 k), rfl, k, rfl, i64_bds hw⟩
      case bool =>
        obtain ⟨b, hb, -⟩ := DataW.trod_bool Try.underlying4 h
        obtain rfl : x = .bool b := by simpa using hb
        exact ⟨.v (.bool b), rfl, b, rfl⟩
      case str =>
        obtain ⟨b, hb, -, hw⟩ := DataW.trod_string Try.underlying9 h
        obtain rfl : x = .string b := by simpa using hb
        exact ⟨.v (.string b), rfl, b, rfl, hw⟩
      all_goals first | exact absurd rfl hd | cases hp
end
end Go.Proofs.Ytfmgkinindkedaa
