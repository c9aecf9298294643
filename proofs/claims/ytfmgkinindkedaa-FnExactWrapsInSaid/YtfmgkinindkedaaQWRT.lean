/- Joined texts: QdOf ExLevW ArgDat. -/
import Derived.Test.YtfmgkinindkedaaQWRS
import Derived.Test.YtfmgkinindkedaaQHExLev
import Derived.Test.YtfmgkinindkedaaRows
import Derived.Test.YtfmgkinindkedaaQWRA
import Derived.ProofKit
import Derived.OpenShut
import Derived.ShutString
import Derived.Deep.Slices
import Derived.Deep.Strs
/- A query as the contracts take it. -/
namespace Go.Proofs.Ytfmgkinindkedaa
open Go.RowKit

/-- a query as the contracts take it -/
def qdOf (c0 : Bool) (c5 : Int) (c : Nd) : Nd := fun j => match j with
  | 0 => .v (.bool c0) | 5 => .v (.int .i64 c5) | j => c j
theorem qdOf_out {c0 : Bool} {c5 : Int} {c : Nd} {x1 x2 x3 x4 : Value} {w : World} (b5 : I64 c5)
    (r1 : Rd w 0 x1 (c 1)) (q1 : Fits (c 1) .items) (r2 : Rd w 0 x2 (c 2)) (q2 : Fits (c 2) .sources) (r3 : Rd w 0 x3 (c 3)) (q3 : Fits (c 3) .exprs) (r4 : Rd w 0 x4 (c 4)) (q4 : Fits (c 4) .keys) :
    OutK (rowTy .queries) w [.bool c0, x1, x2, x3, x4, .int .i64 c5] [qdOf c0 c5 c] := OutK.one rfl (fun m hm => match m, hm with
  | 0, _ => ⟨_, rfl, rfl, ⟨_, rfl⟩⟩
  | 1, _ => ⟨_, rfl, r1, q1⟩
  | 2, _ => ⟨_, rfl, r2, q2⟩
  | 3, _ => ⟨_, rfl, r3, q3⟩
  | 4, _ => ⟨_, rfl, r4, q4⟩
  | 5, _ => ⟨_, rfl, rfl, ⟨_, rfl, b5⟩⟩
  | m + 6, hm => absurd hm (by simp [rowTy]))
end Go.Proofs.Ytfmgkinindkedaa

/- The exact laws of LevelOf, Needs, Wrapped, Wraps and WrapsIn at any tree. -/
namespace Go.Proofs.Ytfmgkinindkedaa
open Go.RowKit

theorem exw_LevelOf (c : Nat → Dat) (c0 c1 : Int) (c2 : Bool) (c3 c4 : Int) (c5 c6 c7 : ByteArray) (c8 c9 : Value) (w : World)
    (r8 : Rd w 0 c8 (c 8)) (q8 : Fits (c 8) .exprs) (r9 : Rd w 0 c9 (c 9)) (q9 : Fits (c 9) .queries) (b0 : I64 c0) (b1 : I64 c1) (b3 : I64 c3) (b4 : I64 c4) (b5 : c5.size ≤ 9223372036854775807) (b6 : c6.size ≤ 9223372036854775807) (b7 : c7.size ≤ 9223372036854775807) :
    Calls Try.prog 4 #[.agg #[.int .i64 c0, .int .i64 c1, .bool c2, .int .i64 c3, .int .i64 c4, .string c5, .string c6, .string c7, c8, c9]] w (BoolE true w) := by
  refine ex_LevelOf (levV c0 c1) c c0 c1 c2 c3 c4 c5 c6 c7 c8 c9 w r8 q8 r9 q9 b5 b6 b7 ?_ ?_
  · intro m X8 X9 v e8 e9
    obtain ⟨a8, n8, p8, rfl⟩ := e8.slice_of q8 rfl
    obtain ⟨a9, n9, p9, rfl⟩ := e9.slice_of q9 rfl
    exact levelOf_spec c0 c1 c2 c3 c4 c5 c6 c7 a8 n8 p8 a9 n9 p9 v
  · intro m X8 X9 v e8 e9
    obtain ⟨a8, n8, p8, rfl⟩ := e8.slice_of q8 rfl
    obtain ⟨a9, n9, p9, rfl⟩ := e9.slice_of q9 rfl
    exact levelOf_impl c0 c1 c2 c3 c4 c5 c6 c7 a8 n8 p8 a9 n9 p9 v
theorem exw_Needs (c : Nat → Dat) (a : Int) (c0 c1 : Int) (c2 : Bool) (c3 c4 : Int) (c5 c6 c7 : ByteArray) (c8 c9 : Value) (w : World)
    (r8 : Rd w 0 c8 (c 8)) (q8 : Fits (c 8) .exprs) (r9 : Rd w 0 c9 (c 9)) (q9 : Fits (c 9) .queries) (b0 : I64 c0) (b1 : I64 c1) (b3 : I64 c3) (b4 : I64 c4) (b5 : c5.size ≤ 9223372036854775807) (b6 : c6.size ≤ 9223372036854775807) (b7 : c7.size ≤ 9223372036854775807) :
    Calls Try.prog 5 #[.agg #[.int .i64 c0, .int .i64 c1, .bool c2, .int .i64 c3, .int .i64 c4, .string c5, .string c6, .string c7, c8, c9], .int .i64 a] w (BoolE true w) := by
  obtain ⟨n8, k8, f8, e8⟩ := q8.deep rfl
  have hl : ∀ {X : Value} {v : World}, Rd v 0 X (c 8) → ∃ a8 p8, X = .slice a8 n8 p8 := fun {X v} r => by
    rw [e8] at r
    obtain ⟨a8, p8, rfl⟩ := r.slice
    exact ⟨a8, p8, rfl⟩
  have hn8 : n8 ≤ 9223372036854775807 := by rw [e8] at q8; exact q8.2.1
  refine ex_Needs (needV c0 (levV c0 c1) n8 a) c a c0 c1 c2 c3 c4 c5 c6 c7 c8 c9 w r8 q8 r9 q9 b5 b6 b7 ?_ ?_
  · intro m X8 X9 v e8' e9
    obtain ⟨a8, p8, rfl⟩ := hl e8'
    obtain ⟨a9, n9, p9, rfl⟩ := e9.slice_of q9 rfl
    exact needs_spec c0 c1 c2 c3 c4 c5 c6 c7 a8 n8 p8 a9 n9 p9 a v hn8
  · intro m X8 X9 v e8' e9
    obtain ⟨a8, p8, rfl⟩ := hl e8'
    obtain ⟨a9, n9, p9, rfl⟩ := e9.slice_of q9 rfl
    exact needs_impl c0 c1 c2 c3 c4 c5 c6 c7 a8 n8 p8 a9 n9 p9 a v
theorem exw_Wrapped (c : Nat → Dat) (a : Int) (c0 c1 : Int) (c2 : Bool) (c3 c4 : Int) (c5 c6 c7 : ByteArray) (c8 c9 : Value) (w : World)
    (r8 : Rd w 0 c8 (c 8)) (q8 : Fits (c 8) .exprs) (r9 : Rd w 0 c9 (c 9)) (q9 : Fits (c 9) .queries) (b0 : I64 c0) (b1 : I64 c1) (b3 : I64 c3) (b4 : I64 c4) (b5 : c5.size ≤ 9223372036854775807) (b6 : c6.size ≤ 9223372036854775807) (b7 : c7.size ≤ 9223372036854775807) :
    Calls Try.prog 6 #[.agg #[.int .i64 c0, .int .i64 c1, .bool c2, .int .i64 c3, .int .i64 c4, .string c5, .string c6, .string c7, c8, c9], .int .i64 a] w (BoolE true w) := by
  refine ex_Wrapped (wrapB (ndOf c0 c1 c2 c3 c4 c5 c6 c7 c) a) c a c0 c1 c2 c3 c4 c5 c6 c7 c8 c9 w r8 q8 r9 q9 b5 b6 b7 ?_ ?_
  · intro m X8 X9 v e8 e9
    obtain ⟨n8, k8, f8, h8⟩ := q8.deep rfl
    have q8' := q8
    rw [h8] at e8 q8'
    obtain rfl : k8 = 10 := q8'.2.2.1
    obtain ⟨a8, p8, rfl⟩ := e8.slice
    obtain ⟨a9, n9, p9, rfl⟩ := e9.slice_of q9 rfl
    exact wrapped_spec (ndOf c0 c1 c2 c3 c4 c5 c6 c7 c) c0 c1 c2 c3 c4 c5 c6 c7 a8 n8 p8 a9 n9 p9 a v rfl rfl f8 h8 e8 q8'
  · intro m X8 X9 v e8 e9
    exact wrapped_any v (ndOf c0 c1 c2 c3 c4 c5 c6 c7 c) _ v (ndOf_out b0 b1 b3 b4 b5 b6 b7 e8 q8 e9 q9) (Below.refl _ _) a
theorem exw_Wraps (c : Nat → Dat) (c0 c1 : Int) (c2 : Bool) (c3 c4 : Int) (c5 c6 c7 : ByteArray) (c8 c9 : Value) (w : World)
    (r8 : Rd w 0 c8 (c 8)) (q8 : Fits (c 8) .exprs) (r9 : Rd w 0 c9 (c 9)) (q9 : Fits (c 9) .queries) (b0 : I64 c0) (b1 : I64 c1) (b3 : I64 c3) (b4 : I64 c4) (b5 : c5.size ≤ 9223372036854775807) (b6 : c6.size ≤ 9223372036854775807) (b7 : c7.size ≤ 9223372036854775807) :
    Calls Try.prog 7 #[.agg #[.int .i64 c0, .int .i64 c1, .bool c2, .int .i64 c3, .int .i64 c4, .string c5, .string c6, .string c7, c8, c9]] w (BoolE true w) := by
  refine ex_Wraps ((foldE wrapA (ndOf c0 c1 c2 c3 c4 c5 c6 c7 c) : Nat) : Int) c c0 c1 c2 c3 c4 c5 c6 c7 c8 c9 w r8 q8 r9 q9 b5 b6 b7 ?_ ?_
  · intro m X8 X9 v e8 e9
    have hsz : foldE sizA (ndOf c0 c1 c2 c3 c4 c5 c6 c7 c) ≤ 1048577 := by
      have g8 := siz_le (c 8) _ q8
      have g9 := siz_le (c 9) _ q9
      show (fold sizA (c 8) .exprs + fold sizA (c 9) .queries) + 1 ≤ _
      omega
    exact (wraps_all 1048577).1 (ndOf c0 c1 c2 c3 c4 c5 c6 c7 c) hsz (Nat.le_refl _) q8 q9 c0 c1 c2 c3 c4 c5 c6 c7 X8 X9 v rfl rfl e8 q8 e9 q9
  · intro m X8 X9 v e8 e9
    exact Wraps_any v (ndOf c0 c1 c2 c3 c4 c5 c6 c7 c) _ v (ndOf_out b0 b1 b3 b4 b5 b6 b7 e8 q8 e9 q9) (Below.refl _ _) ⟨by show msr (c 8) ≤ _; omega, by show msr (c 9) ≤ _; omega, q8, q9⟩ (by show msr (c 8) + msr (c 9) + 1 ≤ _; omega)
theorem exw_WrapsIn (c : Nat → Dat) (c0 : Bool) (c1 c2 c3 c4 : Value) (c5 : Int) (w : World)
    (r1 : Rd w 0 c1 (c 1)) (q1 : Fits (c 1) .items) (r2 : Rd w 0 c2 (c 2)) (q2 : Fits (c 2) .sources) (r3 : Rd w 0 c3 (c 3)) (q3 : Fits (c 3) .exprs) (r4 : Rd w 0 c4 (c 4)) (q4 : Fits (c 4) .keys) (b5 : I64 c5) :
    Calls Try.prog 8 #[.agg #[.bool c0, c1, c2, c3, c4, .int .i64 c5]] w (BoolE true w) := by
  refine ex_WrapsIn ((foldQ wrapA c : Nat) : Int) c c0 c1 c2 c3 c4 c5 w r1 q1 r2 q2 r3 q3 r4 q4 ?_ ?_
  · intro m X1 X2 X3 X4 v e1 e2 e3 e4
    have hsz : foldQ sizA c ≤ 1048576 := by
      have g1 := siz_le (c 1) _ q1
      have g2 := siz_le (c 2) _ q2
      have g3 := siz_le (c 3) _ q3
      have g4 := siz_le (c 4) _ q4
      show _ + _ + _ + _ ≤ _
      omega
    exact (wraps_all 1048576).2 c hsz (Nat.le_refl _) q1 q2 q3 q4 c0 X1 X2 X3 X4 c5 v e1 q1 e2 q2 e3 q3 e4 q4
  · intro m X1 X2 X3 X4 v e1 e2 e3 e4
    exact WrapsIn_any v (qdOf c0 c5 c) _ v (qdOf_out b5 e1 q1 e2 q2 e3 q3 e4 q4) (Below.refl _ _) ⟨⟨q1, q2, q3, q4⟩, m⟩
end Go.Proofs.Ytfmgkinindkedaa

/- Trees that came in, read out of the rows. -/
namespace Go.Proofs.Ytfmgkinindkedaa
open Go.ChangeShapes Go.WideShapes Go.ChangeAt Go.RowKit Go.Deep

/-- the program's types, as the laws spell them -/
def tid : Ty → TypeId
  | .int => 3
  | .bool => 4
  | .str => 9
  | .exprs => 24
  | .items => 22
  | .sources => 23
  | .keys => 25
  | .queries => 48
  | _ => 0
/-- cells, each read as one of its type with less fuel -/
def Cells {H : Type} (enc : TypeId × Value → H) (W : World) (tys : List Ty) (n : Nat) (cs : List Value) : Prop :=
  cs.length = tys.length ∧ ∀ j (h : j < tys.length), ∃ (m : Nat) (y : DataW H × List MemPlace), m < n ∧ DataW.trod enc Try.prog W 0 (fun _ => true) true m (tid tys[j]) [cs.getD j undef] = some y
section
variable {H : Type} {enc : TypeId × Value → H} {W : World}
set_option maxRecDepth 100000 in
theorem flat_Value {n : Nat} {cs : List Value} {y : DataW H × List MemPlace} (h : DataW.trod enc Try.prog W 0 (fun _ => true) true n 47 cs = some y) : Cells enc W [.int, .int, .str] n cs := by
  obtain ⟨xs, n', rfl, -, hl, hlen, hi⟩ := DataW.trod_struct Try.underlying47 h
  have hc : Try.prog.cellsOf 47 = 3 := by kernel_rfl
  have k_int : Try.prog.cellsOf 3 = 1 := by kernel_rfl
  have k_str : Try.prog.cellsOf 9 = 1 := by kernel_rfl
  have hx : ∀ i, i < 3 → ∃ y, xs[i]? = some y := fun i hi => ⟨xs[i]'(by have : xs.length = 3 := hlen; omega), List.getElem?_eq_getElem _⟩
  rw [hc] at hl
  match cs, hl with
  | [c0, c1, c2], _ =>
    obtain ⟨y0, hy0⟩ := hx 0 (by decide)
    have e0 : DataW.trod enc Try.prog W 0 (fun _ => true) true n' 3 [c0] = some y0 := by
      have h := hi 0 _ rfl
      rw [hy0] at h
      simpa [k_int] using h
    obtain ⟨y1, hy1⟩ := hx 1 (by decide)
    have e1 : DataW.trod enc Try.prog W 0 (fun _ => true) true n' 3 [c1] = some y1 := by
      have h := hi 1 _ rfl
      rw [hy1] at h
      simpa [k_int] using h
    obtain ⟨y2, hy2⟩ := hx 2 (by decide)
    have e2 : DataW.trod enc Try.prog W 0 (fun _ => true) true n' 9 [c2] = some y2 := by
      have h := hi 2 _ rfl
      rw [hy2] at h
      simpa [k_str] using h
    exact ⟨rfl, fun j hj => match j, hj with
      | 0, _ => ⟨n', y0, Nat.lt_succ_self _, e0⟩
      | 1, _ => ⟨n', y1, Nat.lt_succ_self _, e1⟩
      | 2, _ => ⟨n', y2, Nat.lt_succ_self _, e2⟩
      | j + 3, hj => absurd hj (by simp [exprTy, rowTy])⟩
set_option maxRecDepth 100000 in
theorem flat_Expr {n : Nat} {cs : List Value} {y : DataW H × List MemPlace} (h : DataW.trod enc Try.prog W 0 (fun _ => true) true n 50 cs = some y) : Cells enc W exprTy n cs := by
  obtain ⟨xs, n', rfl, -, hl, hlen, hi⟩ := DataW.trod_struct Try.underlying50 h
  have hc : Try.prog.cellsOf 50 = 10 := by kernel_rfl
  have k_bool : Try.prog.cellsOf 4 = 1 := by kernel_rfl
  have k_exprs : Try.prog.cellsOf 24 = 1 := by kernel_rfl
  have k_int : Try.prog.cellsOf 3 = 1 := by kernel_rfl
  have k_queries : Try.prog.cellsOf 48 = 1 := by kernel_rfl
  have k_str : Try.prog.cellsOf 9 = 1 := by kernel_rfl
  have k_Value : Try.prog.cellsOf 47 = 3 := by kernel_rfl
  have hx : ∀ i, i < 8 → ∃ y, xs[i]? = some y := fun i hi => ⟨xs[i]'(by have : xs.length = 8 := hlen; omega), List.getElem?_eq_getElem _⟩
  rw [hc] at hl
  match cs, hl with
  | [c0, c1, c2, c3, c4, c5, c6, c7, c8, c9], _ =>
    obtain ⟨y0, hy0⟩ := hx 0 (by decide)
    have e0 : DataW.trod enc Try.prog W 0 (fun _ => true) true n' 3 [c0] = some y0 := by
      have h := hi 0 _ rfl
      rw [hy0] at h
      simpa [k_int] using h
    obtain ⟨y1, hy1⟩ := hx 1 (by decide)
    have e1 : DataW.trod enc Try.prog W 0 (fun _ => true) true n' 3 [c1] = some y1 := by
      have h := hi 1 _ rfl
      rw [hy1] at h
      simpa [k_int] using h
    obtain ⟨y2, hy2⟩ := hx 2 (by decide)
    have e2 : DataW.trod enc Try.prog W 0 (fun _ => true) true n' 4 [c2] = some y2 := by
      have h := hi 2 _ rfl
      rw [hy2] at h
      simpa [k_bool] using h
    obtain ⟨y3, hy3⟩ := hx 3 (by decide)
    have e3 : DataW.trod enc Try.prog W 0 (fun _ => true) true n' 47 [c3, c4, c5] = some y3 := by
      have h := hi 3 _ rfl
      rw [hy3] at h
      simpa [k_Value] using h
    have q3 := flat_Value e3
    obtain ⟨y4, hy4⟩ := hx 4 (by decide)
    have e4 : DataW.trod enc Try.prog W 0 (fun _ => true) true n' 9 [c6] = some y4 := by
      have h := hi 4 _ rfl
      rw [hy4] at h
      simpa [k_str] using h
    obtain ⟨y5, hy5⟩ := hx 5 (by decide)
    have e5 : DataW.trod enc Try.prog W 0 (fun _ => true) true n' 9 [c7] = some y5 := by
      have h := hi 5 _ rfl
      rw [hy5] at h
      simpa [k_str] using h
    obtain ⟨y6, hy6⟩ := hx 6 (by decide)
    have e6 : DataW.trod enc Try.prog W 0 (fun _ => true) true n' 24 [c8] = some y6 := by
      have h := hi 6 _ rfl
      rw [hy6] at h
      simpa [k_exprs] using h
    obtain ⟨y7, hy7⟩ := hx 7 (by decide)
    have e7 : DataW.trod enc Try.prog W 0 (fun _ => true) true n' 48 [c9] = some y7 := by
      have h := hi 7 _ rfl
      rw [hy7] at h
      simpa [k_queries] using h
    exact ⟨rfl, fun j hj => match j, hj with
      | 0, _ => ⟨n', y0, Nat.lt_succ_self _, e0⟩
      | 1, _ => ⟨n', y1, Nat.lt_succ_self _, e1⟩
      | 2, _ => ⟨n', y2, Nat.lt_succ_self _, e2⟩
      | 3, _ => by obtain ⟨m, y, hm, ht⟩ := q3.2 0 (by decide); exact ⟨m, y, by omega, ht⟩
      | 4, _ => by obtain ⟨m, y, hm, ht⟩ := q3.2 1 (by decide); exact ⟨m, y, by omega, ht⟩
      | 5, _ => by obtain ⟨m, y, hm, ht⟩ := q3.2 2 (by decide); exact ⟨m, y, by omega, ht⟩
      | 6, _ => ⟨n', y4, Nat.lt_succ_self _, e4⟩
      | 7, _ => ⟨n', y5, Nat.lt_succ_self _, e5⟩
      | 8, _ => ⟨n', y6, Nat.lt_succ_self _, e6⟩
      | 9, _ => ⟨n', y7, Nat.lt_succ_self _, e7⟩
      | j + 10, hj => absurd hj (by simp [exprTy, rowTy])⟩
set_option maxRecDepth 100000 in
theorem flat_Item {n : Nat} {cs : List Value} {y : DataW H × List MemPlace} (h : DataW.trod enc Try.prog W 0 (fun _ => true) true n 137 cs = some y) : Cells enc W (rowTy .items) n cs := by
  obtain ⟨xs, n', rfl, -, hl, hlen, hi⟩ := DataW.trod_struct Try.underlying137 h
  have hc : Try.prog.cellsOf 137 = 13 := by kernel_rfl
  have k_bool : Try.prog.cellsOf 4 = 1 := by kernel_rfl
  have k_str : Try.prog.cellsOf 9 = 1 := by kernel_rfl
  have k_Expr : Try.prog.cellsOf 50 = 10 := by kernel_rfl
  have hx : ∀ i, i < 4 → ∃ y, xs[i]? = some y := fun i hi => ⟨xs[i]'(by have : xs.length = 4 := hlen; omega), List.getElem?_eq_getElem _⟩
  rw [hc] at hl
  match cs, hl with
  | [c0, c1, c2, c3, c4, c5, c6, c7, c8, c9, c10, c11, c12], _ =>
    obtain ⟨y0, hy0⟩ := hx 0 (by decide)
    have e0 : DataW.trod enc Try.prog W 0 (fun _ => true) true n' 4 [c0] = some y0 := by
      have h := hi 0 _ rfl
      rw [hy0] at h
      simpa [k_bool] using h
    obtain ⟨y1, hy1⟩ := hx 1 (by decide)
    have e1 : DataW.trod enc Try.prog W 0 (fun _ => true) true n' 9 [c1] = some y1 := by
      have h := hi 1 _ rfl
      rw [hy1] at h
      simpa [k_str] using h
    obtain ⟨y2, hy2⟩ := hx 2 (by decide)
    have e2 : DataW.trod enc Try.prog W 0 (fun _ => true) true n' 50 [c2, c3, c4, c5, c6, c7, c8, c9, c10, c11] = some y2 := by
      have h := hi 2 _ rfl
      rw [hy2] at h
      simpa [k_Expr] using h
    have q2 := flat_Expr e2
    obtain ⟨y3, hy3⟩ := hx 3 (by decide)
    have e3 : DataW.trod enc Try.prog W 0 (fun _ => true) true n' 9 [c12] = some y3 := by
      have h := hi 3 _ rfl
      rw [hy3] at h
      simpa [k_str] using h
    exact ⟨rfl, fun j hj => match j, hj with
      | 0, _ => ⟨n', y0, Nat.lt_succ_self _, e0⟩
      | 1, _ => ⟨n', y1, Nat.lt_succ_self _, e1⟩
      | 2, _ => by obtain ⟨m, y, hm, ht⟩ := q2.2 0 (by decide); exact ⟨m, y, by omega, ht⟩
      | 3, _ => by obtain ⟨m, y, hm, ht⟩ := q2.2 1 (by decide); exact ⟨m, y, by omega, ht⟩
      | 4, _ => by obtain ⟨m, y, hm, ht⟩ := q2.2 2 (by decide); exact ⟨m, y, by omega, ht⟩
      | 5, _ => by obtain ⟨m, y, hm, ht⟩ := q2.2 3 (by decide); exact ⟨m, y, by omega, ht⟩
      | 6, _ => by obtain ⟨m, y, hm, ht⟩ := q2.2 4 (by decide); exact ⟨m, y, by omega, ht⟩
      | 7, _ => by obtain ⟨m, y, hm, ht⟩ := q2.2 5 (by decide); exact ⟨m, y, by omega, ht⟩
      | 8, _ => by obtain ⟨m, y, hm, ht⟩ := q2.2 6 (by decide); exact ⟨m, y, by omega, ht⟩
      | 9, _ => by obtain ⟨m, y, hm, ht⟩ := q2.2 7 (by decide); exact ⟨m, y, by omega, ht⟩
      | 10, _ => by obtain ⟨m, y, hm, ht⟩ := q2.2 8 (by decide); exact ⟨m, y, by omega, ht⟩
      | 11, _ => by obtain ⟨m, y, hm, ht⟩ := q2.2 9 (by decide); exact ⟨m, y, by omega, ht⟩
      | 12, _ => ⟨n', y3, Nat.lt_succ_self _, e3⟩
      | j + 13, hj => absurd hj (by simp [exprTy, rowTy])⟩
set_option maxRecDepth 100000 in
theorem flat_Source {n : Nat} {cs : List Value} {y : DataW H × List MemPlace} (h : DataW.trod enc Try.prog W 0 (fun _ => true) true n 140 cs = some y) : Cells enc W (rowTy .sources) n cs := by
  obtain ⟨xs, n', rfl, -, hl, hlen, hi⟩ := DataW.trod_struct Try.underlying140 h
  have hc : Try.prog.cellsOf 140 = 3 := by kernel_rfl
  have k_exprs : Try.prog.cellsOf 24 = 1 := by kernel_rfl
  have k_str : Try.prog.cellsOf 9 = 1 := by kernel_rfl
  have hx : ∀ i, i < 3 → ∃ y, xs[i]? = some y := fun i hi => ⟨xs[i]'(by have : xs.length = 3 := hlen; omega), List.getElem?_eq_getElem _⟩
  rw [hc] at hl
  match cs, hl with
  | [c0, c1, c2], _ =>
    obtain ⟨y0, hy0⟩ := hx 0 (by decide)
    have e0 : DataW.trod enc Try.prog W 0 (fun _ => true) true n' 9 [c0] = some y0 := by
      have h := hi 0 _ rfl
      rw [hy0] at h
      simpa [k_str] using h
    obtain ⟨y1, hy1⟩ := hx 1 (by decide)
    have e1 : DataW.trod enc Try.prog W 0 (fun _ => true) true n' 9 [c1] = some y1 := by
      have h := hi 1 _ rfl
      rw [hy1] at h
      simpa [k_str] using h
    obtain ⟨y2, hy2⟩ := hx 2 (by decide)
    have e2 : DataW.trod enc Try.prog W 0 (fun _ => true) true n' 24 [c2] = some y2 := by
      have h := hi 2 _ rfl
      rw [hy2] at h
      simpa [k_exprs] using h
    exact ⟨rfl, fun j hj => match j, hj with
      | 0, _ => ⟨n', y0, Nat.lt_succ_self _, e0⟩
      | 1, _ => ⟨n', y1, Nat.lt_succ_self _, e1⟩
      | 2, _ => ⟨n', y2, Nat.lt_succ_self _, e2⟩
      | j + 3, hj => absurd hj (by simp [exprTy, rowTy])⟩
set_option maxRecDepth 100000 in
theorem flat_SortKey {n : Nat} {cs : List Value} {y : DataW H × List MemPlace} (h : DataW.trod enc Try.prog W 0 (fun _ => true) true n 143 cs = some y) : Cells enc W (rowTy .keys) n cs := by
  obtain ⟨xs, n', rfl, -, hl, hlen, hi⟩ := DataW.trod_struct Try.underlying143 h
  have hc : Try.prog.cellsOf 143 = 11 := by kernel_rfl
  have k_bool : Try.prog.cellsOf 4 = 1 := by kernel_rfl
  have k_Expr : Try.prog.cellsOf 50 = 10 := by kernel_rfl
  have hx : ∀ i, i < 2 → ∃ y, xs[i]? = some y := fun i hi => ⟨xs[i]'(by have : xs.length = 2 := hlen; omega), List.getElem?_eq_getElem _⟩
  rw [hc] at hl
  match cs, hl with
  | [c0, c1, c2, c3, c4, c5, c6, c7, c8, c9, c10], _ =>
    obtain ⟨y0, hy0⟩ := hx 0 (by decide)
    have e0 : DataW.trod enc Try.prog W 0 (fun _ => true) true n' 50 [c0, c1, c2, c3, c4, c5, c6, c7, c8, c9] = some y0 := by
      have h := hi 0 _ rfl
      rw [hy0] at h
      simpa [k_Expr] using h
    have q0 := flat_Expr e0
    obtain ⟨y1, hy1⟩ := hx 1 (by decide)
    have e1 : DataW.trod enc Try.prog W 0 (fun _ => true) true n' 4 [c10] = some y1 := by
      have h := hi 1 _ rfl
      rw [hy1] at h
      simpa [k_bool] using h
    exact ⟨rfl, fun j hj => match j, hj with
      | 0, _ => by obtain ⟨m, y, hm, ht⟩ := q0.2 0 (by decide); exact ⟨m, y, by omega, ht⟩
      | 1, _ => by obtain ⟨m, y, hm, ht⟩ := q0.2 1 (by decide); exact ⟨m, y, by omega, ht⟩
      | 2, _ => by obtain ⟨m, y, hm, ht⟩ := q0.2 2 (by decide); exact ⟨m, y, by omega, ht⟩
      | 3, _ => by obtain ⟨m, y, hm, ht⟩ := q0.2 3 (by decide); exact ⟨m, y, by omega, ht⟩
      | 4, _ => by obtain ⟨m, y, hm, ht⟩ := q0.2 4 (by decide); exact ⟨m, y, by omega, ht⟩
      | 5, _ => by obtain ⟨m, y, hm, ht⟩ := q0.2 5 (by decide); exact ⟨m, y, by omega, ht⟩
      | 6, _ => by obtain ⟨m, y, hm, ht⟩ := q0.2 6 (by decide); exact ⟨m, y, by omega, ht⟩
      | 7, _ => by obtain ⟨m, y, hm, ht⟩ := q0.2 7 (by decide); exact ⟨m, y, by omega, ht⟩
      | 8, _ => by obtain ⟨m, y, hm, ht⟩ := q0.2 8 (by decide); exact ⟨m, y, by omega, ht⟩
      | 9, _ => by obtain ⟨m, y, hm, ht⟩ := q0.2 9 (by decide); exact ⟨m, y, by omega, ht⟩
      | 10, _ => ⟨n', y1, Nat.lt_succ_self _, e1⟩
      | j + 11, hj => absurd hj (by simp [exprTy, rowTy])⟩
set_option maxRecDepth 100000 in
theorem flat_Query {n : Nat} {cs : List Value} {y : DataW H × List MemPlace} (h : DataW.trod enc Try.prog W 0 (fun _ => true) true n 27 cs = some y) : Cells enc W (rowTy .queries) n cs := by
  obtain ⟨xs, n', rfl, -, hl, hlen, hi⟩ := DataW.trod_struct Try.underlying27 h
  have hc : Try.prog.cellsOf 27 = 6 := by kernel_rfl
  have k_bool : Try.prog.cellsOf 4 = 1 := by kernel_rfl
  have k_exprs : Try.prog.cellsOf 24 = 1 := by kernel_rfl
  have k_int : Try.prog.cellsOf 3 = 1 := by kernel_rfl
  have k_items : Try.prog.cellsOf 22 = 1 := by kernel_rfl
  have k_keys : Try.prog.cellsOf 25 = 1 := by kernel_rfl
  have k_sources : Try.prog.cellsOf 23 = 1 := by kernel_rfl
  have hx : ∀ i, i < 6 → ∃ y, xs[i]? = some y := fun i hi => ⟨xs[i]'(by have : xs.length = 6 := hlen; omega), List.getElem?_eq_getElem _⟩
  rw [hc] at hl
  match cs, hl with
  | [c0, c1, c2, c3, c4, c5], _ =>
    obtain ⟨y0, hy0⟩ := hx 0 (by decide)
    have e0 : DataW.trod enc Try.prog W 0 (fun _ => true) true n' 4 [c0] = some y0 := by
      have h := hi 0 _ rfl
      rw [hy0] at h
      simpa [k_bool] using h
    obtain ⟨y1, hy1⟩ := hx 1 (by decide)
    have e1 : DataW.trod enc Try.prog W 0 (fun _ => true) true n' 22 [c1] = some y1 := by
      have h := hi 1 _ rfl
      rw [hy1] at h
      simpa [k_items] using h
    obtain ⟨y2, hy2⟩ := hx 2 (by decide)
    have e2 : DataW.trod enc Try.prog W 0 (fun _ => true) true n' 23 [c2] = some y2 := by
      have h := hi 2 _ rfl
      rw [hy2] at h
      simpa [k_sources] using h
    obtain ⟨y3, hy3⟩ := hx 3 (by decide)
    have e3 : DataW.trod enc Try.prog W 0 (fun _ => true) true n' 24 [c3] = some y3 := by
      have h := hi 3 _ rfl
      rw [hy3] at h
      simpa [k_exprs] using h
    obtain ⟨y4, hy4⟩ := hx 4 (by decide)
    have e4 : DataW.trod enc Try.prog W 0 (fun _ => true) true n' 25 [c4] = some y4 := by
      have h := hi 4 _ rfl
      rw [hy4] at h
      simpa [k_keys] using h
    obtain ⟨y5, hy5⟩ := hx 5 (by decide)
    have e5 : DataW.trod enc Try.prog W 0 (fun _ => true) true n' 3 [c5] = some y5 := by
      have h := hi 5 _ rfl
      rw [hy5] at h
      simpa [k_int] using h
    exact ⟨rfl, fun j hj => match j, hj with
      | 0, _ => ⟨n', y0, Nat.lt_succ_self _, e0⟩
      | 1, _ => ⟨n', y1, Nat.lt_succ_self _, e1⟩
      | 2, _ => ⟨n', y2, Nat.lt_succ_self _, e2⟩
      | 3, _ => ⟨n', y3, Nat.lt_succ_self _, e3⟩
      | 4, _ => ⟨n', y4, Nat.lt_succ_self _, e4⟩
      | 5, _ => ⟨n', y5, Nat.lt_succ_self _, e5⟩
      | j + 6, hj => absurd hj (by simp [exprTy, rowTy])⟩

/-- one slice's elements, as cells -/
theorem rows_flat {ty : Ty} (hd : tree ty = true) : ∃ e : TypeId, Try.prog.underlying (tid ty) = some (.slice e) ∧ Try.prog.cellsOf e = (rowTy ty).length ∧
    ∀ {n : Nat} {cs : List Value} {y : DataW H × List MemPlace}, DataW.trod enc Try.prog W 0 (fun _ => true) true n e cs = some y → Cells enc W (rowTy ty) n cs := by
  cases ty
  case int => cases hd
  case bool => cases hd
  case str => cases hd
  case rows => cases hd
  case names => cases hd
  case exprs => exact ⟨50, Try.underlying24, by kernel_rfl, fun h => flat_Expr h⟩
  case items => exact ⟨137, Try.underlying22, by kernel_rfl, fun h => flat_Item h⟩
  case sources => exact ⟨140, Try.underlying23, by kernel_rfl, fun h => flat_Source h⟩
  case keys => exact ⟨143, Try.underlying25, by kernel_rfl, fun h => flat_SortKey h⟩
  case queries => exact ⟨27, Try.underlying48, by kernel_rfl, fun h => flat_Query h⟩

theorem add_none {g o i : Nat} : (Addr.mk g o none).add i = ⟨g, o + i, none⟩ := by
  unfold Addr.add
  split <;> simp_all
/-- whatever has come in as one of the type reads as a datum of it -/
theorem cell_dat : ∀ (n : Nat) (ty : Ty) (x : Value) (y : DataW H × List MemPlace), plainTy ty = true → DataW.trod enc Try.prog W 0 (fun _ => true) true n (tid ty) [x] = some y → ∃ d, Rd W 0 x d ∧ Fits d ty := by
  intro n
  induction n using Nat.strongRecOn with
  | _ n ih =>
    intro ty x y hp h
    by_cases hd : tree ty = true
    · have hdp : deep ty = true := by cases ty <;> first | (cases hd; done) | rfl
      have hpr := List.all_eq_true.1 (plain_row hd)
      obtain ⟨e, hu, hk, hflat⟩ := rows_flat (H := H) (enc := enc) (W := W) hd
      have hk0 : 0 < (rowTy ty).length := by cases ty <;> first | (cases hd; done) | decide
      rcases DataW.trod_slice hu h with ⟨hcs, _⟩ | ⟨ad, len, cap, elems, rest, n', rfl, hcs, _, _, hlc, hcm, hel, hi, _, _⟩
      · obtain rfl : x = .slice none 0 0 := by simpa using hcs
        refine ⟨.sl 0 (rowTy ty).length fun _ _ => .v undef, ⟨none, 0, rfl, Nat.le_refl _, fun _ => rfl, .inl rfl⟩, ?_⟩
        exact ⟨hdp, by omega, rfl, fun i hi => by omega⟩
      · obtain rfl : x = .slice (some ad) len cap := by simpa using hcs
        have row : ∀ i, i < len → ∃ cs', W.cells? 0 (ad.add (i * (rowTy ty).length)) (rowTy ty).length = some cs' ∧ Cells enc W (rowTy ty) n' cs' := fun i hil => by
          have h1 := hi i hil
          rw [List.getElem?_eq_getElem (by omega), Option.bind_eq_some_iff, hk] at h1
          obtain ⟨cs', h2, h3⟩ := h1
          exact ⟨cs', h2, hflat h3⟩
        obtain ⟨g, o, spot⟩ := ad
        have hsp : 0 < len → spot = none := fun h0 => by
          obtain ⟨cs', h2, h3⟩ := row 0 h0
          obtain ⟨_, hl, hat⟩ := World.cells?_some h2
          have c0 := hat 0 hk0
          have e0 : ((Addr.mk g o spot).add (0 * (rowTy ty).length)).add 0 = Addr.mk g o spot := by unfold Addr.add; simp
          rw [e0, List.getElem?_eq_getElem (by omega)] at c0
          simpa using World.cell?_spot c0
        have key : ∀ i, i < len → ∃ F : Nat → Dat, ∀ j (hj : j < (rowTy ty).length), ∃ y, W.cell? ⟨g, o + i * (rowTy ty).length + j, none⟩ = some y ∧ Rd W 0 y (F j) ∧ Fits (F j) ((rowTy ty)[j]) := fun i hil => by
          obtain ⟨cs', h2, h3⟩ := row i hil
          have hs := hsp (by omega)
          subst hs
          obtain ⟨_, hl, hat⟩ := World.cells?_some h2
          have one : ∀ j (hj : j < (rowTy ty).length), ∃ d, Rd W 0 (cs'.getD j undef) d ∧ Fits d ((rowTy ty)[j]) := fun j hj => by
            obtain ⟨m, y, hm, ht⟩ := h3.2 j hj
            exact ih m (by omega) _ _ _ (hpr _ (List.getElem_mem hj)) ht
          refine ⟨fun j => if hj : j < (rowTy ty).length then Classical.choose (one j hj) else .v undef, fun j hj => ⟨cs'.getD j undef, ?_, ?_⟩⟩
          · have c := hat j hj
            rw [add_none, add_none] at c
            rw [c, List.getElem?_eq_getElem (by omega), List.getD_eq_getElem?_getD, List.getElem?_eq_getElem (by omega)]
            rfl
          · simp only [dif_pos hj]
            exact Classical.choose_spec (one j hj)
        refine ⟨.sl len (rowTy ty).length fun i => if hil : i < len then Classical.choose (key i hil) else fun _ => .v undef, ?_, ?_⟩
        · refine ⟨some ⟨g, o, spot⟩, cap, rfl, hlc, (fun h => by cases h), ?_⟩
          by_cases h0 : len = 0
          · exact .inl h0
          · refine .inr ?_
            have hs := hsp (by omega)
            subst hs
            have lt : g < W.heap.size := by
              obtain ⟨y, hy, _⟩ := Classical.choose_spec (key 0 (by omega)) 0 hk0
              rcases Nat.lt_or_ge g W.heap.size with hb | hb
              · exact hb
              · exfalso
                have : W.heap[g]? = none := Array.getElem?_eq_none hb
                simp [World.cell?, this] at hy
            refine ⟨g, o, rfl, Nat.zero_le _, lt, fun i hil j hj => ?_⟩
            obtain ⟨y, hy, hr, _⟩ := Classical.choose_spec (key i hil) j hj
            exact ⟨y, hy, by simp only [dif_pos hil]; exact hr⟩
        · refine ⟨hdp, by unfold maxLen at hcm; omega, rfl, fun i hil j hj => ?_⟩
          obtain ⟨y, hy, _, hf⟩ := Classical.choose_spec (key i hil) j hj
          simp only [dif_pos hil]; exact hf
    · cases ty
      case int =>
        obtain ⟨k, hk, -, hw⟩ := DataW.trod_int Try.underlying3 h
        obtain rfl : x = .int .i64 k := by simpa using hk
        exact ⟨.v (.int .i64 k), rfl, k, rfl, i64_bds hw⟩
      case bool =>
        obtain ⟨b, hb, -⟩ := DataW.trod_bool Try.underlying4 h
        obtain rfl : x = .bool b := by simpa using hb
        exact ⟨.v (.bool b), rfl, b, rfl⟩
      case str =>
        obtain ⟨b, hb, -, hw⟩ := DataW.trod_string Try.underlying9 h
        obtain rfl : x = .string b := by simpa using hb
        exact ⟨.v (.string b), rfl, b, rfl, hw⟩
      all_goals first | exact absurd rfl hd | cases hp
end
end Go.Proofs.Ytfmgkinindkedaa
