/- Joined texts: ExStmW. -/
import Derived.Test.YtfmgkinindkedaaQSTH
import Derived.Test.YtfmgkinindkedaaQSUJ
/- The exact laws of StmtDepth and StmtSize at any statement. -/
namespace Go.Proofs.Ytfmgkinindkedaa
open Go.RowKit
/-- a statement as the contracts take it -/
def stOf (c0 : Int) (c1 : Bool) (c6 : Int) (c7 : ByteArray) (c : Nd) : Nd := fun j => match j with
  | 0 => .v (.int .i64 c0) | 1 => .v (.bool c1) | 6 => .v (.int .i64 c6) | 7 => .v (.string c7) | j => c j
theorem stOf_exprs {c0 : Int} {c1 : Bool} {c6 : Int} {c7 : ByteArray} {c : Nd} : stmtExprs (stOf c0 c1 c6 c7 c) = stmtExprs c := rfl
theorem stOf_out {c0 : Int} {c1 : Bool} {c6 : Int} {c7 : ByteArray} {c : Nd} {x2 x3 x4 x5 x8 x9 x10 x11 : Value} {w : World} (b0 : I64 c0) (b6 : I64 c6) (b7 : c7.size ≤ 9223372036854775807)
    (r2 : Rd w 0 x2 (c 2)) (q2 : Fits (c 2) .items) (r3 : Rd w 0 x3 (c 3)) (q3 : Fits (c 3) .sources) (r4 : Rd w 0 x4 (c 4)) (q4 : Fits (c 4) .exprs) (r5 : Rd w 0 x5 (c 5)) (q5 : Fits (c 5) .keys)
    (r8 : Rd w 0 x8 (c 8)) (q8 : Fits (c 8) .rows) (r9 : Rd w 0 x9 (c 9)) (q9 : Fits (c 9) .names) (r10 : Rd w 0 x10 (c 10)) (q10 : Fits (c 10) .exprs) (r11 : Rd w 0 x11 (c 11)) (q11 : Fits (c 11) .exprs) :
    OutK stTy w [.int .i64 c0, .bool c1, x2, x3, x4, x5, .int .i64 c6, .string c7, x8, x9, x10, x11] [stOf c0 c1 c6 c7 c] := OutK.one rfl (fun m hm => match m, hm with
  | 0, _ => ⟨_, rfl, rfl, ⟨_, rfl, b0⟩⟩
  | 1, _ => ⟨_, rfl, rfl, ⟨_, rfl⟩⟩
  | 2, _ => ⟨_, rfl, r2, q2⟩
  | 3, _ => ⟨_, rfl, r3, q3⟩
  | 4, _ => ⟨_, rfl, r4, q4⟩
  | 5, _ => ⟨_, rfl, r5, q5⟩
  | 6, _ => ⟨_, rfl, rfl, ⟨_, rfl, b6⟩⟩
  | 7, _ => ⟨_, rfl, rfl, ⟨_, rfl, b7⟩⟩
  | 8, _ => ⟨_, rfl, r8, q8⟩
  | 9, _ => ⟨_, rfl, r9, q9⟩
  | 10, _ => ⟨_, rfl, r10, q10⟩
  | 11, _ => ⟨_, rfl, r11, q11⟩
  | m + 12, hm => absurd hm (by simp [stTy]))
theorem exw_StmtSize (c : Nat → Dat) (c0 : Int) (c1 : Bool) (c2 c3 c4 c5 : Value) (c6 : Int) (c7 : ByteArray) (c8 c9 c10 c11 : Value) (w : World)
    (r2 : Rd w 0 c2 (c 2)) (q2 : Fits (c 2) .items) (r3 : Rd w 0 c3 (c 3)) (q3 : Fits (c 3) .sources) (r4 : Rd w 0 c4 (c 4)) (q4 : Fits (c 4) .exprs) (r5 : Rd w 0 c5 (c 5)) (q5 : Fits (c 5) .keys) (r8 : Rd w 0 c8 (c 8)) (q8 : Fits (c 8) .rows) (r9 : Rd w 0 c9 (c 9)) (q9 : Fits (c 9) .names) (r10 : Rd w 0 c10 (c 10)) (q10 : Fits (c 10) .exprs) (r11 : Rd w 0 c11 (c 11)) (q11 : Fits (c 11) .exprs) (b0 : I64 c0) (b6 : I64 c6) (b7 : c7.size ≤ 9223372036854775807) :
    Calls Try.prog 3 #[.agg #[.int .i64 c0, .bool c1, c2, c3, c4, c5, .int .i64 c6, .string c7, c8, c9, c10, c11]] w (BoolE true w) := by
  refine ex_StmtSize ((sizA.of ((stmtExprs c).map (foldE sizA)) : Nat) : Int) c c0 c1 c2 c3 c4 c5 c6 c7 c8 c9 c10 c11 w r2 q2 r3 q3 r4 q4 r5 q5 r8 q8 r9 q9 r10 q10 r11 q11 b7 ?_ ?_
  · intro m X2 X3 X4 X5 X8 X9 X10 X11 v e2 e3 e4 e5 e8 e9 e10 e11
    exact StmtSize_spec c c0 c1 X2 X3 X4 X5 c6 c7 X8 X9 X10 X11 v e2 e3 e4 e5 e8 e10 e11 ⟨⟨q2, q3, q4, q5⟩, q8, q9, q10, q11, m⟩
  · intro m X2 X3 X4 X5 X8 X9 X10 X11 v e2 e3 e4 e5 e8 e9 e10 e11
    rw [← stOf_exprs (c0 := c0) (c1 := c1) (c6 := c6) (c7 := c7) (c := c)]
    exact StmtSize_any v v (stOf c0 c1 c6 c7 c) _ (stOf_out b0 b6 b7 e2 q2 e3 q3 e4 q4 e5 q5 e8 q8 e9 q9 e10 q10 e11 q11) (Below.refl _ _) ⟨⟨q2, q3, q4, q5⟩, q8, q9, q10, q11, m⟩
end Go.Proofs.Ytfmgkinindkedaa
