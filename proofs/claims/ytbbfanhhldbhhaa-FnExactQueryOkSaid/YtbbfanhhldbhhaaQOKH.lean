/- Joined texts: QdOf ExOkW. -/
import Derived.Test.YtbbfanhhldbhhaaQGBC
import Derived.Test.YtbbfanhhldbhhaaQHExOk
import Derived.Test.YtbbfanhhldbhhaaQOKG
/- A query as the contracts take it. -/
namespace Go.Proofs.Ytbbfanhhldbhhaa
open Go.RowKit

/-- a query as the contracts take it -/
def qdOf (c0 : Bool) (c5 : Int) (c : Nd) : Nd := fun j => match j with
  | 0 => .v (.bool c0) | 5 => .v (.int .i64 c5) | j => c j
theorem qdOf_out {c0 : Bool} {c5 : Int} {c : Nd} {x1 x2 x3 x4 : Value} {w : World} (b5 : I64 c5)
    (r1 : Rd w 0 x1 (c 1)) (q1 : Fits (c 1) .items) (r2 : Rd w 0 x2 (c 2)) (q2 : Fits (c 2) .sources) (r3 : Rd w 0 x3 (c 3)) (q3 : Fits (c 3) .exprs) (r4 : Rd w 0 x4 (c 4)) (q4 : Fits (c 4) .keys) :
    OutK (rowTy .queries) w [.bool c0, x1, x2, x3, x4, .int .i64 c5] [qdOf c0 c5 c] := OutK.one rfl (fun m hm => match m, hm with
  | 0, _ => ⟨_, rfl, rfl, ⟨_, rfl⟩⟩
  | 1, _ => ⟨_, rfl, r1, q1⟩
  | 2, _ => ⟨_, rfl, r2, q2⟩
  | 3, _ => ⟨_, rfl, r3, q3⟩
  | 4, _ => ⟨_, rfl, r4, q4⟩
  | 5, _ => ⟨_, rfl, rfl, ⟨_, rfl, b5⟩⟩
  | m + 6, hm => absurd hm (by simp [rowTy]))
end Go.Proofs.Ytbbfanhhldbhhaa

/- The exact laws of ExprOk and QueryOk at any tree. -/
namespace Go.Proofs.Ytbbfanhhldbhhaa
open Go.RowKit

theorem exw_ExprOk (c : Nat → Dat) (c0 c1 : Int) (c2 : Bool) (c3 c4 : Int) (c5 c6 c7 : ByteArray) (c8 c9 : Value) (w : World)
    (r8 : Rd w 0 c8 (c 8)) (q8 : Fits (c 8) .exprs) (r9 : Rd w 0 c9 (c 9)) (q9 : Fits (c 9) .queries) (b0 : I64 c0) (b1 : I64 c1) (b3 : I64 c3) (b4 : I64 c4) (b5 : c5.size ≤ 9223372036854775807) (b6 : c6.size ≤ 9223372036854775807) (b7 : c7.size ≤ 9223372036854775807) :
    Calls Try.prog 3 #[.agg #[.int .i64 c0, .int .i64 c1, .bool c2, .int .i64 c3, .int .i64 c4, .string c5, .string c6, .string c7, c8, c9]] w (BoolE true w) := by
  refine ex_ExprOk (listOk [ndOf c0 c1 c2 c3 c4 c5 c6 c7 c]) c c0 c1 c2 c3 c4 c5 c6 c7 c8 c9 w r8 q8 r9 q9 b5 b6 b7 ?_ ?_
  · intro m X8 X9 v e8 e9
    exact exprOk_spec (ndOf c0 c1 c2 c3 c4 c5 c6 c7 c) c0 c1 c2 c3 c4 c5 c6 c7 X8 X9 v rfl rfl rfl rfl rfl rfl rfl rfl b5 b6 b7 e8 e9 ⟨by show msr (c 8) ≤ _; omega, by show msr (c 9) ≤ _; omega, q8, q9⟩
  · intro m X8 X9 v e8 e9
    exact ExprOk_any v _ _ v (ndOf_out b0 b1 b3 b4 b5 b6 b7 e8 q8 e9 q9) (Below.refl _ _) ⟨by show msr (c 8) ≤ _; omega, by show msr (c 9) ≤ _; omega, q8, q9⟩ (by show msr (c 8) + msr (c 9) + 1 ≤ _; omega)
theorem exw_QueryOk (c : Nat → Dat) (c0 : Bool) (c1 c2 c3 c4 : Value) (c5 : Int) (w : World)
    (r1 : Rd w 0 c1 (c 1)) (q1 : Fits (c 1) .items) (r2 : Rd w 0 c2 (c 2)) (q2 : Fits (c 2) .sources) (r3 : Rd w 0 c3 (c 3)) (q3 : Fits (c 3) .exprs) (r4 : Rd w 0 c4 (c 4)) (q4 : Fits (c 4) .keys) (b5 : I64 c5) :
    Calls Try.prog 4 #[.agg #[.bool c0, c1, c2, c3, c4, .int .i64 c5]] w (BoolE true w) := by
  refine ex_QueryOk (queryOk (qdOf c0 c5 c)) c c0 c1 c2 c3 c4 c5 w r1 q1 r2 q2 r3 q3 r4 q4 ?_ ?_
  · intro m X1 X2 X3 X4 v e1 e2 e3 e4
    exact queryOk_spec (qdOf c0 c5 c) c0 X1 X2 X3 X4 c5 v rfl e1 e2 e3 e4 ⟨⟨q1, q2, q3, q4⟩, m⟩
  · intro m X1 X2 X3 X4 v e1 e2 e3 e4
    exact QueryOk_any v (qdOf c0 c5 c) _ v (qdOf_out b5 e1 q1 e2 q2 e3 q3 e4 q4) (Below.refl _ _) ⟨⟨q1, q2, q3, q4⟩, m⟩
end Go.Proofs.Ytbbfanhhldbhhaa
