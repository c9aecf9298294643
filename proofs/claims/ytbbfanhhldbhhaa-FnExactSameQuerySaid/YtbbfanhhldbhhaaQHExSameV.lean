/- Joined texts: ExSameV. -/
import Derived.Test.YtbbfanhhldbhhaaQHExSameQ
import Derived.Test.YtbbfanhhldbhhaaQHSameQX
import Derived.Test.YtbbfanhhldbhhaaQGBC
/- The exact law of SameQuery at any two queries. -/
namespace Go.Proofs.Ytbbfanhhldbhhaa
open Go.RowKit

/-- a query as the contracts take it -/
def qdOf (c0 : Bool) (c5 : Int) (c : Nd) : Nd := fun j => match j with
  | 0 => .v (.bool c0) | 5 => .v (.int .i64 c5) | j => c j
theorem qdOf_out {c0 : Bool} {c5 : Int} {c : Nd} {x1 x2 x3 x4 : Value} {w : World} (b5 : I64 c5)
    (r1 : Rd w 0 x1 (c 1)) (q1 : Fits (c 1) .items) (r2 : Rd w 0 x2 (c 2)) (q2 : Fits (c 2) .sources) (r3 : Rd w 0 x3 (c 3)) (q3 : Fits (c 3) .exprs) (r4 : Rd w 0 x4 (c 4)) (q4 : Fits (c 4) .keys) :
    OutK (rowTy .queries) w [.bool c0, x1, x2, x3, x4, .int .i64 c5] [qdOf c0 c5 c] := OutK.one rfl (fun m hm => match m, hm with
  | 0, _ => ⟨_, rfl, rfl, ⟨_, rfl⟩⟩
  | 1, _ => ⟨_, rfl, r1, q1⟩
  | 2, _ => ⟨_, rfl, r2, q2⟩
  | 3, _ => ⟨_, rfl, r3, q3⟩
  | 4, _ => ⟨_, rfl, r4, q4⟩
  | 5, _ => ⟨_, rfl, rfl, ⟨_, rfl, b5⟩⟩
  | m + 6, hm => absurd hm (by simp [rowTy]))
theorem exw_SameQuery (c d : Nat → Dat) (c0 : Bool) (c1 c2 c3 c4 : Value) (c5 : Int) (s0 : Bool) (s1 s2 s3 s4 : Value) (s5 : Int) (w : World)
    (r1 : Rd w 0 c1 (c 1)) (q1 : Fits (c 1) .items) (r2 : Rd w 0 c2 (c 2)) (q2 : Fits (c 2) .sources) (r3 : Rd w 0 c3 (c 3)) (q3 : Fits (c 3) .exprs) (r4 : Rd w 0 c4 (c 4)) (q4 : Fits (c 4) .keys) (b5 : I64 c5)
    (k1 : Rd w 0 s1 (d 1)) (l1 : Fits (d 1) .items) (k2 : Rd w 0 s2 (d 2)) (l2 : Fits (d 2) .sources) (k3 : Rd w 0 s3 (d 3)) (l3 : Fits (d 3) .exprs) (k4 : Rd w 0 s4 (d 4)) (l4 : Fits (d 4) .keys) (h5 : I64 s5) :
    Calls Try.prog 6 #[.agg #[.bool c0, c1, c2, c3, c4, .int .i64 c5], .agg #[.bool s0, s1, s2, s3, s4, .int .i64 s5]] w (BoolE true w) := by
  refine ex_SameQuery (sameC (rowTy .queries) (qdOf c0 c5 c) (qdOf s0 s5 d)) c d c0 c1 c2 c3 c4 c5 s0 s1 s2 s3 s4 s5 w r1 q1 r2 q2 r3 q3 r4 q4 k1 l1 k2 l2 k3 l3 k4 l4 ?_ ?_
  · intro X1 X2 X3 X4 Y1 Y2 Y3 Y4 v e1 e2 e3 e4 f1 f2 f3 f4
    exact sameQ_of (qdOf c0 c5 c) (qdOf s0 s5 d) (sameAll (c 1)).i (sameAll (c 2)).f (sameAll (c 3)).s (sameAll (c 4)).e c0 X1 X2 X3 X4 c5 s0 Y1 Y2 Y3 Y4 s5 v rfl rfl rfl rfl e1 q1 e2 q2 e3 q3 e4 q4 f1 l1 f2 l2 f3 l3 f4 l4
  · intro m m' X1 X2 X3 X4 Y1 Y2 Y3 Y4 v e1 e2 e3 e4 f1 f2 f3 f4
    exact SameQuery_any v (qdOf c0 c5 c) (qdOf s0 s5 d) _ _ v (qdOf_out b5 e1 q1 e2 q2 e3 q3 e4 q4) (qdOf_out h5 f1 l1 f2 l2 f3 l3 f4 l4) (Below.refl _ _) ⟨⟨q1, q2, q3, q4⟩, m⟩ ⟨⟨l1, l2, l3, l4⟩, m'⟩
end Go.Proofs.Ytbbfanhhldbhhaa
