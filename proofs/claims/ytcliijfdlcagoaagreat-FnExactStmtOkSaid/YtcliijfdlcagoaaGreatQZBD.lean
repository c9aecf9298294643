/- Joined texts: ExStOkW. -/
import Derived.Test.YtcliijfdlcagoaaGreatQZAH
import Derived.Test.YtcliijfdlcagoaaGreatQZBC
import Derived.Test.YtcliijfdlcagoaaGreatQZAZ
namespace Go.Proofs.YtcliijfdlcagoaaGreat
set_option linter.unusedVariables false
set_option linter.unusedSimpArgs false
open Go.RowKit
theorem exw_StmtOk (c : Nat → Dat) (c0 : Int) (c1 : Bool) (c2 c3 c4 c5 : Value) (c6 : Int) (c7 : ByteArray) (c8 c9 c10 c11 : Value) (w : World)
    (r2 : Rd w 0 c2 (c 2)) (q2 : Fits (c 2) .items) (r3 : Rd w 0 c3 (c 3)) (q3 : Fits (c 3) .sources) (r4 : Rd w 0 c4 (c 4)) (q4 : Fits (c 4) .exprs) (r5 : Rd w 0 c5 (c 5)) (q5 : Fits (c 5) .keys) (r8 : Rd w 0 c8 (c 8)) (q8 : Fits (c 8) .rows) (r9 : Rd w 0 c9 (c 9)) (q9 : Fits (c 9) .names) (r10 : Rd w 0 c10 (c 10)) (q10 : Fits (c 10) .exprs) (r11 : Rd w 0 c11 (c 11)) (q11 : Fits (c 11) .exprs) (b0 : I64 c0) (b6 : I64 c6) (b7 : c7.size ≤ 9223372036854775807) :
    Calls Tryz.prog 3 #[.agg #[.int .i64 c0, .bool c1, c2, c3, c4, c5, .int .i64 c6, .string c7, c8, c9, c10, c11]] w (BoolE true w) := by
  refine ex_StmtOk (stOk (stOf c0 c1 c6 c7 c)) c c0 c1 c2 c3 c4 c5 c6 c7 c8 c9 c10 c11 w r2 q2 r3 q3 r4 q4 r5 q5 r8 q8 r9 q9 r10 q10 r11 q11 b7 ?_ ?_
  · intro m X2 X3 X4 X5 X8 X9 X10 X11 v e2 e3 e4 e5 e8 e9 e10 e11
    have hs : BdS (stOf c0 c1 c6 c7 c) := ⟨⟨q2, q3, q4, q5⟩, q8, q9, q10, q11, m⟩
    rw [stOk_is hs ⟨_, rfl⟩ ⟨_, rfl, b6⟩ ⟨_, rfl, b7⟩]
    exact StmtOk_spec (stOf c0 c1 c6 c7 c) _ v (stOf_out b0 b6 b7 e2 q2 e3 q3 e4 q4 e5 q5 e8 q8 e9 q9 e10 q10 e11 q11) hs
  · intro m X2 X3 X4 X5 X8 X9 X10 X11 v e2 e3 e4 e5 e8 e9 e10 e11
    exact StmtOk_any v (stOf c0 c1 c6 c7 c) _ v (stOf_out b0 b6 b7 e2 q2 e3 q3 e4 q4 e5 q5 e8 q8 e9 q9 e10 q10 e11 q11) (Below.refl _ _) ⟨⟨q2, q3, q4, q5⟩, q8, q9, q10, q11, m⟩
end Go.Proofs.YtcliijfdlcagoaaGreat
