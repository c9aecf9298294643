
/- At any two statements (with more than 1048576 elements and bytes together the law returns true at once) the program's SameStmt returns what the model's returns, and leaves its arguments as they were; nothing that was there is changed. No condition. -/
import Derived.Test.YtfmgkinindkedaaRows
import Derived.Test.YtfmgkinindkedaaQSST
import Derived.Test.YtfmgkinindkedaaQSSU
import Derived.Test.YtfmgkinindkedaaQHJoin
import Derived.Lib.SmallJoins
import Derived.WalkKit
import Derived.ChangeOld
import Derived.Below
import Derived.ProofKit
import Derived.OpenShut
import Derived.ShutString
namespace Go.Proofs.Ytfmgkinindkedaa.fnExactSameStmt
open Go.ChangeShapes Go.WideShapes Go.ChangeAt Go.RowKit
open Go.ChangeMaps (open_string shut_string)
open Go.Joins
set_option linter.unusedVariables false

theorem own : ownKnob Try.prog.godebug = none := by kernel_rfl
theorem laidOut : laidOutB Try.prog = true := by kernel_rfl

set_option maxRecDepth 100000 in
theorem lifted (os : Os) (started : os.Started) (H : Type) (enc : TypeId × Value → H) :
    ReturnsInHanded {} Try.checked os 10 .any (Rows.fnExactSameStmtSpec.pre6 enc Try.prog Try.f10 Rows.fnExactSameStmtRow.domain false) (Rows.fnExactSameStmtSpec.post enc Try.prog Try.f10 false true false false) := by
  refine returnsInHanded_of_change (C := Try.checked) own started (by kernel_rfl) Try.func10
    (ChangeSpec.witness6 (enc := enc) (C := Try.checked) false ⟨#[], #[.agg #[.int .i64 0, .bool false, .slice none 0 0, .slice none 0 0, .slice none 0 0, .slice none 0 0, .int .i64 0, .string ByteArray.empty, .slice none 0 0, .slice none 0 0, .slice none 0 0, .slice none 0 0], .agg #[.int .i64 0, .bool false, .slice none 0 0, .slice none 0 0, .slice none 0 0, .slice none 0 0, .int .i64 0, .string ByteArray.empty, .slice none 0 0, .slice none 0 0, .slice none 0 0, .slice none 0 0]], []⟩ 8 (by kernel_rfl) (by kernel_rfl) (by kernel_rfl) (by kernel_rfl)) ?_
  intro W base args ds gs before hval0 hW hcnd _
  have hval : ∀ (j : Nat) t v, Try.f10.params[j]? = some t → args[j]? = some v → Value.okWide Try.prog W .any base t v := hval0
  have hW' := hW
  obtain ⟨p, q, hA0, hV, rfl, hfz, hnd⟩ := hW
  have hA : DataW.TrodAll enc Try.prog W 0 (fun _ => true) true Try.f10.params.toList args.toList ds p := hA0
  rw [Try.params10] at hA hval
  obtain ⟨v0, vs0, d0, ds0, p0, q0, hargs0, rfl, rfl, h0, r0⟩ := trodAll_cons hA
  obtain ⟨v1, vs1, d1, ds1, p1, q1, hargs1, rfl, rfl, h1, r1⟩ := trodAll_cons r0
  obtain ⟨rfl, rfl, rfl⟩ := trodAll_nil r1
  obtain rfl : args = #[v0, v1] := by cases args; simp_all
  obtain ⟨rfl, rfl⟩ := trodVars_none hV
  have e0 := h0
  have lt0 : ∀ x ∈ p0, x.block < W.heap.size := by obtain ⟨m, hm⟩ := e0; exact DataW.trod_lt m _ _ _ hm
  obtain ⟨c0_0, c0_1, c0_2, c0_3, c0_4, c0_5, c0_6, c0_7, c0_8, c0_9, c0_10, c0_11, d0_2, d0_3, d0_4, d0_5, d0_8, d0_9, d0_10, d0_11, rfl, b0_0, ⟨r0_2, f0_2⟩, ⟨r0_3, f0_3⟩, ⟨r0_4, f0_4⟩, ⟨r0_5, f0_5⟩, b0_6, b0_7, ⟨r0_8, f0_8⟩, ⟨r0_9, f0_9⟩, ⟨r0_10, f0_10⟩, ⟨r0_11, f0_11⟩⟩ := arg_Stmt (hval 0 31 v0 rfl rfl) h0
  have e1 := h1
  have lt1 : ∀ x ∈ p1, x.block < W.heap.size := by obtain ⟨m, hm⟩ := e1; exact DataW.trod_lt m _ _ _ hm
  obtain ⟨c1_0, c1_1, c1_2, c1_3, c1_4, c1_5, c1_6, c1_7, c1_8, c1_9, c1_10, c1_11, d1_2, d1_3, d1_4, d1_5, d1_8, d1_9, d1_10, d1_11, rfl, b1_0, ⟨r1_2, f1_2⟩, ⟨r1_3, f1_3⟩, ⟨r1_4, f1_4⟩, ⟨r1_5, f1_5⟩, b1_6, b1_7, ⟨r1_8, f1_8⟩, ⟨r1_9, f1_9⟩, ⟨r1_10, f1_10⟩, ⟨r1_11, f1_11⟩⟩ := arg_Stmt (hval 1 31 v1 rfl rfl) h1
  clear hA0 hval0
  simp only [List.append_nil] at hW'
  refine (exw_SameStmt (fun j => if j = 2 then d0_2 else if j = 3 then d0_3 else if j = 4 then d0_4 else if j = 5 then d0_5 else if j = 8 then d0_8 else if j = 9 then d0_9 else if j = 10 then d0_10 else d0_11) (fun j => if j = 2 then d1_2 else if j = 3 then d1_3 else if j = 4 then d1_4 else if j = 5 then d1_5 else if j = 8 then d1_8 else if j = 9 then d1_9 else if j = 10 then d1_10 else d1_11) c0_0 c0_1 c0_2 c0_3 c0_4 c0_5 c0_6 c0_7 c0_8 c0_9 c0_10 c0_11 c1_0 c1_1 c1_2 c1_3 c1_4 c1_5 c1_6 c1_7 c1_8 c1_9 c1_10 c1_11 W r0_2 f0_2 r0_3 f0_3 r0_4 f0_4 r0_5 f0_5 r0_8 f0_8 r0_9 f0_9 r0_10 f0_10 r0_11 f0_11 b0_0 b0_6 b0_7 r1_2 f1_2 r1_3 f1_3 r1_4 f1_4 r1_5 f1_5 r1_8 f1_8 r1_9 f1_9 r1_10 f1_10 r1_11 f1_11 b1_0 b1_6 b1_7).mono fun e W' ⟨he, bel⟩ => ?_
  subst he
  exact ⟨_, rfl, _, _, _, [], _, [], hW', (trodAll_cons_mk (shut_bool Try.underlying4 _) trodAll_mk0), (trodAll_cons_mk (Below.trod laidOut (by kernel_rfl) (of_decide_eq_true (by kernel_rfl)) e0 bel lt0) (trodAll_cons_mk (Below.trod laidOut (by kernel_rfl) (of_decide_eq_true (by kernel_rfl)) e1 bel lt1) trodAll_mk0)), rfl, bel.frame _, fun h => by cases h⟩

set_option maxHeartbeats 4000000 in
theorem closed : joinedFacts Try.prog 10 Try.f10 Rows.fnExactSameStmtSpec Rows.fnExactSameStmtRow = true :=
  join_of rfl rfl (by kernel_rfl) (by as_aux_lemma => kernel_rfl) (by as_aux_lemma => kernel_rfl) (by as_aux_lemma => kernel_rfl) (by as_aux_lemma => kernel_rfl) (by kernel_rfl) (by as_aux_lemma => kernel_rfl) (by as_aux_lemma => kernel_rfl) (by as_aux_lemma => kernel_rfl) (by kernel_rfl) (by as_aux_lemma => kernel_rfl)

theorem over : Rows.fnExactSameStmtRow.holds Try.pinned (OpenSpec.ofChange Rows.fnExactSameStmtSpec) :=
  OpenClaim.holds_of_wide 10 Try.f10 rfl rfl rfl rfl rfl rfl rfl ⟨rfl, rfl, rfl, rfl, rfl⟩ rfl rfl rfl rfl rfl (by kernel_rfl) Try.func10 closed
    (of_decide_eq_true (by kernel_rfl)) (by unfold Func.isWrapper; first | (rw [if_pos (by decide +kernel)]; kernel_rfl) | (rw [if_neg (by decide +kernel)]; exact ⟨rfl, rfl⟩))
    (fun os started H enc _ => lifted os started H enc)

theorem proved : Rows.FnExactSameStmtSaid :=
  over
end Go.Proofs.Ytfmgkinindkedaa.fnExactSameStmt
