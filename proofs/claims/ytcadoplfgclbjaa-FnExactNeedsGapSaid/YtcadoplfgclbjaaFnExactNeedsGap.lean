
/- At every two tokens (with texts of more than 1048576 bytes together the law returns true at once) the program's NeedsGap returns what the model's returns, whatever the tokens' places; nothing that was there is changed. No condition. -/
import Derived.Test.YtcadoplfgclbjaaRows
import Derived.Test.YtcadoplfgclbjaaGapLaw
import Derived.Test.YtcadoplfgclbjaaGapI
import Derived.Lib.SmallJoins
import Derived.WalkKit
import Derived.ChangeOld
import Derived.Below
import Derived.ProofKit
import Derived.OpenShut
import Derived.ShutString
namespace Go.Proofs.Ytcadoplfgclbjaa.fnExactNeedsGap
open Go.ChangeShapes Go.WideShapes Go.ChangeAt Go.RowKit
open Go.Joins
set_option linter.unusedVariables false

theorem own : ownKnob Try.prog.godebug = none := by kernel_rfl
theorem laidOut : laidOutB Try.prog = true := by kernel_rfl

set_option maxRecDepth 100000 in
theorem lifted (os : Os) (started : os.Started) (H : Type) (enc : TypeId × Value → H) :
    ReturnsInHanded {} Try.checked os 3 .any (Rows.fnExactNeedsGapSpec.pre6 enc Try.prog Try.f3 Rows.fnExactNeedsGapRow.domain false) (Rows.fnExactNeedsGapSpec.post enc Try.prog Try.f3 false true false false) := by
  refine returnsInHanded_of_change (C := Try.checked) own started (by kernel_rfl) Try.func3
    (ChangeSpec.witness6 (enc := enc) (C := Try.checked) false ⟨#[], #[.agg #[.int .i64 0, .string ByteArray.empty, .int .i64 0], .agg #[.int .i64 0, .string ByteArray.empty, .int .i64 0]], []⟩ 8 (by kernel_rfl) (by kernel_rfl) (by kernel_rfl) (by kernel_rfl)) ?_
  intro W base args ds gs before hval0 hW hcnd _
  have hval : ∀ (j : Nat) t v, Try.f3.params[j]? = some t → args[j]? = some v → Value.okWide Try.prog W .any base t v := hval0
  have hW' := hW
  obtain ⟨p, q, hA0, hV, rfl, hfz, hnd⟩ := hW
  have hA : DataW.TrodAll enc Try.prog W 0 (fun _ => true) true Try.f3.params.toList args.toList ds p := hA0
  rw [Try.params3] at hA hval
  obtain ⟨v0, vs0, d0, ds0, p0, q0, hargs, rfl, rfl, h0, r0⟩ := trodAll_cons hA
  obtain ⟨v1, vs1, d1, ds1, p1, q1, hargs1, rfl, rfl, h1, r1⟩ := trodAll_cons r0
  obtain ⟨rfl, rfl, rfl⟩ := trodAll_nil r1
  obtain rfl : args = #[v0, v1] := by cases args; simp_all
  obtain ⟨rfl, rfl⟩ := trodVars_none hV
  have k0 := h0
  have k1 := h1
  have lt0 : ∀ x ∈ p0, x.block < W.heap.size := by obtain ⟨m, hm⟩ := k0; exact DataW.trod_lt m _ _ _ hm
  have lt1 : ∀ x ∈ p1, x.block < W.heap.size := by obtain ⟨m, hm⟩ := k1; exact DataW.trod_lt m _ _ _ hm
  obtain ⟨c00, c01, c02, y00, y01, y02, n0, rfl, -, -, t00, t01, t02⟩ := open_agg3 Try.underlying23 (by kernel_rfl) (by kernel_rfl) (hval 0 23 v0 rfl rfl) h0
  obtain ⟨ka0, e00, -, -⟩ := DataW.trod_int Try.underlying3 t00
  obtain ⟨ta0, e01, -, w0⟩ := DataW.trod_string Try.underlying9 t01
  obtain ⟨aa0, e02, -, -⟩ := DataW.trod_int Try.underlying3 t02
  obtain rfl : c00 = .int .i64 ka0 := by simpa using e00
  obtain rfl : c01 = .string ta0 := by simpa using e01
  obtain rfl : c02 = .int .i64 aa0 := by simpa using e02
  obtain ⟨c10, c11, c12, y10, y11, y12, n1, rfl, -, -, t10, t11, t12⟩ := open_agg3 Try.underlying23 (by kernel_rfl) (by kernel_rfl) (hval 1 23 v1 rfl rfl) h1
  obtain ⟨ka1, e10, -, -⟩ := DataW.trod_int Try.underlying3 t10
  obtain ⟨ta1, e11, -, w1⟩ := DataW.trod_string Try.underlying9 t11
  obtain ⟨aa1, e12, -, -⟩ := DataW.trod_int Try.underlying3 t12
  obtain rfl : c10 = .int .i64 ka1 := by simpa using e10
  obtain rfl : c11 = .string ta1 := by simpa using e11
  obtain rfl : c12 = .int .i64 aa1 := by simpa using e12
  clear hA0 hval0
  simp only [List.append_nil] at hW'
  refine (ex_needsGap gap_impl ka0 ta0 aa0 ka1 ta1 aa1 W w0 w1).mono fun e W' ⟨he, bel⟩ => ?_
  subst he
  exact ⟨_, rfl, _, _, _, [], _, [], hW', (trodAll_cons_mk (shut_bool Try.underlying4 _) trodAll_mk0), (trodAll_cons_mk (Below.trod laidOut (by kernel_rfl) (of_decide_eq_true (by kernel_rfl)) k0 bel lt0) (trodAll_cons_mk (Below.trod laidOut (by kernel_rfl) (of_decide_eq_true (by kernel_rfl)) k1 bel lt1) trodAll_mk0)), rfl, bel.frame _, fun h => by cases h⟩

theorem over : Rows.fnExactNeedsGapRow.holds Try.pinned (OpenSpec.ofChange Rows.fnExactNeedsGapSpec) :=
  OpenClaim.holds_of_wide 3 Try.f3 rfl rfl rfl rfl rfl rfl rfl ⟨rfl, rfl, rfl, rfl, rfl⟩ rfl rfl rfl rfl rfl (by kernel_rfl) Try.func3 (by kernel_rfl)
    (of_decide_eq_true (by kernel_rfl)) (by unfold Func.isWrapper; first | (rw [if_pos (by decide +kernel)]; kernel_rfl) | (rw [if_neg (by decide +kernel)]; exact ⟨rfl, rfl⟩))
    (fun os started H enc _ => lifted os started H enc)

theorem proved : Rows.FnExactNeedsGapSaid :=
  over
end Go.Proofs.Ytcadoplfgclbjaa.fnExactNeedsGap
