
/- At every operator and every two values (with texts of more than 1048576 bytes together the law returns true at once) the program's Calc returns the value and the error that the model's returns; nothing that was there is changed. No condition. -/
import Derived.Test.YtjekhgekldkopaaRows
import Derived.Test.YtjekhgekldkopaaCalcLaw
import Derived.Lib.SmallJoins
import Derived.WalkKit
import Derived.ChangeOld
import Derived.Below
import Derived.ProofKit
import Derived.OpenShut
import Derived.ShutString
namespace Go.Proofs.Ytjekhgekldkopaa.fnExactCalc
open Go.ChangeShapes Go.WideShapes Go.ChangeAt Go.RowKit
open Go.ChangeMaps (open_string shut_string)
open Go.Joins
set_option linter.unusedVariables false

theorem own : ownKnob Try.prog.godebug = none := by kernel_rfl
theorem laidOut : laidOutB Try.prog = true := by kernel_rfl

set_option maxRecDepth 100000 in
theorem lifted (os : Os) (started : os.Started) (H : Type) (enc : TypeId × Value → H) :
    ReturnsInHanded {} Try.checked os 11 .any (Rows.fnExactCalcSpec.pre6 enc Try.prog Try.f11 Rows.fnExactCalcRow.domain false) (Rows.fnExactCalcSpec.post enc Try.prog Try.f11 false true false false) := by
  refine returnsInHanded_of_change (C := Try.checked) own started (by kernel_rfl) Try.func11
    (ChangeSpec.witness6 (enc := enc) (C := Try.checked) false ⟨#[], #[.int .i64 0, .agg #[.int .i64 0, .int .i64 0, .string ByteArray.empty], .agg #[.int .i64 0, .int .i64 0, .string ByteArray.empty]], []⟩ 8 (by kernel_rfl) (by kernel_rfl) (by kernel_rfl) (by kernel_rfl)) ?_
  intro W base args ds gs before hval0 hW hcnd _
  have hval : ∀ (j : Nat) t v, Try.f11.params[j]? = some t → args[j]? = some v → Value.okWide Try.prog W .any base t v := hval0
  have hW' := hW
  obtain ⟨p, q, hA0, hV, rfl, hfz, hnd⟩ := hW
  have hA : DataW.TrodAll enc Try.prog W 0 (fun _ => true) true Try.f11.params.toList args.toList ds p := hA0
  rw [Try.params11] at hA hval
  obtain ⟨v0, vs0, d0, ds0, p0, q0, hargs0, rfl, rfl, h0, r0⟩ := trodAll_cons hA
  obtain ⟨v1, vs1, d1, ds1, p1, q1, hargs1, rfl, rfl, h1, r1⟩ := trodAll_cons r0
  obtain ⟨v2, vs2, d2, ds2, p2, q2, hargs2, rfl, rfl, h2, r2⟩ := trodAll_cons r1
  obtain ⟨rfl, rfl, rfl⟩ := trodAll_nil r2
  obtain rfl : args = #[v0, v1, v2] := by cases args; simp_all
  obtain ⟨rfl, rfl⟩ := trodVars_none hV
  have e0 := h0
  have lt0 : ∀ x ∈ p0, x.block < W.heap.size := by obtain ⟨m, hm⟩ := e0; exact DataW.trod_lt m _ _ _ hm
  have ⟨a0, ea0, _, _, w0⟩ := open_int Try.underlying3 (hval 0 3 v0 rfl rfl) h0
  subst ea0
  obtain ⟨l0, u0⟩ := i64_bds w0
  have e1 := h1
  have lt1 : ∀ x ∈ p1, x.block < W.heap.size := by obtain ⟨m, hm⟩ := e1; exact DataW.trod_lt m _ _ _ hm
  obtain ⟨x10, x11, x12, y10, y11, y12, n1, rfl, -, -, t10, t11, t12⟩ := open_agg3 Try.underlying40 (by kernel_rfl) (by kernel_rfl) (hval 1 40 v1 rfl rfl) h1
  obtain ⟨ka1, g10, -, bka1⟩ := DataW.trod_int Try.underlying3 t10
  obtain rfl : x10 = .int .i64 ka1 := by simpa using g10
  obtain ⟨na1, g11, -, bna1⟩ := DataW.trod_int Try.underlying3 t11
  obtain rfl : x11 = .int .i64 na1 := by simpa using g11
  obtain ⟨ta1, g12, -, w1⟩ := DataW.trod_string Try.underlying9 t12
  obtain rfl : x12 = .string ta1 := by simpa using g12
  have e2 := h2
  have lt2 : ∀ x ∈ p2, x.block < W.heap.size := by obtain ⟨m, hm⟩ := e2; exact DataW.trod_lt m _ _ _ hm
  obtain ⟨x20, x21, x22, y20, y21, y22, n2, rfl, -, -, t20, t21, t22⟩ := open_agg3 Try.underlying40 (by kernel_rfl) (by kernel_rfl) (hval 2 40 v2 rfl rfl) h2
  obtain ⟨ka2, g20, -, bka2⟩ := DataW.trod_int Try.underlying3 t20
  obtain rfl : x20 = .int .i64 ka2 := by simpa using g20
  obtain ⟨na2, g21, -, bna2⟩ := DataW.trod_int Try.underlying3 t21
  obtain rfl : x21 = .int .i64 na2 := by simpa using g21
  obtain ⟨ta2, g22, -, w2⟩ := DataW.trod_string Try.underlying9 t22
  obtain rfl : x22 = .string ta2 := by simpa using g22
  clear hA0 hval0
  simp only [List.append_nil] at hW'
  refine (ex_calc a0 ka1 na1 ta1 ka2 na2 ta2 W w1 w2 (i64_bds bna1).1 (i64_bds bna1).2 (i64_bds bna2).1 (i64_bds bna2).2).mono fun e W' ⟨he, bel⟩ => ?_
  subst he
  exact ⟨_, rfl, _, _, _, [], _, [], hW', (trodAll_cons_mk (shut_bool Try.underlying4 _) trodAll_mk0), (trodAll_cons_mk (Below.trod laidOut (by kernel_rfl) (of_decide_eq_true (by kernel_rfl)) e0 bel lt0) (trodAll_cons_mk (Below.trod laidOut (by kernel_rfl) (of_decide_eq_true (by kernel_rfl)) e1 bel lt1) (trodAll_cons_mk (Below.trod laidOut (by kernel_rfl) (of_decide_eq_true (by kernel_rfl)) e2 bel lt2) trodAll_mk0))), rfl, bel.frame _, fun h => by cases h⟩

theorem over : Rows.fnExactCalcRow.holds Try.pinned (OpenSpec.ofChange Rows.fnExactCalcSpec) :=
  OpenClaim.holds_of_wide 11 Try.f11 rfl rfl rfl rfl rfl rfl rfl ⟨rfl, rfl, rfl, rfl, rfl⟩ rfl rfl rfl rfl rfl (by kernel_rfl) Try.func11 (by kernel_rfl)
    (of_decide_eq_true (by kernel_rfl)) (by unfold Func.isWrapper; first | (rw [if_pos (by decide +kernel)]; kernel_rfl) | (rw [if_neg (by decide +kernel)]; exact ⟨rfl, rfl⟩))
    (fun os started H enc _ => lifted os started H enc)

theorem proved : Rows.FnExactCalcSaid :=
  over
end Go.Proofs.Ytjekhgekldkopaa.fnExactCalc
