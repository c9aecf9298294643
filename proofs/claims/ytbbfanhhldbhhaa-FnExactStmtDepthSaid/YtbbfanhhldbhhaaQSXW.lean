/- Joined texts: Key Fold KeyOf NameS. -/
import Derived.Test.YtbbfanhhldbhhaaQSXA
import Derived.Test.YtbbfanhhldbhhaaQSXB
import Derived.Test.YtbbfanhhldbhhaaQSXC
/- Contracts of the map of keywords and of Fold, program and model. -/
namespace Go.Proofs.Ytbbfanhhldbhhaa
open Go.RowKit Go.Maps

/-- a store of the map's making, which cannot fail -/
theorem wpList_insert_own {H : Type} {P : Program} (w : World) {ops : Array Oper} {rest : List Oper} {o : Oper} {a : Act} {Q : Exit → Act → World → Prop}
    (hg : o.guard = none) (m x v : Operand) (t : TypeId) (hop : o.op = Op.insert t m x v)
    (k e : TypeId) (K : Keyed P k) (ht : P.underlying t = some (.map k e)) (R : Value → Option (DataW H × List MemPlace)) (b n : Nat) (D : DataW H)
    (hm : a.eval m = .map (some b)) (hown : w.ownsMap P k R b n D) (hn : n < maxLen) (key val : Value) (kl : Lit) (hx : a.eval x = key) (hv : a.eval v = val) (hkey : keyOf P k key = some kl)
    (d : DataW H) (ps : List MemPlace) (hval : R val = some (d, ps))
    (hK : ∀ w', w'.ownsMap P k R b (n + 1) (D.put kl d) → w.grownBy w' (some b) → wpList P ops Q rest (a.put o.dst undef) w') :
    wpList P ops Q (o :: rest) a w := by
  refine wpList_plain hg fun K' hK' => ?_
  obtain ⟨w', hrun, r1, r2⟩ := hown.update K ht hn hkey hval
  unfold Oper.wp
  simp [execOp, hop, hm, hx, hv, hrun, Result.andThen]
  exact hK' _ _ (hK w' r1 r2)

theorem lawS : Keyed Try.prog 9 := string_keyed Try.underlying9
theorem zeroI (w : World) : (zeroValue 3).run Try.prog w = .ok (.int .i64 0) w := by kernel_rfl

/-- block b is the map of the first k keywords -/
def KwAt (w0 : World) (b k : Nat) (w : World) : Prop := w.ownsMap Try.prog 9 (plainElem Try.prog 3) b k (kwD k) ∧ w0.grownBy w (some b)
end Go.Proofs.Ytbbfanhhldbhhaa

/- Contracts of Fold, program and model. -/
namespace Go.Proofs.Ytbbfanhhldbhhaa
open Go.RowKit

theorem upL_getD (l : List UInt8) (j : Nat) : upB (l.getD j 0) = (upL l).getD j 0 := by
  unfold upL
  rw [List.getD_eq_getElem?_getD, List.getD_eq_getElem?_getD, List.getElem?_map]
  cases l[j]? <;> rfl

end Go.Proofs.Ytbbfanhhldbhhaa

/- Contracts of KeyOf, program and model, and of the list of keywords. -/
namespace Go.Proofs.Ytbbfanhhldbhhaa
open Go.RowKit Go.Maps

theorem ownsMap_below {H : Type} {P : Program} {k : TypeId} {R : Value → Option (DataW H × List MemPlace)} {w w' : World} {b n B : Nat} {D : DataW H} (h : w.ownsMap P k R b n D) (hb : Below B w w') (hB : b < B) : w'.ownsMap P k R b n D := by
  obtain ⟨es, clock, h1, F, hs, hD⟩ := h
  exact ⟨es, clock, (hb.block b hB).trans h1, F, hs, hD⟩

set_option maxRecDepth 100000 in
set_option maxHeartbeats 400000 in
theorem words_spec (w : World) :
    Calls Try.prog 227 #[] w fun e w' => e = .returned (.slice (some ⟨w.heap.size, 0, none⟩) 29 29) ∧ StrRow w' w.heap.size 29 wordB ∧ Below w.heap.size w w' := by
  go_enter Try.func227, Try.ntmps227
  go_wp2
  go_ret
  refine ⟨rfl, ⟨by simp, fun j hj => ⟨?_, frozen_of_row _ w.heap.size j _ 9 (heap_alloc_new w _)⟩⟩, (Below.refl _ _).alloc (Nat.le_refl _) _⟩
  rw [cell_of_row _ w.heap.size j _ 9 (0, 0) (heap_alloc_new w _)]
  rcases (show j = 0 ∨ j = 1 ∨ j = 2 ∨ j = 3 ∨ j = 4 ∨ j = 5 ∨ j = 6 ∨ j = 7 ∨ j = 8 ∨ j = 9 ∨ j = 10 ∨ j = 11 ∨ j = 12 ∨ j = 13 ∨ j = 14 ∨ j = 15 ∨ j = 16 ∨ j = 17 ∨ j = 18 ∨ j = 19 ∨ j = 20 ∨ j = 21 ∨ j = 22 ∨ j = 23 ∨ j = 24 ∨ j = 25 ∨ j = 26 ∨ j = 27 ∨ j = 28 by omega) with rfl | rfl | rfl | rfl | rfl | rfl | rfl | rfl | rfl | rfl | rfl | rfl | rfl | rfl | rfl | rfl | rfl | rfl | rfl | rfl | rfl | rfl | rfl | rfl | rfl | rfl | rfl | rfl | rfl <;> rfl

theorem word_eq {k : Nat} {F : ByteArray} {l : List UInt8} (hF : F = ⟨l.toArray⟩) : ((wordB k).toList == F.toList) = decide (word k = l) := by
  subst hF
  by_cases h : word k = l
  · rw [decide_eq_true h, Lib.bytes_beq_iff]
    unfold wordB; rw [h]
  · rw [decide_eq_false h, Lib.bytes_beq_false_iff]
    intro e
    exact h (by have := congrArg (fun b : ByteArray => b.data.toList) e; simpa [wordB] using this)

end Go.Proofs.Ytbbfanhhldbhhaa

/- Contracts of the tests on names in the model. -/
namespace Go.Proofs.Ytbbfanhhldbhhaa
open Go.RowKit

theorem nameOk_spec (s : ByteArray) (w : World) (_hs : s.size ≤ 9223372036854775807) : Calls Try.prog 145 #[.string s] w (PureE (.bool (okLen s.size)) w) := by
  have hin := fun w => in_any (s.size : Int) 1 20 (okLen s.size) w (by unfold okLen; rw [Bool.decide_and])
  go_enter Try.func145, Try.ntmps145
  go_wp2_with fail
  refine (hin _).mono ?_
  rintro e w1 ⟨rfl, rfl⟩
  go_wp2_with fail
  go_ret
  exact pure_bool rfl

end Go.Proofs.Ytbbfanhhldbhhaa
