
/- The contract of the model's comparison of tokens. -/
import Derived.Test.YtodgigdcdgdfdaaTokSlDef
import Derived.Deep.QuietTactic
import Derived.BigQuiet
import Derived.Lib.SlicesS
namespace Go.Proofs.Ytodgigdcdgdfdaa
open Go.RowKit

/-- tokens of one kind and one text -/
def sameF (f f' : Nat → Int × ByteArray × Int) (j : Nat) : Bool := decide ((f j).1 = (f' j).1) && decide ((f j).2.1 = (f' j).2.1)
def sameB (n n' : Nat) (f f' : Nat → Int × ByteArray × Int) : Bool := decide (n = n') && (List.range n).all (sameF f f')
theorem sameB_len {n n' : Nat} {f f' : Nat → Int × ByteArray × Int} (h : ¬ n = n') : sameB n n' f f' = false := by unfold sameB; rw [decide_eq_false h]; rfl
theorem sameB_no {n k : Nat} {f f' : Nat → Int × ByteArray × Int} (hk : k < n) (h : sameF f f' k = false) : sameB n n f f' = false := by
  unfold sameB
  rw [decide_eq_true rfl, Bool.true_and, List.all_eq_false]
  exact ⟨k, by simpa using hk, by rw [h]; simp⟩
theorem sameB_yes {n : Nat} {f f' : Nat → Int × ByteArray × Int} (h : ∀ j, j < n → sameF f f' j = true) : sameB n n f f' = true := by
  unfold sameB
  rw [decide_eq_true rfl, Bool.true_and, List.all_eq_true]
  exact fun j hj => h j (by simpa using hj)

set_option maxRecDepth 100000 in
set_option maxHeartbeats 1600000 in
theorem same_spec (B1 B2 : Nat) (a b : Option Addr) (n n' ca cb : Nat) (f f' : Nat → Int × ByteArray × Int) (w : World) (ha : TokSl w B1 a n f) (hb : TokSl w B2 b n' f') (hn : n ≤ 4000000) (hn' : n' ≤ 4000000) :
    Calls Try.prog 13 #[.slice a n ca, .slice b n' cb] w (BoolE (sameB n n' f f') w) := by
  by_cases hnn : n = n'
  · subst hnn
    go_enter Try.func13, Try.ntmps13
    go_wp2_with fail
    go_loopw [5] (fun i wr => ∃ k : Nat, k ≤ n ∧ i = .int .i64 (k : Int) ∧ Hid (∀ j, j < k → sameF f f' j = true) ∧ Below w.heap.size w wr) (fun i _ => n - (intOf i).toNat)
    case atStart => exact ⟨0, by omega, rfl, fun j hj => by omega, Below.refl _ _⟩
    case round =>
      obtain ⟨k, hk, rfl, HS, hbel⟩ := hrel
      by_cases hlt : k < n
      · have hlt2 : (k : Int) < (n : Int) := by omega
        obtain ⟨g, rfl, _, hg, c0, c1, _⟩ := ha k hlt
        obtain ⟨g', rfl, _, hg', e0, e1, _⟩ := hb k hlt
        rw [← hbel.cell (p := ⟨g, k * 3, none⟩) hg] at c0
        rw [← hbel.cell (p := ⟨g, k * 3 + 1, none⟩) hg] at c1
        rw [← hbel.cell (p := ⟨g', k * 3, none⟩) hg'] at e0
        rw [← hbel.cell (p := ⟨g', k * 3 + 1, none⟩) hg'] at e1
        have HF := Lib.hid (show sameF f f' k = (decide ((f k).1 = (f' k).1) && decide ((f k).2.1 = (f' k).2.1)) from rfl)
        have hnx := fun (h : sameF f f' k = true) => (fun j (hj : j < k + 1) => by
          by_cases e : j = k
          · subst e; exact h
          · exact HS.out j (by omega) : ∀ j, j < k + 1 → sameF f f' j = true)
        generalize (f k).1 = K1 at c0 HF
        generalize (f' k).1 = K2 at e0 HF
        generalize (f k).2.1 = T1 at c1 HF
        generalize (f' k).2.1 = T2 at e1 HF
        by_cases hK : K1 = K2
        · have q1 : (K1 != K2) = false := by simpa using hK
          by_cases hT : T1 = T2
          · have q2 : (T1.toList == T2.toList) = true := (Lib.bytes_beq_iff T1 T2).2 hT
            have HX := Lib.hid (hnx (by rw [HF.out, decide_eq_true hK, decide_eq_true hT]; rfl))
            clear hK hT hnx
            go_wp2_with fail
            go_quiet (fail)
            go_wp2_with fail
            go_roundw
            case rel => exact ⟨k + 1, by omega, by go_num, HX, ⟨hbel.os, hbel.tape, hbel.output, hbel.size, hbel.block⟩⟩
            case measure => simp [intOf]; omega
          · have q2 : (T1.toList == T2.toList) = false := (Lib.bytes_beq_false_iff T1 T2).2 hT
            have HX := Lib.hid (sameB_no hlt (by rw [HF.out, decide_eq_false hT]; simp))
            clear hK hT hnx
            go_wp2_with fail
            go_quiet (fail)
            go_wp2_with fail
            go_ret
            exact ⟨by rw [HX.out]; rfl, ⟨hbel.os, hbel.tape, hbel.output, hbel.size, hbel.block⟩⟩
        · have q1 : (K1 != K2) = true := by simpa using hK
          have HX := Lib.hid (sameB_no hlt (by rw [HF.out, decide_eq_false hK]; rfl))
          clear hK hnx
          go_wp2_with fail
          go_quiet (fail)
          go_wp2_with fail
          go_ret
          exact ⟨by rw [HX.out]; rfl, ⟨hbel.os, hbel.tape, hbel.output, hbel.size, hbel.block⟩⟩
      · have e : k = n := by omega
        subst e
        go_wp2_with fail
        go_ret
        exact ⟨by rw [sameB_yes HS.out]; rfl, hbel⟩
  · have q : ((n : Int) == (n' : Int)) = false := by simp; omega
    have HX := Lib.hid (sameB_len (f := f) (f' := f') hnn)
    clear hnn
    go_enter Try.func13, Try.ntmps13
    go_wp2_with fail
    go_ret
    exact ⟨by rw [HX.out]; rfl, Below.refl _ _⟩
end Go.Proofs.Ytodgigdcdgdfdaa
