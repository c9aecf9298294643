
/- Contracts of KeyOf, program and model, and of the list of keywords. -/
import Derived.Test.YtcadoplfgclbjaaKey
import Derived.Test.YtcadoplfgclbjaaFold
import Derived.Test.YtcadoplfgclbjaaPure
namespace Go.Proofs.Ytcadoplfgclbjaa
open Go.RowKit Go.Maps

theorem ownsMap_below {H : Type} {P : Program} {k : TypeId} {R : Value → Option (DataW H × List MemPlace)} {w w' : World} {b n B : Nat} {D : DataW H} (h : w.ownsMap P k R b n D) (hb : Below B w w') (hB : b < B) : w'.ownsMap P k R b n D := by
  obtain ⟨es, clock, h1, F, hs, hD⟩ := h
  exact ⟨es, clock, (hb.block b hB).trans h1, F, hs, hD⟩

set_option maxRecDepth 100000 in
set_option maxHeartbeats 400000 in
theorem keyOf_impl (s : ByteArray) (w : World) (hs : s.size ≤ maxLen) :
    Calls Try.prog 26 #[.string s] w (IntE (numOf (upL s.data.toList) : Int) w) := by
  have hs2 : s.size ≤ 9223372036854775807 := by unfold maxLen at hs; omega
  have hk : (⟨(upL s.data.toList).toArray⟩ : ByteArray).size ≤ maxLen := by
    show (upL s.data.toList).length ≤ maxLen
    rw [upL_len]; exact hs
  go_enter Try.func26, Try.ntmps26
  go_wp2_with fail
  refine (keywords_impl _).mono ?_
  rintro e w1 ⟨rfl, hown, hb⟩
  go_wp2_with fail
  refine (fold_impl s w1 hs2).mono ?_
  rintro e w2 ⟨rfl, hb2⟩
  have hown2 := ownsMap_below hown hb2 hown.lt
  have hbb := hb.trans (hb2.mono hb.size)
  go_wp2_with (at_lookup; refine wpList_lookup_own_int _ rfl _ _ 44 rfl 9 3 .i64 lawS Try.underlying44 Try.underlying3 (zeroI _) w.heap.size 28 _ rfl hown2 _ _ rfl (Go.WideMaps.keyOf_string_mk Try.underlying9 hk) ?_; intro c hat hwc)
  go_ret
  have hat2 : (kwD 28).atKey (.string (upL s.data.toList)) (.lit (.int .i64 0)) = .lit (.int .i64 c) := hat
  exact ⟨ret_i64 (kw_num hat2), hbb⟩

set_option maxRecDepth 100000 in
set_option maxHeartbeats 400000 in
theorem words_spec (w : World) :
    Calls Try.prog 21 #[] w fun e w' => e = .returned (.slice (some ⟨w.heap.size, 0, none⟩) 29 29) ∧ StrRow w' w.heap.size 29 wordB ∧ Below w.heap.size w w' := by
  go_enter Try.func21, Try.ntmps21
  go_wp2
  go_ret
  refine ⟨rfl, ⟨by simp, fun j hj => ⟨?_, frozen_of_row _ w.heap.size j _ 9 (heap_alloc_new w _)⟩⟩, (Below.refl _ _).alloc (Nat.le_refl _) _⟩
  rw [cell_of_row _ w.heap.size j _ 9 (0, 0) (heap_alloc_new w _)]
  rcases (show j = 0 ∨ j = 1 ∨ j = 2 ∨ j = 3 ∨ j = 4 ∨ j = 5 ∨ j = 6 ∨ j = 7 ∨ j = 8 ∨ j = 9 ∨ j = 10 ∨ j = 11 ∨ j = 12 ∨ j = 13 ∨ j = 14 ∨ j = 15 ∨ j = 16 ∨ j = 17 ∨ j = 18 ∨ j = 19 ∨ j = 20 ∨ j = 21 ∨ j = 22 ∨ j = 23 ∨ j = 24 ∨ j = 25 ∨ j = 26 ∨ j = 27 ∨ j = 28 by omega) with rfl | rfl | rfl | rfl | rfl | rfl | rfl | rfl | rfl | rfl | rfl | rfl | rfl | rfl | rfl | rfl | rfl | rfl | rfl | rfl | rfl | rfl | rfl | rfl | rfl | rfl | rfl | rfl | rfl <;> rfl

theorem word_eq {k : Nat} {F : ByteArray} {l : List UInt8} (hF : F = ⟨l.toArray⟩) : ((wordB k).toList == F.toList) = decide (word k = l) := by
  subst hF
  by_cases h : word k = l
  · rw [decide_eq_true h, Lib.bytes_beq_iff]
    unfold wordB; rw [h]
  · rw [decide_eq_false h, Lib.bytes_beq_false_iff]
    intro e
    exact h (by have := congrArg (fun b : ByteArray => b.data.toList) e; simpa [wordB] using this)

set_option maxRecDepth 100000 in
set_option maxHeartbeats 400000 in
theorem keyOf_spec (s : ByteArray) (w : World) (hs : s.size ≤ maxLen) :
    Calls Try.prog 13 #[.string s] w (IntE (numOf (upL s.data.toList) : Int) w) := by
  have hs2 : s.size ≤ 9223372036854775807 := by unfold maxLen at hs; omega
  by_cases h8 : s.size ≤ 8
  · have hd : decide (8 < (s.size : Int)) = false := by simp; omega
    obtain ⟨l, hl⟩ : ∃ l, l = upL s.data.toList := ⟨_, rfl⟩
    rw [← hl]
    have HLL := Lib.hid hl; clear hl
    go_enter Try.func13, Try.ntmps13
    go_wp2_with fail
    refine (fold_spec s _ hs2).mono ?_
    rintro e w1 ⟨rfl, hb⟩
    obtain ⟨F, hF⟩ : ∃ F : ByteArray, F = ⟨l.toArray⟩ := ⟨_, rfl⟩
    rw [← HLL.out, ← hF]
    have HF := Lib.hid hF; clear hF
    go_wp2_with fail
    refine (words_spec w1).mono ?_
    rintro e w2 ⟨rfl, hrow, hb2⟩
    have hbb := hb.trans (hb2.mono hb.size)
    clear hb hb2
    go_wp2_with fail
    go_loopw [5] (fun i wr => ∃ k : Nat, 1 ≤ k ∧ k ≤ 29 ∧ i = .int .i64 (k : Int) ∧ Hid (∀ j, 1 ≤ j → j < k → word j ≠ l) ∧ StrRow wr w1.heap.size 29 wordB ∧ Below w.heap.size w wr) (fun i _ => 29 - (intOf i).toNat)
    case atStart => exact ⟨1, by omega, by omega, rfl, fun j h1 h2 => by omega, hrow, hbb⟩
    case round =>
      obtain ⟨k, hk1, hk, rfl, HN, hr, hb⟩ := hrel
      clear hrow hbb
      by_cases hlt : k < 29
      · have hlt2 : (k : Int) < 29 := by omega
        obtain ⟨hc, _⟩ := hr.2 k hlt
        have hq := word_eq (k := k) HF.out
        by_cases he : word k = l
        · rw [decide_eq_true he] at hq
          have HE := Lib.hid he; clear he
          go_wp2_with fail
          go_ret
          exact ⟨ret_i64 (by rw [num_of_word hk1 (by omega) HE.out]), hb⟩
        · rw [decide_eq_false he] at hq
          have HE := Lib.hid he; clear he
          go_wp2_with fail
          go_roundw
          case rel => exact ⟨k + 1, by omega, by omega, by go_num, fun j h1 h2 => by
            by_cases e : j = k
            · subst e; exact HE.out
            · exact HN.out j h1 (by omega), hr, hb⟩
          case measure => simp [intOf]; omega
      · have e : k = 29 := by omega
        subst e
        have hn : numOf l = 0 := by
          rcases num_cases l with h | ⟨h1, h2, h3⟩
          · exact h.1
          · exact absurd h3 (HN.out _ h1 (by omega))
        go_wp2_with fail
        go_ret
        exact ⟨ret_i64 (by rw [hn]; rfl), hb⟩
  · have hd : decide (8 < (s.size : Int)) = true := by simp; omega
    have hn : numOf (upL s.data.toList) = 0 := num_long (by rw [upL_len]; show 8 < s.size; omega)
    go_enter Try.func13, Try.ntmps13
    go_wp2
    go_ret
    exact ⟨ret_i64 (by rw [hn]; rfl), Below.refl _ _⟩
end Go.Proofs.Ytcadoplfgclbjaa
