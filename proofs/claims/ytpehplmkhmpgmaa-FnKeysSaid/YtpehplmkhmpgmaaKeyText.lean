/- Contracts of KeyText, program and model. -/
import Derived.Test.YtpehplmkhmpgmaaKeyOf
import Derived.Sort.MapsRangeIn
namespace Go.Proofs.Ytpehplmkhmpgmaa
open Go.RowKit Go.Maps

/-- the text of number k -/
def textOf (k : Int) : List UInt8 := if 1 ≤ k ∧ k ≤ 28 then word k.toNat else []

set_option maxRecDepth 100000 in
set_option maxHeartbeats 400000 in
theorem keyText_spec (k : Int) (w : World) : Calls Try.prog 19 #[.int .i64 k] w (StrE (textOf k) w) := by
  by_cases h : 1 ≤ k ∧ k ≤ 28
  · obtain ⟨n, rfl⟩ := Int.eq_ofNat_of_zero_le (show 0 ≤ k by omega)
    have hn : n < 29 := by omega
    have ht : textOf (n : Int) = word n := by unfold textOf; rw [if_pos h]; rfl
    rw [ht]
    have hin := in_any (n : Int) 1 28 true
    have hin := fun w => hin w (by simp; omega)
    clear h
    go_enter Try.func19, Try.ntmps19
    go_wp2_with fail
    refine (hin _).mono ?_
    rintro e w1 ⟨rfl, rfl⟩
    go_wp2_with fail
    refine (words_spec _).mono ?_
    rintro e w2 ⟨rfl, hrow, hb2⟩
    obtain ⟨hc, _⟩ := hrow.2 n hn
    go_wp2_with fail
    go_ret
    exact ⟨rfl, hb2⟩
  · have hin := fun w => in_any k 1 28 false w (by simpa using h)
    have ht : textOf k = [] := by unfold textOf; rw [if_neg h]
    rw [ht]
    clear h
    go_enter Try.func19, Try.ntmps19
    go_wp2_with fail
    refine (hin _).mono ?_
    rintro e w1 ⟨rfl, rfl⟩
    go_wp2_with fail
    go_ret
    exact ⟨rfl, Below.refl _ _⟩

set_option maxRecDepth 100000 in
set_option maxHeartbeats 800000 in
theorem keyText_impl (k : Int) (w : World) : Calls Try.prog 11 #[.int .i64 k] w (StrE (textOf k) w) := by
  go_enter Try.func11, Try.ntmps11
  go_wp2_with fail
  refine (keywords_impl _).mono ?_
  rintro e w1 ⟨rfl, hown, hb⟩
  have hlt0 := hown.lt
  go_wp2_with (at_range; refine wpList_range_own _ rfl _ 35 rfl 9 3 lawS Try.underlying35 _ w.heap.size 28 _ rfl hown ?_; intro w0 hrg0 hg0 hs0)
  have hb0 : Below w.heap.size w w0 := hb.grown hg0 hb.size (fun j hj => by cases hj)
  go_frame
  go_loopw [4] (fun _ wr => ∃ (left : Lit → Bool) (cnt : Nat), wr.ranges Try.prog 9 (plainElem Try.prog 3) w.heap.size w1.heap.size 28 (kwD 28) left cnt ∧ Hid (∀ j : Nat, 1 ≤ j → j ≤ 28 → k = (j : Int) → left (.string (word j)) = true) ∧ Below w.heap.size w wr) (fun _ wr => wr.rangeLeft w.heap.size w1.heap.size)
  case atStart => exact ⟨_, _, hrg0, fun j h1 h2 _ => kw_has h1 h2, hb0⟩
  case round =>
    obtain ⟨left, cnt, hrg, HL, hbel⟩ := hrel
    clear hrg0 hb0 hg0 hs0 hown hb
    go_wp2_with (at_next; refine wpList_next_ranges _ rfl _ rfl 9 lawS (plainElem Try.prog 3) Value.string (Value.int .i64) (fun key kl h => Maps.keyOf_string_inv Try.underlying9 h) (fun v y h => by obtain ⟨c, rfl, _⟩ := plainElem_int_inv Try.underlying3 h; exact ⟨c, rfl⟩) w.heap.size w1.heap.size 28 _ _ _ rfl hrg ?_ ?_)
    · intro _ hl0
      have ht : textOf k = [] := by
        unfold textOf
        split
        · rename_i h
          have := HL.out k.toNat (by omega) (by omega) (by omega)
          rw [hl0] at this; cases this
        · rfl
      go_wp2
      go_ret
      exact ⟨ret_str ht.symm, hbel⟩
    · intro x c kl y ps w2 cnt1 hkl hlx hR hat hrg1 hlt hg1 hs1 hen
      have hbel1 : Below w.heap.size w w2 := hbel.grown hg1 hbel.size (fun j hj => by cases hj; omega)
      obtain ⟨hx, hkl2⟩ : x.size ≤ maxLen ∧ kl = .string x.data.toList := by
        simp [keyOf, Try.underlying9, mapKey] at hkl
        exact ⟨hkl.1, hkl.2.symm⟩
      subst hkl2
      obtain ⟨c', ec, ey, hwc⟩ := plainElem_int_inv Try.underlying3 hR
      cases ec; cases ey
      obtain ⟨k1, k2, k3, k4⟩ := kw_entry hat
      by_cases hc : c = k
      · have hq : (c == k) = true := by simpa using hc
        have hx2 : textOf k = x.data.toList := by
          rw [← hc, k3]; unfold textOf; rw [if_pos (by omega)]; simpa using k4
        have HX := Lib.hid hx2
        clear hx2 hc k1 k2 k3 k4 hat hR hlx
        go_wp2_with fail
        go_ret
        exact ⟨by rw [HX.out]; rfl, hbel1⟩
      · have hq : (c == k) = false := by simpa using hc
        have HL2 : Hid (∀ j : Nat, 1 ≤ j → j ≤ 28 → k = (j : Int) → (left (.string (word j)) && !(Lit.string (word j)).sameKey (.string x.data.toList)) = true) := fun j h1 h2 h3 => by
          rw [HL.out j h1 h2 h3]
          have hne : (Lit.string (word j)).sameKey (.string x.data.toList) = false := by
            refine Maps.sameKey_ne (fun e => hc ?_)
            have e2 := Lit.string.inj e
            rw [k3, h3, num_of_word h1 h2 e2]
          rw [hne]; rfl
        clear hc k1 k2 k3 k4 hat hR hlx
        go_wp2_with fail
        go_roundw
        case rel => exact ⟨_, cnt1, hrg1, HL2, hbel1⟩
        case measure => rw [hrg1.left_eq, hrg.left_eq]; exact hlt
end Go.Proofs.Ytpehplmkhmpgmaa
