/- The walk of the law FnDigits. -/
import Derived.Test.YtojafonpfcpmjaaDoorItoa
import Derived.Test.YtojafonpfcpmjaaDoorNmbI
import Derived.Test.YtojafonpfcpmjaaDoorBig
namespace Go.Proofs.YtojafonpfcpmjaaDoor
open Go.RowKit
open Go.Lib (decDigits itoa)

set_option maxHeartbeats 400000 in
theorem drawDigits_any (B : Nat) (a : Option Addr) (len cap : Nat) (W : World) (H : RowB B a len W) (hB : B ≤ W.heap.size) :
    Calls Tryd.prog 8 #[.slice a len cap] W (GiveE .i64 (-9223372036854775808) 9223372036854775807 B W) := by
  go_enter Tryd.func8, Tryd.ntmps8
  go_wp2_with fail
  refine (new_any B a len cap _ H hB).mono ?_
  rintro e W1 ⟨rfl, hc, hb⟩
  have hz := hb.size
  go_wp2_with fail
  refine (whole_any B W.heap.size a len cap _ hc).mono ?_
  rintro e W2 ⟨x, hx0, hx1, rfl, hc2, hg2⟩
  have hb2 := below_of_grown hb hg2 hB (by omega)
  go_wp2_with fail
  go_ret
  exact ⟨x, hx0, hx1, rfl, hb2⟩

theorem itoa_len (n : Int) (h0 : -9223372036854775808 ≤ n) (h1 : n ≤ 9223372036854775807) : (itoa n).length ≤ 20 := by
  unfold itoa
  split
  · have := dec_len 18 n.natAbs (by omega); simp; omega
  · have := dec_len 18 n.toNat (by omega); omega
theorem itoa_num (n : Int) (h0 : 0 ≤ n) (h1 : n ≤ 9223372036854775807) : Num (itoa n) n.toNat := by
  unfold itoa; rw [if_neg (by omega)]
  exact ⟨by omega, rfl⟩
theorem itoa_no (n : Int) (h0 : n < 0) : ∀ m, ¬ Num (itoa n) m := by
  intro m h
  have hd := h.dig
  unfold itoa at hd; rw [if_pos h0] at hd
  have := (hd 45 (by simp)).1
  revert this; decide

set_option maxRecDepth 100000 in
set_option maxHeartbeats 800000 in
theorem digits_law (a : Option Addr) (len cap : Nat) (w : World) (hrow : RowB w.heap.size a len w) (hp : Pows w) : Calls Tryd.prog 3 #[.slice a len cap] w (LawE w) := by
  have hlen := hrow.1
  have hpos := hp.pos
  by_cases hbig : 1048576 < len
  · go_enter Tryd.func3, Tryd.ntmps3
    go_wp2_with fail
    refine (big_yes a len cap _ hlen hbig).mono ?_
    rintro e w' ⟨rfl, rfl⟩
    go_wp2_with fail
    go_ret
    exact ⟨rfl, Below.refl _ _⟩
  · go_enter Tryd.func3, Tryd.ntmps3
    go_wp2_with fail
    refine (big_no a len cap _ hbig).mono ?_
    rintro e w' ⟨rfl, rfl⟩
    go_wp2_with fail
    refine (drawDigits_any w.heap.size a len cap _ hrow (Nat.le_refl _)).mono ?_
    rintro e w1 ⟨n, n0, n1, rfl, hb1⟩
    have hp1 := hp.later hb1 hpos
    go_wp2_with fail
    refine (digits_impl n _ n0 n1 hp1).mono ?_
    rintro e w2 ⟨rfl, hb2⟩
    have hb2' := hb1.trans (hb2.mono hb1.size)
    have hp2 := hp.later hb2' hpos
    clear hb1 hb2 hp1
    have hl := itoa_len n n0 n1
    go_wp2_with fail
    refine (number_impl ⟨(itoa n).toArray⟩ _ (by show (itoa n).length ≤ maxLen; unfold maxLen; omega)).mono ?_
    rintro e w3 ⟨hcase, hb3⟩
    have hb3' := hb2'.trans (hb3.mono hb2'.size)
    have hp3 := hp.later hb3' hpos
    clear hb2' hb3 hp2 hl
    by_cases hneg : n < 0
    · have hd : decide (n < 0) = true := by simpa using hneg
      rcases hcase with ⟨m, hm, rfl⟩ | ⟨hno, rfl⟩
      · exact absurd hm (itoa_no n hneg m)
      clear hno
      go_wp2_with fail
      refine (digits_impl n _ n0 n1 hp3).mono ?_
      rintro e w4 ⟨rfl, hb4⟩
      have hb4' := hb3'.trans (hb4.mono hb3'.size)
      go_wp2_with fail
      refine (digits_spec n _ n0 n1).mono ?_
      rintro e w5 ⟨rfl, hb5⟩
      have hb5' := hb4'.trans (hb5.mono hb4'.size)
      go_wp2
      go_ret
      exact ⟨rfl, hb5'⟩
    · have hd : decide (n < 0) = false := by simpa using hneg
      rcases hcase with ⟨m, hm, rfl⟩ | ⟨hno, rfl⟩
      · have hmn : m = n.toNat := hm.uniq (itoa_num n (by omega) n1)
        have hmi : (m : Int) = n := by omega
        rw [hmi]
        clear hm hmn hmi
        go_wp2_with fail
        refine (digits_impl n _ n0 n1 hp3).mono ?_
        rintro e w4 ⟨rfl, hb4⟩
        have hb4' := hb3'.trans (hb4.mono hb3'.size)
        go_wp2_with fail
        refine (digits_spec n _ n0 n1).mono ?_
        rintro e w5 ⟨rfl, hb5⟩
        have hb5' := hb4'.trans (hb5.mono hb4'.size)
        go_wp2
        go_ret
        exact ⟨rfl, hb5'⟩
      · exact absurd (itoa_num n (by omega) n1) (hno _)
end Go.Proofs.YtojafonpfcpmjaaDoor
