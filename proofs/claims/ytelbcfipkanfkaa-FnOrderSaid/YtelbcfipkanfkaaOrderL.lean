
/- The walk of the law FnOrder, from the contract of the program's order. -/
import Derived.Test.YtelbcfipkanfkaaBig
import Derived.Test.YtelbcfipkanfkaaOrdLaw
import Derived.Test.YtelbcfipkanfkaaDrawOrd
namespace Go.Proofs.Ytelbcfipkanfkaa
open Go.RowKit

/-- what is left of the bytes that came in -/
def TailE (B : Nat) (w : World) (e : Ending) (w' : World) : Prop := w = w' ∧ ∃ (a' : Option Addr) (len' cap' : Nat), e = .returned (.slice a' len' cap') ∧ RowB B a' len' w
theorem rowB_less {B b off len d m : Nat} {w : World} (H : RowB B (some ⟨b, off, none⟩) len w) (h : d + m ≤ len) : RowB B (some ⟨b, off + d, none⟩) m w := by
  refine ⟨by have := H.1; omega, fun j hj => ?_⟩
  obtain ⟨b', off', n, e1, e2, e3, e4, e5⟩ := H.2 (d + j) (by omega)
  have eb : b = b' ∧ off = off' := by simpa using e1
  obtain ⟨rfl, rfl⟩ := eb
  exact ⟨b, off + d, n, rfl, e2, e3, e4, by rw [Nat.add_assoc]; exact e5⟩

set_option maxRecDepth 100000 in
set_option maxHeartbeats 800000 in
theorem tail_any (B : Nat) (a : Option Addr) (len cap : Nat) (w : World) (H : RowB B a len w) :
    Calls Try.prog 14 #[.slice a len cap] w (TailE B w) := by
  have hlen := H.1
  by_cases h0 : len = 0
  · subst h0
    go_enter Try.func14, Try.ntmps14
    go_wp2_with fail
    go_ret
    exact ⟨rfl, _, _, _, rfl, H⟩
  · have d0 : ((len : Int) == 0) = false := by simp; omega
    have hi : (1 : Int) ≤ (len : Int) := by omega
    obtain ⟨b, off, n0, rfl, _⟩ := H.2 0 (by omega)
    go_enter Try.func14, Try.ntmps14
    go_wp2_with fail
    all_goals
      go_ret
      refine ⟨rfl, _, _, _, rfl, ?_⟩
      first
        | exact rowB_less (d := 1) H (by omega)
        | exact rowB_less (d := 0) H (by omega)
/-- two values in two blocks -/
def twoVal (k n : Int) (t : ByteArray) (k' n' : Int) (t' : ByteArray) (w : World) : World :=
  (w.alloc (.cells #[.int .i64 k, .int .i64 n, .string t] 25)).alloc (.cells #[.int .i64 k', .int .i64 n', .string t'] 25)
theorem twoVal_size (k n : Int) (t : ByteArray) (k' n' : Int) (t' : ByteArray) (w : World) : (twoVal k n t k' n' t' w).heap.size = w.heap.size + 2 := by simp [twoVal]
theorem twoVal_below (k n : Int) (t : ByteArray) (k' n' : Int) (t' : ByteArray) (w : World) : Below w.heap.size w (twoVal k n t k' n' t' w) :=
  ((Below.refl w.heap.size w).alloc (Nat.le_refl _) _).alloc (by simp) _
theorem twoVal_at (k n : Int) (t : ByteArray) (k' n' : Int) (t' : ByteArray) (w : World) : ValAt (twoVal k n t k' n' t' w) w.heap.size k n t ∧ ValAt (twoVal k n t k' n' t' w) (w.heap.size + 1) k' n' t' :=
  ⟨(Below.heap_alloc _ _ _ (by simp)).trans (heap_alloc_new w _), val_new w _ k' n' t'⟩

set_option maxRecDepth 100000 in
set_option maxHeartbeats 8000000 in
theorem order_law (hII : OrdI) (a : Option Addr) (len cap : Nat) (w : World) (hrow : RowB w.heap.size a len w) :
    Calls Try.prog 3 #[.slice a len cap] w (BoolE true w) := by
  have hlen := hrow.1
  by_cases hbig : 1048576 < len
  · go_enter Try.func3, Try.ntmps3
    go_wp2_with fail
    refine (big_yes a len cap _ hlen hbig).mono ?_
    rintro e w' ⟨rfl, rfl⟩
    go_wp2_with fail
    go_ret
    exact ⟨rfl, Below.refl _ _⟩
  · go_enter Try.func3, Try.ntmps3
    go_wp2_with fail
    refine (big_no a len cap _ hbig).mono ?_
    rintro e w' ⟨rfl, rfl⟩
    go_wp2_with fail
    refine (drawOrder_any w.heap.size a len cap _ hrow (Nat.le_refl _)).mono ?_
    rintro e w1 ⟨k, n, t, k', n', t', ht, ht', rfl, hb1⟩
    have hz1 := hb1.size
    have hbA := hb1.trans ((twoVal_below k n t k' n' t' w1).mono hz1)
    obtain ⟨vA, vB⟩ := twoVal_at k n t k' n' t' w1
    have hsA := twoVal_size k n t k' n' t' w1
    go_wp2_with fail
    generalize hwA : (w1.alloc (.cells #[.int .i64 k, .int .i64 n, .string t] 25)).alloc (.cells #[.int .i64 k', .int .i64 n', .string t'] 25) = wA
    change twoVal k n t k' n' t' w1 = wA at hwA
    rw [hwA] at hbA vA vB hsA
    clear hwA
    refine (tail_any w.heap.size a len cap _ (hrow.later hbA)).mono ?_
    rintro e w2 ⟨rfl, a', len', cap', rfl, hrow'⟩
    go_wp2_with fail
    refine (drawOrder_any wA.heap.size a' len' cap' _ (hrow'.wider5 hbA.size) (Nat.le_refl _)).mono ?_
    rintro e w3 ⟨k3, n3, t3, k4, n4, t4, ht3, ht4, rfl, hb3⟩
    have hbC := hbA.trans (hb3.mono hbA.size)
    replace vA := vA.below hb3 (by omega)
    replace vB := vB.below hb3 (by omega)
    have hz3 := hb3.size
    have hbD := hbC.trans ((twoVal_below k3 n3 t3 k4 n4 t4 w3).mono hbC.size)
    obtain ⟨vC, -⟩ := twoVal_at k3 n3 t3 k4 n4 t4 w3
    have hsC := twoVal_size k3 n3 t3 k4 n4 t4 w3
    have hlA : w1.heap.size < w3.heap.size := by omega
    have hlB : w1.heap.size + 1 < w3.heap.size := by omega
    have ca0 := cell_of_row w3 (w1.heap.size) 0 _ 25 (0, 0) vA
    have ca1 := cell_of_row w3 (w1.heap.size) 1 _ 25 (0, 0) vA
    have ca2 := cell_of_row w3 (w1.heap.size) 2 _ 25 (0, 0) vA
    have cb0 := cell_of_row w3 (w1.heap.size + 1) 0 _ 25 (0, 0) vB
    have cb1 := cell_of_row w3 (w1.heap.size + 1) 1 _ 25 (0, 0) vB
    have cb2 := cell_of_row w3 (w1.heap.size + 1) 2 _ 25 (0, 0) vB
    have wA := vA.below (twoVal_below k3 n3 t3 k4 n4 t4 w3) hlA
    have wB := vB.below (twoVal_below k3 n3 t3 k4 n4 t4 w3) hlB
    have hO1 := fun w => hII k n t k' n' t' w (by omega) (by omega)
    have hO2 := fun w => hII k' n' t' k n t w (by omega) (by omega)
    have hO3 := fun w => hII k' n' t' k3 n3 t3 w (by omega) (by omega)
    have hO4 := fun w => hII k n t k3 n3 t3 w (by omega) (by omega)
    rw [ordV_neg (k, n, t.data.toList) (k', n', t'.data.toList)] at hO2
    have hzero := @ordV_zero (k, n, t.data.toList) (k', n', t'.data.toList)
    have htr := @ordV_trans (k, n, t.data.toList) (k', n', t'.data.toList) (k3, n3, t3.data.toList)
    have hrg := ordV_range (k, n, t.data.toList) (k', n', t'.data.toList)
    generalize ordV (k, n, t.data.toList) (k', n', t'.data.toList) = x at hO1 hO2 hzero htr hrg
    generalize ordV (k', n', t'.data.toList) (k3, n3, t3.data.toList) = y at hO3 htr
    generalize ordV (k, n, t.data.toList) (k3, n3, t3.data.toList) = z at hO4 htr
    have HZ := Lib.hid hzero
    have HT := Lib.hid htr
    clear hzero htr hII vA vB
    go_wp2_with fail
    refine (hO1 _).mono ?_
    rintro e w4 ⟨rfl, hb4⟩
    have e4 : Below (w3.heap.size + 2) (twoVal k3 n3 t3 k4 n4 t4 w3) w4 := hb4.mono (Nat.le_of_eq hsC.symm)
    clear hb4 ca0 ca1 ca2 cb0 cb1 cb2
    have vA4 := wA.below e4 (by omega)
    have vB4 := wB.below e4 (by omega)
    have vC4 := vC.below e4 (by omega)
    have ca0 := cell_of_row w4 (w1.heap.size) 0 _ 25 (0, 0) vA4
    have ca1 := cell_of_row w4 (w1.heap.size) 1 _ 25 (0, 0) vA4
    have ca2 := cell_of_row w4 (w1.heap.size) 2 _ 25 (0, 0) vA4
    have cb0 := cell_of_row w4 (w1.heap.size + 1) 0 _ 25 (0, 0) vB4
    have cb1 := cell_of_row w4 (w1.heap.size + 1) 1 _ 25 (0, 0) vB4
    have cb2 := cell_of_row w4 (w1.heap.size + 1) 2 _ 25 (0, 0) vB4
    have cc0 := cell_of_row w4 (w3.heap.size) 0 _ 25 (0, 0) vC4
    have cc1 := cell_of_row w4 (w3.heap.size) 1 _ 25 (0, 0) vC4
    have cc2 := cell_of_row w4 (w3.heap.size) 2 _ 25 (0, 0) vC4
    clear vA4 vB4 vC4 hO1
    go_wp2_with fail
    refine (hO2 _).mono ?_
    rintro e w5 ⟨rfl, hb5⟩
    have e5 := e4.trans (hb5.mono (by have := e4.size; rw [hsC] at this; exact this))
    clear hb5 ca0 ca1 ca2 cb0 cb1 cb2 cc0 cc1 cc2 e4
    have vA4 := wA.below e5 (by omega)
    have vB4 := wB.below e5 (by omega)
    have vC4 := vC.below e5 (by omega)
    have ca0 := cell_of_row w5 (w1.heap.size) 0 _ 25 (0, 0) vA4
    have ca1 := cell_of_row w5 (w1.heap.size) 1 _ 25 (0, 0) vA4
    have ca2 := cell_of_row w5 (w1.heap.size) 2 _ 25 (0, 0) vA4
    have cb0 := cell_of_row w5 (w1.heap.size + 1) 0 _ 25 (0, 0) vB4
    have cb1 := cell_of_row w5 (w1.heap.size + 1) 1 _ 25 (0, 0) vB4
    have cb2 := cell_of_row w5 (w1.heap.size + 1) 2 _ 25 (0, 0) vB4
    have cc0 := cell_of_row w5 (w3.heap.size) 0 _ 25 (0, 0) vC4
    have cc1 := cell_of_row w5 (w3.heap.size) 1 _ 25 (0, 0) vC4
    have cc2 := cell_of_row w5 (w3.heap.size) 2 _ 25 (0, 0) vC4
    clear vA4 vB4 vC4 hO2
    have hdiff : x ≠ 0 → ¬ ((k, n, t.data.toList) : VL) = (k', n', t'.data.toList) := fun h e => h (HZ.out.2 e)
    have hdiff : x ≠ 0 → ¬ ((k, n, t.data.toList) : VL) = (k', n', t'.data.toList) := fun h e => h (HZ.out.2 e)
    have hdiff : x ≠ 0 → ¬ ((k, n, t.data.toList) : VL) = (k', n', t'.data.toList) := fun h e => h (HZ.out.2 e)
    have hdiff : x ≠ 0 → ¬ ((k, n, t.data.toList) : VL) = (k', n', t'.data.toList) := fun h e => h (HZ.out.2 e)
    have hdiff : x ≠ 0 → ¬ ((k, n, t.data.toList) : VL) = (k', n', t'.data.toList) := fun h e => h (HZ.out.2 e)
    rcases hrg with hx | hx | hx
    · subst hx
      have hne := hdiff (by omega)
      clear hdiff HZ
      by_cases hk : k = k'
      · obtain rfl := hk
        by_cases hn : n = n'
        · obtain rfl := hn
          have hT : ¬ t.toList = t'.toList := fun e => hne (by rw [ByteArray.toList_eq, ByteArray.toList_eq] at e; rw [e])
          clear hne
          go_wp2_with fail
          refine (hO3 _).mono ?_
          rintro e w6 ⟨rfl, hb6⟩
          have e6 := e5.trans (hb6.mono (by have := e5.size; rw [hsC] at this; exact this))
          clear hb6 ca0 ca1 ca2 cb0 cb1 cb2 cc0 cc1 cc2
          have vA4 := wA.below e6 (by omega)
          have vC4 := vC.below e6 (by omega)
          have ca0 := cell_of_row w6 (w1.heap.size) 0 _ 25 (0, 0) vA4
          have ca1 := cell_of_row w6 (w1.heap.size) 1 _ 25 (0, 0) vA4
          have ca2 := cell_of_row w6 (w1.heap.size) 2 _ 25 (0, 0) vA4
          have cc0 := cell_of_row w6 (w3.heap.size) 0 _ 25 (0, 0) vC4
          have cc1 := cell_of_row w6 (w3.heap.size) 1 _ 25 (0, 0) vC4
          have cc2 := cell_of_row w6 (w3.heap.size) 2 _ 25 (0, 0) vC4
          clear vA4 vC4
          by_cases hy : y ≤ 0
          · have dy : decide (y ≤ 0) = true := by simpa using hy
            have hz : z ≤ 0 := HT.out (by omega) hy
            have dz : decide (z ≤ 0) = true := by simpa using hz
            clear hy hz
            go_wp2_with fail
            refine (hO4 _).mono ?_
            rintro e w7 ⟨rfl, hb7⟩
            have e7 := e6.trans (hb7.mono (by have := e6.size; rw [hsC] at this; exact this))
            go_wp2_with fail
            go_ret
            exact ⟨rfl, hbD.trans (e7.mono (by have := hbC.size; omega))⟩
          · have dy : decide (y ≤ 0) = false := by simpa using hy
            clear hy
            go_wp2_with fail
            go_ret
            exact ⟨rfl, hbD.trans (e6.mono (by have := hbC.size; omega))⟩
        · clear hne
          go_wp2_with fail
          refine (hO3 _).mono ?_
          rintro e w6 ⟨rfl, hb6⟩
          have e6 := e5.trans (hb6.mono (by have := e5.size; rw [hsC] at this; exact this))
          clear hb6 ca0 ca1 ca2 cb0 cb1 cb2 cc0 cc1 cc2
          have vA4 := wA.below e6 (by omega)
          have vC4 := vC.below e6 (by omega)
          have ca0 := cell_of_row w6 (w1.heap.size) 0 _ 25 (0, 0) vA4
          have ca1 := cell_of_row w6 (w1.heap.size) 1 _ 25 (0, 0) vA4
          have ca2 := cell_of_row w6 (w1.heap.size) 2 _ 25 (0, 0) vA4
          have cc0 := cell_of_row w6 (w3.heap.size) 0 _ 25 (0, 0) vC4
          have cc1 := cell_of_row w6 (w3.heap.size) 1 _ 25 (0, 0) vC4
          have cc2 := cell_of_row w6 (w3.heap.size) 2 _ 25 (0, 0) vC4
          clear vA4 vC4
          by_cases hy : y ≤ 0
          · have dy : decide (y ≤ 0) = true := by simpa using hy
            have hz : z ≤ 0 := HT.out (by omega) hy
            have dz : decide (z ≤ 0) = true := by simpa using hz
            clear hy hz
            go_wp2_with fail
            refine (hO4 _).mono ?_
            rintro e w7 ⟨rfl, hb7⟩
            have e7 := e6.trans (hb7.mono (by have := e6.size; rw [hsC] at this; exact this))
            go_wp2_with fail
            go_ret
            exact ⟨rfl, hbD.trans (e7.mono (by have := hbC.size; omega))⟩
          · have dy : decide (y ≤ 0) = false := by simpa using hy
            clear hy
            go_wp2_with fail
            go_ret
            exact ⟨rfl, hbD.trans (e6.mono (by have := hbC.size; omega))⟩
      · clear hne
        go_wp2_with fail
        refine (hO3 _).mono ?_
        rintro e w6 ⟨rfl, hb6⟩
        have e6 := e5.trans (hb6.mono (by have := e5.size; rw [hsC] at this; exact this))
        clear hb6 ca0 ca1 ca2 cb0 cb1 cb2 cc0 cc1 cc2
        have vA4 := wA.below e6 (by omega)
        have vC4 := vC.below e6 (by omega)
        have ca0 := cell_of_row w6 (w1.heap.size) 0 _ 25 (0, 0) vA4
        have ca1 := cell_of_row w6 (w1.heap.size) 1 _ 25 (0, 0) vA4
        have ca2 := cell_of_row w6 (w1.heap.size) 2 _ 25 (0, 0) vA4
        have cc0 := cell_of_row w6 (w3.heap.size) 0 _ 25 (0, 0) vC4
        have cc1 := cell_of_row w6 (w3.heap.size) 1 _ 25 (0, 0) vC4
        have cc2 := cell_of_row w6 (w3.heap.size) 2 _ 25 (0, 0) vC4
        clear vA4 vC4
        by_cases hy : y ≤ 0
        · have dy : decide (y ≤ 0) = true := by simpa using hy
          have hz : z ≤ 0 := HT.out (by omega) hy
          have dz : decide (z ≤ 0) = true := by simpa using hz
          clear hy hz
          go_wp2_with fail
          refine (hO4 _).mono ?_
          rintro e w7 ⟨rfl, hb7⟩
          have e7 := e6.trans (hb7.mono (by have := e6.size; rw [hsC] at this; exact this))
          go_wp2_with fail
          go_ret
          exact ⟨rfl, hbD.trans (e7.mono (by have := hbC.size; omega))⟩
        · have dy : decide (y ≤ 0) = false := by simpa using hy
          clear hy
          go_wp2_with fail
          go_ret
          exact ⟨rfl, hbD.trans (e6.mono (by have := hbC.size; omega))⟩
    · subst hx
      have he := HZ.out.1 rfl
      obtain rfl : k = k' := congrArg Prod.fst he
      obtain rfl : n = n' := congrArg (fun v : VL => v.2.1) he
      obtain rfl : t = t' := by
        have htt : t.data.toList = t'.data.toList := congrArg (fun v : VL => v.2.2) he
        exact (ba_of htt).trans (ba_of rfl).symm
      clear hdiff HZ he
      go_wp2_with fail
      refine (hO3 _).mono ?_
      rintro e w6 ⟨rfl, hb6⟩
      have e6 := e5.trans (hb6.mono (by have := e5.size; rw [hsC] at this; exact this))
      clear hb6 ca0 ca1 ca2 cb0 cb1 cb2 cc0 cc1 cc2
      have vA4 := wA.below e6 (by omega)
      have vC4 := vC.below e6 (by omega)
      have ca0 := cell_of_row w6 (w1.heap.size) 0 _ 25 (0, 0) vA4
      have ca1 := cell_of_row w6 (w1.heap.size) 1 _ 25 (0, 0) vA4
      have ca2 := cell_of_row w6 (w1.heap.size) 2 _ 25 (0, 0) vA4
      have cc0 := cell_of_row w6 (w3.heap.size) 0 _ 25 (0, 0) vC4
      have cc1 := cell_of_row w6 (w3.heap.size) 1 _ 25 (0, 0) vC4
      have cc2 := cell_of_row w6 (w3.heap.size) 2 _ 25 (0, 0) vC4
      clear vA4 vC4
      by_cases hy : y ≤ 0
      · have dy : decide (y ≤ 0) = true := by simpa using hy
        have hz : z ≤ 0 := HT.out (by omega) hy
        have dz : decide (z ≤ 0) = true := by simpa using hz
        clear hy hz
        go_wp2_with fail
        refine (hO4 _).mono ?_
        rintro e w7 ⟨rfl, hb7⟩
        have e7 := e6.trans (hb7.mono (by have := e6.size; rw [hsC] at this; exact this))
        go_wp2_with fail
        go_ret
        exact ⟨rfl, hbD.trans (e7.mono (by have := hbC.size; omega))⟩
      · have dy : decide (y ≤ 0) = false := by simpa using hy
        clear hy
        go_wp2_with fail
        go_ret
        exact ⟨rfl, hbD.trans (e6.mono (by have := hbC.size; omega))⟩
    · subst hx
      have hne := hdiff (by omega)
      clear hdiff HZ
      by_cases hk : k = k'
      · obtain rfl := hk
        by_cases hn : n = n'
        · obtain rfl := hn
          have hT : ¬ t.toList = t'.toList := fun e => hne (by rw [ByteArray.toList_eq, ByteArray.toList_eq] at e; rw [e])
          clear hne
          go_wp2_with fail
          go_ret
          exact ⟨rfl, hbD.trans (e5.mono (by have := hbC.size; omega))⟩
        · clear hne
          go_wp2_with fail
          go_ret
          exact ⟨rfl, hbD.trans (e5.mono (by have := hbC.size; omega))⟩
      · clear hne
        go_wp2_with fail
        go_ret
        exact ⟨rfl, hbD.trans (e5.mono (by have := hbC.size; omega))⟩
end Go.Proofs.Ytelbcfipkanfkaa
