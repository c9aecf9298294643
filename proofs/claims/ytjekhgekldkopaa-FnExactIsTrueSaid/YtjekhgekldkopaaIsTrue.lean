
/- The walk of the exact law on IsTrue. -/
import Derived.Test.YtjekhgekldkopaaValArg
import Derived.Test.YtjekhgekldkopaaValSl
namespace Go.Proofs.Ytjekhgekldkopaa
open Go.RowKit

/-- the value is true -/
def trueV (k a : Int) : Bool := (k == 3) && (a == 1)
set_option maxRecDepth 100000 in
set_option maxHeartbeats 1000000 in
theorem isTrue_spec (k a : Int) (t : ByteArray) (w : World) : Calls Try.prog 37 #[.agg #[.int .i64 k, .int .i64 a, .string t]] w (BoolE (trueV k a) w) := by
  have hbb := (Below.refl w.heap.size w).alloc (Nat.le_refl _) (.cells #[.int .i64 k, .int .i64 a, .string t] 27)
  have hV : trueV k a = ((k == 3) && (a == 1)) := rfl
  generalize trueV k a = V at hV ⊢
  have HV := Lib.hid hV
  clear hV
  by_cases hk : k = 3
  · subst hk
    go_enter Try.func37, Try.ntmps37
    go_wp2_with fail
    go_ret
    exact ⟨by rw [HV.out]; rfl, hbb⟩
  · have q : (k == 3) = false := by simpa using hk
    go_enter Try.func37, Try.ntmps37
    go_wp2_with fail
    go_ret
    exact ⟨by rw [HV.out, q]; rfl, hbb⟩
set_option maxRecDepth 100000 in
set_option maxHeartbeats 1000000 in
theorem isTrue_impl (k a : Int) (t : ByteArray) (w : World) : Calls Try.prog 38 #[.agg #[.int .i64 k, .int .i64 a, .string t]] w (BoolE (trueV k a) w) := by
  have hbb := (Below.refl w.heap.size w).alloc (Nat.le_refl _) (.cells #[.int .i64 k, .int .i64 a, .string t] 27)
  have hV : trueV k a = ((k == 3) && (a == 1)) := rfl
  generalize trueV k a = V at hV ⊢
  have HV := Lib.hid hV
  clear hV
  by_cases hk : k = 3
  · subst hk
    go_enter Try.func38, Try.ntmps38
    go_wp2_with fail
    go_ret
    exact ⟨by rw [HV.out]; rfl, hbb⟩
  · have q : (k == 3) = false := by simpa using hk
    go_enter Try.func38, Try.ntmps38
    go_wp2_with fail
    go_ret
    exact ⟨by rw [HV.out, q]; rfl, hbb⟩
set_option maxRecDepth 100000 in
set_option maxHeartbeats 1600000 in
theorem ex_isTrue (k a : Int) (t : ByteArray) (w : World) (hs : t.size ≤ maxLen) : Calls Try.prog 13 #[.agg #[.int .i64 k, .int .i64 a, .string t]] w (BoolE true w) := by
  have hs2 : t.size ≤ 9223372036854775807 := hs
  have hZ := fun w => szValue_any k a t 1048576 w hs2 (by omega) (by omega)
  have hB0 : ∀ w0 : World, w0 = w.alloc (.cells #[.int .i64 k, .int .i64 a, .string t] 40) → w0.heap[w.heap.size]? = some (.cells #[.int .i64 k, .int .i64 a, .string t] 40 (0, 0)) ∧ Below w.heap.size w w0 := fun w0 e => by
    subst e
    exact ⟨heap_alloc_new w _, (Below.refl _ _).alloc (Nat.le_refl _) _⟩
  by_cases hbig : 1048576 - (t.size : Int) < 0
  · have hd := leftOf_neg hbig
    generalize leftOf 1048576 t.size = z at hZ hd
    clear hbig hB0
    go_enter Try.func13, Try.ntmps13
    go_wp2_with fail
    refine (hZ _).mono ?_
    rintro e w1 ⟨rfl, hb1⟩
    have hbb := ((Below.refl w.heap.size w).alloc (Nat.le_refl _) _).trans (hb1.mono (by simp))
    go_wp2_with fail
    go_ret
    exact ⟨rfl, hbb⟩
  · have hd := leftOf_nat hbig
    generalize leftOf 1048576 t.size = z at hZ hd
    clear hbig
    have hS := fun w => isTrue_spec k a t w
    have hI := fun w => isTrue_impl k a t w
    have hC := fun w => toValue_any k a t w
    generalize trueV k a = b at hS hI
    cases b
    all_goals
      go_enter Try.func13, Try.ntmps13
      go_wp2_with fail
      obtain ⟨hR, hB⟩ := hB0 _ rfl
      clear hB0
      generalize w.alloc (.cells #[.int .i64 k, .int .i64 a, .string t] 40) = w0 at hR hB ⊢
      refine (hZ _).mono ?_
      rintro e w1 ⟨rfl, hb1⟩
      replace hR := (hb1.block w.heap.size (Array.getElem?_eq_some_iff.1 hR).1).trans hR
      replace hB := hB.trans (hb1.mono hB.size)
      have c0 := cell_of_row w1 w.heap.size 0 _ 40 (0, 0) hR
      have c1 := cell_of_row w1 w.heap.size 1 _ 40 (0, 0) hR
      have c2 := cell_of_row w1 w.heap.size 2 _ 40 (0, 0) hR
      clear hb1 hZ
      go_wp2_with fail
      refine (hC _).mono ?_
      rintro e w2 ⟨rfl, hb2⟩
      replace hR := (hb2.block w.heap.size (Array.getElem?_eq_some_iff.1 hR).1).trans hR
      replace hB := hB.trans (hb2.mono hB.size)
      clear hb2 c0 c1 c2
      go_wp2_with fail
      refine (hS _).mono ?_
      rintro e w3 ⟨rfl, hb3⟩
      replace hR := (hb3.block w.heap.size (Array.getElem?_eq_some_iff.1 hR).1).trans hR
      replace hB := hB.trans (hb3.mono hB.size)
      have c0 := cell_of_row w3 w.heap.size 0 _ 40 (0, 0) hR
      have c1 := cell_of_row w3 w.heap.size 1 _ 40 (0, 0) hR
      have c2 := cell_of_row w3 w.heap.size 2 _ 40 (0, 0) hR
      clear hb3 hS
      go_wp2_with fail
      refine (hC _).mono ?_
      rintro e w4 ⟨rfl, hb4⟩
      replace hB := hB.trans (hb4.mono hB.size)
      clear hb4 c0 c1 c2 hR hC
      go_wp2_with fail
      refine (hI _).mono ?_
      rintro e w5 ⟨rfl, hb5⟩
      replace hB := hB.trans (hb5.mono hB.size)
      clear hb5 hI
      go_wp2_with fail
      go_ret
      exact ⟨rfl, hB⟩

end Go.Proofs.Ytjekhgekldkopaa
