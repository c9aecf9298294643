
/- Contracts of the model's order of values and of rows. -/
import Derived.Test.YtjekhgekldkopaaValMath
import Derived.Test.YtjekhgekldkopaaValSlDef
import Derived.Test.YtjekhgekldkopaaLat
import Derived.Test.YtjekhgekldkopaaLexMath2
import Derived.Laws.Cover1
namespace Go.Proofs.Ytjekhgekldkopaa
open Go.RowKit

/-- a value as its kind, its number and its bytes -/
def vl (v : Int × Int × ByteArray) : VL := (v.1, v.2.1, v.2.2.data.toList)
theorem ba_toList (t : ByteArray) : t.toList = t.data.toList := ByteArray.toList_eq t

set_option maxRecDepth 100000 in
set_option maxHeartbeats 4000000 in
theorem order_spec (k a : Int) (t : ByteArray) (k' a' : Int) (t' : ByteArray) (w : World) :
    Calls Try.prog 61 #[.agg #[.int .i64 k, .int .i64 a, .string t], .agg #[.int .i64 k', .int .i64 a', .string t']] w (IntE (ordV (k, a, t.data.toList) (k', a', t'.data.toList)) w) := by
  have hbb : Below w.heap.size w ((w.alloc (.cells #[.int .i64 k, .int .i64 a, .string t] 27)).alloc (.cells #[.int .i64 k', .int .i64 a', .string t'] 27)) :=
    ((Below.refl w.heap.size w).alloc (Nat.le_refl _) _).alloc (by simp) _
  have hO : ordV (k, a, t.data.toList) (k', a', t'.data.toList) = (if k < k' then -1 else if k' < k then 1 else if a < a' then -1 else if a' < a then 1 else if Op.bytesLess t.data.toList t'.data.toList then -1 else if Op.bytesLess t'.data.toList t.data.toList then 1 else 0) := rfl
  generalize ordV (k, a, t.data.toList) (k', a', t'.data.toList) = X at hO ⊢
  rw [← ba_toList t, ← ba_toList t'] at hO
  by_cases h0 : k < k'
  · have d0 : decide (k < k') = true := by simpa using h0
    rw [if_pos h0] at hO
    have HO := Lib.hid hO; clear hO
    go_enter Try.func61, Try.ntmps61
    go_wp2_with fail
    go_ret
    exact ⟨by rw [HO.out]; rfl, hbb⟩
  have d0 : decide (k < k') = false := by simpa using h0
  rw [if_neg h0] at hO
  by_cases h1 : k' < k
  · have d1 : decide (k' < k) = true := by simpa using h1
    rw [if_pos h1] at hO
    have HO := Lib.hid hO; clear hO
    go_enter Try.func61, Try.ntmps61
    go_wp2_with fail
    go_ret
    exact ⟨by rw [HO.out]; rfl, hbb⟩
  have d1 : decide (k' < k) = false := by simpa using h1
  rw [if_neg h1] at hO
  by_cases h2 : a < a'
  · have d2 : decide (a < a') = true := by simpa using h2
    rw [if_pos h2] at hO
    have HO := Lib.hid hO; clear hO
    go_enter Try.func61, Try.ntmps61
    go_wp2_with fail
    go_ret
    exact ⟨by rw [HO.out]; rfl, hbb⟩
  have d2 : decide (a < a') = false := by simpa using h2
  rw [if_neg h2] at hO
  by_cases h3 : a' < a
  · have d3 : decide (a' < a) = true := by simpa using h3
    rw [if_pos h3] at hO
    have HO := Lib.hid hO; clear hO
    go_enter Try.func61, Try.ntmps61
    go_wp2_with fail
    go_ret
    exact ⟨by rw [HO.out]; rfl, hbb⟩
  have d3 : decide (a' < a) = false := by simpa using h3
  rw [if_neg h3] at hO
  have htri := bl_tri t.toList t'.toList
  have hirr := bl_irrefl t.toList
  cases h4 : Op.bytesLess t.toList t'.toList
  · rw [h4, if_no rfl] at hO
    cases h5 : (t.toList == t'.toList)
    · have h6 : Op.bytesLess t'.toList t.toList = true := by
        cases h6 : Op.bytesLess t'.toList t.toList
        · have := htri h4 h6
          rw [this] at h5
          simp at h5
        · rfl
      have h7 : (t.toList != t'.toList) = true := by unfold bne; rw [h5]; rfl
      rw [h6, if_pos rfl] at hO
      have HO := Lib.hid hO; clear hO htri hirr
      go_enter Try.func61, Try.ntmps61
      go_wp2_with fail
      go_ret
      exact ⟨by rw [HO.out]; rfl, hbb⟩
    · have e : t.toList = t'.toList := by simpa using h5
      have h7 : (t.toList != t'.toList) = false := by unfold bne; rw [h5]; rfl
      rw [← e, hirr, if_no rfl] at hO
      have HO := Lib.hid hO; clear hO htri hirr e
      go_enter Try.func61, Try.ntmps61
      go_wp2_with fail
      go_ret
      exact ⟨by rw [HO.out]; rfl, hbb⟩
  · rw [h4, if_pos rfl] at hO
    have HO := Lib.hid hO; clear hO htri hirr
    go_enter Try.func61, Try.ntmps61
    go_wp2_with fail
    go_ret
    exact ⟨by rw [HO.out]; rfl, hbb⟩

/-- the first n values of f -/
def rowF (n : Nat) (f : Nat → Int × Int × ByteArray) : List VL := (List.range n).map fun j => vl (f j)
theorem rowF_drop {n k : Nat} {f : Nat → Int × Int × ByteArray} (h : k < n) : (rowF n f).drop k = vl (f k) :: (rowF n f).drop (k + 1) := by
  have hl : k < (rowF n f).length := by simpa [rowF] using h
  rw [List.drop_eq_getElem_cons hl]
  congr 1
  simp [rowF]
theorem rowF_end {n k : Nat} {f : Nat → Int × Int × ByteArray} (h : ¬ k < n) : (rowF n f).drop k = [] := by
  apply List.drop_eq_nil_iff.2
  simp [rowF]; omega
theorem ordR_nil_cons (b : VL) (y : List VL) : ordR [] (b :: y) = -1 := rfl
theorem ordR_cons_nil (a : VL) (x : List VL) : ordR (a :: x) [] = 1 := rfl

end Go.Proofs.Ytjekhgekldkopaa
