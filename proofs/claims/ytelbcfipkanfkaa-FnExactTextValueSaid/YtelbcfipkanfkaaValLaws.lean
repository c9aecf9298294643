
/- The walks of the exact laws on the test on values and on the makers of values. -/
import Derived.Test.YtelbcfipkanfkaaValS
import Derived.Test.YtelbcfipkanfkaaValSl
namespace Go.Proofs.Ytelbcfipkanfkaa
open Go.RowKit

/-- what the program's functions are known to do -/
def ValueOkI : Prop := ∀ (k n : Int) (t : ByteArray) (w : World), t.size ≤ 9223372036854775807 → Calls Try.prog 23 #[.agg #[.int .i64 k, .int .i64 n, .string t]] w (BoolE (valOk k n t.data.toList) w)
def IntValueI : Prop := ∀ (n : Int) (w : World), Calls Try.prog 25 #[.int .i64 n] w (CopyV 1 n ⟨#[]⟩ w)
def TextValueI : Prop := ∀ (s : ByteArray) (w : World), Calls Try.prog 28 #[.string s] w (CopyV 2 0 s w)
def BoolValueI : Prop := ∀ (b : Bool) (w : World), Calls Try.prog 30 #[.bool b] w (CopyV 3 (if b then 1 else 0) ⟨#[]⟩ w)

set_option maxRecDepth 100000 in
set_option maxHeartbeats 1600000 in
theorem ex_valueOk (hII : ValueOkI) (k a : Int) (t : ByteArray) (w : World) (hs : t.size ≤ maxLen) : Calls Try.prog 5 #[.agg #[.int .i64 k, .int .i64 a, .string t]] w (BoolE true w) := by
  have hs2 : t.size ≤ 9223372036854775807 := hs
  have hZ := fun w => szValue_any k a t 1048576 w hs2 (by omega) (by omega)
  have hB0 : ∀ w0 : World, w0 = w.alloc (.cells #[.int .i64 k, .int .i64 a, .string t] 35) → w0.heap[w.heap.size]? = some (.cells #[.int .i64 k, .int .i64 a, .string t] 35 (0, 0)) ∧ Below w.heap.size w w0 := fun w0 e => by
    subst e
    exact ⟨heap_alloc_new w _, (Below.refl _ _).alloc (Nat.le_refl _) _⟩
  by_cases hbig : 1048576 - (t.size : Int) < 0
  · have hd := leftOf_neg hbig
    generalize leftOf 1048576 t.size = z at hZ hd
    clear hbig hB0
    go_enter Try.func5, Try.ntmps5
    go_wp2_with fail
    refine (hZ _).mono ?_
    rintro e w1 ⟨rfl, hb1⟩
    have hbb := ((Below.refl w.heap.size w).alloc (Nat.le_refl _) _).trans (hb1.mono (by simp))
    go_wp2_with fail
    go_ret
    exact ⟨rfl, hbb⟩
  · have hd := leftOf_nat hbig
    generalize leftOf 1048576 t.size = z at hZ hd
    clear hbig
    have hS := fun w => valueOk_spec k a t w hs2
    have hI := fun w => hII k a t w hs2
    have hC := fun w => toValue_any k a t w
    generalize valOk k a t.data.toList = b at hS hI
    cases b
    all_goals
      go_enter Try.func5, Try.ntmps5
      go_wp2_with fail
      obtain ⟨hR, hB⟩ := hB0 _ rfl
      clear hB0
      generalize w.alloc (.cells #[.int .i64 k, .int .i64 a, .string t] 35) = w0 at hR hB ⊢
      refine (hZ _).mono ?_
      rintro e w1 ⟨rfl, hb1⟩
      replace hR := (hb1.block w.heap.size (Array.getElem?_eq_some_iff.1 hR).1).trans hR
      replace hB := hB.trans (hb1.mono hB.size)
      have c0 := cell_of_row w1 w.heap.size 0 _ 35 (0, 0) hR
      have c1 := cell_of_row w1 w.heap.size 1 _ 35 (0, 0) hR
      have c2 := cell_of_row w1 w.heap.size 2 _ 35 (0, 0) hR
      clear hb1 hZ
      go_wp2_with fail
      refine (hC _).mono ?_
      rintro e w2 ⟨rfl, hb2⟩
      replace hR := (hb2.block w.heap.size (Array.getElem?_eq_some_iff.1 hR).1).trans hR
      replace hB := hB.trans (hb2.mono hB.size)
      clear hb2 c0 c1 c2
      go_wp2_with fail
      refine (hS _).mono ?_
      rintro e w3 ⟨rfl, hb3⟩
      replace hR := (hb3.block w.heap.size (Array.getElem?_eq_some_iff.1 hR).1).trans hR
      replace hB := hB.trans (hb3.mono hB.size)
      have c0 := cell_of_row w3 w.heap.size 0 _ 35 (0, 0) hR
      have c1 := cell_of_row w3 w.heap.size 1 _ 35 (0, 0) hR
      have c2 := cell_of_row w3 w.heap.size 2 _ 35 (0, 0) hR
      clear hb3 hS
      go_wp2_with fail
      refine (hC _).mono ?_
      rintro e w4 ⟨rfl, hb4⟩
      replace hB := hB.trans (hb4.mono hB.size)
      clear hb4 c0 c1 c2 hR hC
      go_wp2_with fail
      refine (hI _).mono ?_
      rintro e w5 ⟨rfl, hb5⟩
      replace hB := hB.trans (hb5.mono hB.size)
      clear hb5 hI
      go_wp2_with fail
      go_ret
      exact ⟨rfl, hB⟩

set_option maxRecDepth 100000 in
set_option maxHeartbeats 2000000 in
theorem ex_intValue (hI : IntValueI) (n : Int) (w : World) : Calls Try.prog 6 #[.int .i64 n] w (BoolE true w) := by
  go_enter Try.func6, Try.ntmps6
  go_wp2_with fail
  refine (intValue_spec n _).mono ?_
  rintro e w1 ⟨rfl, hb1⟩
  have hRa := heap_alloc_new w1 (.cells #[.int .i64 1, .int .i64 n, .string ⟨#[]⟩] 25)
  have hba : Below w.heap.size w (w1.alloc (.cells #[.int .i64 1, .int .i64 n, .string ⟨#[]⟩] 25)) := hb1.alloc hb1.size _
  have hz1 := hb1.size
  go_wp2_with fail
  generalize hwa : w1.alloc (.cells #[.int .i64 1, .int .i64 n, .string ⟨#[]⟩] 25) = wa at hRa hba ⊢
  have hza : w1.heap.size < wa.heap.size := (Array.getElem?_eq_some_iff.1 hRa).1
  clear hwa
  refine (hI n _).mono ?_
  rintro e w2 ⟨rfl, hb2⟩
  have hR2 := (hb2.block w1.heap.size hza).trans hRa
  have c0 := cell_of_row w2 w1.heap.size 0 _ 25 (0, 0) hR2
  have c1 := cell_of_row w2 w1.heap.size 1 _ 25 (0, 0) hR2
  have c2 := cell_of_row w2 w1.heap.size 2 _ 25 (0, 0) hR2
  have hz2 : w1.heap.size < w2.heap.size := (Array.getElem?_eq_some_iff.1 hR2).1
  have hb3 := hba.trans (hb2.mono hba.size)
  have hb4 : Below w.heap.size w (w2.alloc (.cells #[.int .i64 1, .int .i64 n, .string ⟨#[]⟩] 25)) := hb3.alloc hb3.size _
  have hz4 := hb4.size
  go_wp2_with fail
  refine (eqValue_yes _ _ _ _).mono ?_
  rintro e w5 ⟨rfl, hb5⟩
  have hb := hb4.trans (hb5.mono hz4)
  go_wp2_with fail
  go_ret
  exact ⟨rfl, hb⟩
set_option maxRecDepth 100000 in
set_option maxHeartbeats 2000000 in
theorem ex_textValue (hI : TextValueI) (s : ByteArray) (w : World) (hs : s.size ≤ maxLen) : Calls Try.prog 7 #[.string s] w (BoolE true w) := by
  have hs2 : s.size ≤ 9223372036854775807 := hs
  by_cases hbig : 1048576 < s.size
  · have hd : decide (1048576 < (s.size : Int)) = true := by simp; omega
    go_enter Try.func7, Try.ntmps7
    go_wp2_with fail
    go_ret
    exact ⟨rfl, Below.refl _ _⟩
  · have hd : decide (1048576 < (s.size : Int)) = false := by simp; omega
    go_enter Try.func7, Try.ntmps7
    go_wp2_with fail
    refine (textValue_spec s _).mono ?_
    rintro e w1 ⟨rfl, hb1⟩
    have hRa := heap_alloc_new w1 (.cells #[.int .i64 2, .int .i64 0, .string s] 25)
    have hba : Below w.heap.size w (w1.alloc (.cells #[.int .i64 2, .int .i64 0, .string s] 25)) := hb1.alloc hb1.size _
    have hz1 := hb1.size
    go_wp2_with fail
    generalize hwa : w1.alloc (.cells #[.int .i64 2, .int .i64 0, .string s] 25) = wa at hRa hba ⊢
    have hza : w1.heap.size < wa.heap.size := (Array.getElem?_eq_some_iff.1 hRa).1
    clear hwa
    refine (hI s _).mono ?_
    rintro e w2 ⟨rfl, hb2⟩
    have hR2 := (hb2.block w1.heap.size hza).trans hRa
    have c0 := cell_of_row w2 w1.heap.size 0 _ 25 (0, 0) hR2
    have c1 := cell_of_row w2 w1.heap.size 1 _ 25 (0, 0) hR2
    have c2 := cell_of_row w2 w1.heap.size 2 _ 25 (0, 0) hR2
    have hz2 : w1.heap.size < w2.heap.size := (Array.getElem?_eq_some_iff.1 hR2).1
    have hb3 := hba.trans (hb2.mono hba.size)
    have hb4 : Below w.heap.size w (w2.alloc (.cells #[.int .i64 2, .int .i64 0, .string s] 25)) := hb3.alloc hb3.size _
    have hz4 := hb4.size
    go_wp2_with fail
    refine (eqValue_yes _ _ _ _).mono ?_
    rintro e w5 ⟨rfl, hb5⟩
    have hb := hb4.trans (hb5.mono hz4)
    go_wp2_with fail
    go_ret
    exact ⟨rfl, hb⟩
set_option maxRecDepth 100000 in
set_option maxHeartbeats 2000000 in
theorem ex_boolValue (hII : BoolValueI) (b : Bool) (w : World) : Calls Try.prog 8 #[.bool b] w (BoolE true w) := by
  have hS := fun w => boolValue_spec b w
  have hI := fun w => hII b w
  generalize (if b then (1 : Int) else 0) = x at hS hI
  go_enter Try.func8, Try.ntmps8
  go_wp2_with fail
  refine (hS _).mono ?_
  rintro e w1 ⟨rfl, hb1⟩
  have hRa := heap_alloc_new w1 (.cells #[.int .i64 3, .int .i64 x, .string ⟨#[]⟩] 25)
  have hba : Below w.heap.size w (w1.alloc (.cells #[.int .i64 3, .int .i64 x, .string ⟨#[]⟩] 25)) := hb1.alloc hb1.size _
  have hz1 := hb1.size
  go_wp2_with fail
  generalize hwa : w1.alloc (.cells #[.int .i64 3, .int .i64 x, .string ⟨#[]⟩] 25) = wa at hRa hba ⊢
  have hza : w1.heap.size < wa.heap.size := (Array.getElem?_eq_some_iff.1 hRa).1
  clear hwa
  refine (hI _).mono ?_
  rintro e w2 ⟨rfl, hb2⟩
  have hR2 := (hb2.block w1.heap.size hza).trans hRa
  have c0 := cell_of_row w2 w1.heap.size 0 _ 25 (0, 0) hR2
  have c1 := cell_of_row w2 w1.heap.size 1 _ 25 (0, 0) hR2
  have c2 := cell_of_row w2 w1.heap.size 2 _ 25 (0, 0) hR2
  have hz2 : w1.heap.size < w2.heap.size := (Array.getElem?_eq_some_iff.1 hR2).1
  have hb3 := hba.trans (hb2.mono hba.size)
  have hb4 : Below w.heap.size w (w2.alloc (.cells #[.int .i64 3, .int .i64 x, .string ⟨#[]⟩] 25)) := hb3.alloc hb3.size _
  have hz4 := hb4.size
  go_wp2_with fail
  refine (eqValue_yes _ _ _ _).mono ?_
  rintro e w5 ⟨rfl, hb5⟩
  have hb := hb4.trans (hb5.mono hz4)
  go_wp2_with fail
  go_ret
  exact ⟨rfl, hb⟩
end Go.Proofs.Ytelbcfipkanfkaa
