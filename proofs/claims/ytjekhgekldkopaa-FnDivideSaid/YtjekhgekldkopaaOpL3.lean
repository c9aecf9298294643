
/- The walk of the law on quotients and remainders. -/
import Derived.Test.YtjekhgekldkopaaOpL2
namespace Go.Proofs.Ytjekhgekldkopaa
open Go.RowKit

theorem tdiv_facts {x y : Int} (hy : y ≠ 0) : x.tdiv y * y + x.tmod y = x ∧ (x.tmod y).natAbs < y.natAbs ∧ (x.tmod y = 0 ∨ (x.tmod y < 0 ↔ x < 0)) := by
  refine ⟨Int.tdiv_mul_add_tmod x y, ?_, ?_⟩
  · rw [Int.natAbs_tmod]; exact Nat.mod_lt _ (by omega)
  · by_cases hx : x < 0
    · by_cases h0 : x.tmod y = 0
      · exact .inl h0
      · refine .inr ⟨fun _ => hx, fun _ => ?_⟩
        have h1 : (-x).tmod y = - x.tmod y := Int.neg_tmod x y
        have h2 : 0 ≤ (-x).tmod y := Int.tmod_nonneg y (by omega)
        omega
    · exact .inr ⟨fun h => by have := Int.tmod_nonneg y (show 0 ≤ x by omega); omega, fun h => absurd h hx⟩
theorem tdiv_small {x y : Int} (hx : -9223372036854775808 ≤ x ∧ x ≤ 9223372036854775807) : -9223372036854775808 ≤ x.tdiv y * y ∧ x.tdiv y * y ≤ 9223372036854775807 := by
  have h1 : (x.tdiv y * y).natAbs ≤ x.natAbs := by
    rw [Int.natAbs_mul, Int.natAbs_tdiv]
    exact Nat.div_mul_le_self _ _
  by_cases h : x.tdiv y * y = 9223372036854775808
  · exfalso
    have h2 := Int.tdiv_mul_add_tmod x y
    by_cases hx0 : x < 0
    · -- the product has the sign of x or is 0
      have h3 : (-x).tmod y = - x.tmod y := Int.neg_tmod x y
      have h4 : 0 ≤ (-x).tmod y := Int.tmod_nonneg y (by omega)
      have h5 : (x.tmod y).natAbs ≤ x.natAbs := by rw [Int.natAbs_tmod]; exact Nat.mod_le _ _
      omega
    · have h4 := Int.tmod_nonneg y (show 0 ≤ x by omega)
      omega
  · omega
set_option maxRecDepth 100000 in
set_option maxHeartbeats 8000000 in
theorem divide_law (a : Option Addr) (len cap : Nat) (w : World) (hrow : RowB w.heap.size a len w) :
    Calls Try.prog 3 #[.slice a len cap] w (BoolE true w) := by
  have hlen := hrow.1
  by_cases hbig : 1048576 < len
  · go_enter Try.func3, Try.ntmps3
    go_wp2_with fail
    refine (big_yes a len cap _ hlen hbig).mono ?_
    rintro e w' ⟨rfl, rfl⟩
    go_wp2_with fail
    go_ret
    exact ⟨rfl, Below.refl _ _⟩
  · go_enter Try.func3, Try.ntmps3
    go_wp2_with fail
    refine (big_no a len cap _ hbig).mono ?_
    rintro e w' ⟨rfl, rfl⟩
    go_wp2_with fail
    refine (drawAdd_any w.heap.size a len cap _ hrow (Nat.le_refl _)).mono ?_
    rintro e w1 ⟨x, y, hx, hy, rfl, hb1⟩
    clear hbig hlen hrow
    have hI := fun n w => intValue_implC n w
    have hJ := fun n w => intValue_spec n w
    have hX := fun op (h : op = 13 ∨ op = 14) w => calc_impl op 1 x ⟨#[]⟩ 1 y ⟨#[]⟩ w (by decide) (by decide) hx.1 hx.2 hy.1 hy.2
    have hY := fun w => calc_spec 13 1 x ⟨#[]⟩ 1 y ⟨#[]⟩ w (by decide) (by decide) hx.1 hx.2 hy.1 hy.2
    have hQ := fun w => hX 13 (.inl rfl) w
    have hM := fun w => hX 14 (.inr rfl) w
    clear hX
    rw [calc_div 13 (.inl rfl)] at hQ hY
    rw [calc_div 14 (.inr rfl)] at hM
    by_cases hy0 : y = 0
    · subst hy0
      have e1 : numOpC 13 x 0 = errC 3 := rfl
      have e2 : numOpC 14 x 0 = errC 3 := rfl
      rw [e1] at hQ
      rw [e2] at hM
      clear e1 e2 hY hx hy
      unfold errC at hQ hM
      go_wp2_with fail
      refine (hI x _).mono ?_
      rintro e wn ⟨rfl, hbn⟩
      replace hb1 := hb1.trans (hbn.mono hb1.size)
      clear hbn
      go_wp2_with fail
      refine (hI 0 _).mono ?_
      rintro e wn ⟨rfl, hbn⟩
      replace hb1 := hb1.trans (hbn.mono hb1.size)
      clear hbn
      go_wp2_with fail
      refine (hQ _).mono ?_
      rintro e w4 ⟨rfl, hbn⟩
      replace hb1 := hb1.trans (hbn.mono hb1.size)
      clear hbn
      replace hb1 := hb1.alloc hb1.size (.cells #[.int .i64 0, .int .i64 0, .string ⟨#[]⟩] 27)
      go_wp2_with fail
      generalize w4.alloc (.cells #[.int .i64 0, .int .i64 0, .string ⟨#[]⟩] 27) = w5 at hb1 ⊢
      refine (hI x _).mono ?_
      rintro e wn ⟨rfl, hbn⟩
      replace hb1 := hb1.trans (hbn.mono hb1.size)
      clear hbn
      go_wp2_with fail
      refine (hI 0 _).mono ?_
      rintro e wn ⟨rfl, hbn⟩
      replace hb1 := hb1.trans (hbn.mono hb1.size)
      clear hbn
      go_wp2_with fail
      refine (hM _).mono ?_
      rintro e w8 ⟨rfl, hbn⟩
      replace hb1 := hb1.trans (hbn.mono hb1.size)
      clear hbn
      replace hb1 := hb1.alloc hb1.size (.cells #[.int .i64 0, .int .i64 0, .string ⟨#[]⟩] 27)
      go_wp2_with fail
      go_ret
      exact ⟨rfl, hb1⟩
    have qy : (y == 0) = false := by simpa using hy0
    obtain ⟨hs, hlt, hsg⟩ := tdiv_facts (x := x) hy0
    have hqs := tdiv_small (y := y) hx
    have hmf := tmod_fits (a := x) hy0 hy.1 hy.2
    have e1 : numOpC 13 x y = numC (x.tdiv y) := by show (if y = 0 then errC 3 else _) = _; rw [if_neg hy0]; rfl
    have e2 : numOpC 14 x y = ⟨1, x.tmod y, ⟨#[]⟩, 0⟩ := by show (if y = 0 then errC 3 else _) = _; rw [if_neg hy0]; exact CR.eta_num (fits_iff.2 hmf)
    rw [e1] at hQ hY
    rw [e2] at hM
    clear e1 e2
    have hm1 : y = -1 → x.tmod y = 0 := fun h => by rw [h]; exact tmod_m1 x
    have hnf : fits (x.tdiv y) = false → y = -1 := fun h => by
      by_cases hm : y = -1
      · exact hm
      · have := fits_iff.2 (quo_fits hx hy0 hm)
        rw [this] at h; cases h
    cases hf : fits (x.tdiv y)
    · obtain rfl := hnf hf
      have hr0 := hm1 rfl
      rw [numC_no hf] at hQ hY
      rw [hr0] at hM
      clear hf hnf hm1 hr0 hmf hqs hsg hlt hs hx hy hy0
      unfold errC at hQ hY
      go_wp2_with fail
      refine (hI x _).mono ?_
      rintro e wn ⟨rfl, hbn⟩
      replace hb1 := hb1.trans (hbn.mono hb1.size)
      clear hbn
      go_wp2_with fail
      refine (hI (-1) _).mono ?_
      rintro e wn ⟨rfl, hbn⟩
      replace hb1 := hb1.trans (hbn.mono hb1.size)
      clear hbn
      go_wp2_with fail
      refine (hQ _).mono ?_
      rintro e w4 ⟨rfl, hbn⟩
      replace hb1 := hb1.trans (hbn.mono hb1.size)
      clear hbn
      have rq : ValAt (w4.alloc (.cells #[.int .i64 0, .int .i64 0, .string ⟨#[]⟩] 27)) w4.heap.size 0 0 ⟨#[]⟩ := heap_alloc_new w4 _
      replace hb1 := hb1.alloc hb1.size (.cells #[.int .i64 0, .int .i64 0, .string ⟨#[]⟩] 27)
      go_wp2_with fail
      generalize w4.alloc (.cells #[.int .i64 0, .int .i64 0, .string ⟨#[]⟩] 27) = w5 at rq hb1 ⊢
      refine (hI x _).mono ?_
      rintro e w6 ⟨rfl, hbn⟩
      replace rq : ValAt w6 w4.heap.size 0 0 ⟨#[]⟩ := (hbn.block _ (cells_lt rq)).trans rq
      replace hb1 := hb1.trans (hbn.mono hb1.size)
      clear hbn
      go_wp2_with fail
      refine (hI (-1) _).mono ?_
      rintro e w7 ⟨rfl, hbn⟩
      replace rq : ValAt w7 w4.heap.size 0 0 ⟨#[]⟩ := (hbn.block _ (cells_lt rq)).trans rq
      replace hb1 := hb1.trans (hbn.mono hb1.size)
      clear hbn
      go_wp2_with fail
      refine (hM _).mono ?_
      rintro e w8 ⟨rfl, hbn⟩
      replace rq : ValAt w8 w4.heap.size 0 0 ⟨#[]⟩ := (hbn.block _ (cells_lt rq)).trans rq
      replace hb1 := hb1.trans (hbn.mono hb1.size)
      clear hbn
      have rr : ValAt (w8.alloc (.cells #[.int .i64 1, .int .i64 0, .string ⟨#[]⟩] 27)) w8.heap.size 1 0 ⟨#[]⟩ := heap_alloc_new w8 _
      have rq2 : ValAt (w8.alloc (.cells #[.int .i64 1, .int .i64 0, .string ⟨#[]⟩] 27)) w4.heap.size 0 0 ⟨#[]⟩ := (Below.heap_alloc w8 _ _ (cells_lt rq)).trans rq
      replace hb1 := hb1.alloc hb1.size (.cells #[.int .i64 1, .int .i64 0, .string ⟨#[]⟩] 27)
      clear rq
      go_wp2_with fail
      generalize w8.alloc (.cells #[.int .i64 1, .int .i64 0, .string ⟨#[]⟩] 27) = w9 at rr rq2 hb1 ⊢
      refine (hJ x _).mono ?_
      rintro e w10 ⟨rfl, hbn⟩
      replace rr : ValAt w10 w8.heap.size 1 0 ⟨#[]⟩ := (hbn.block _ (cells_lt rr)).trans rr
      replace rq2 : ValAt w10 w4.heap.size 0 0 ⟨#[]⟩ := (hbn.block _ (cells_lt rq2)).trans rq2
      replace hb1 := hb1.trans (hbn.mono hb1.size)
      clear hbn
      go_wp2_with fail
      refine (hJ (-1) _).mono ?_
      rintro e w11 ⟨rfl, hbn⟩
      replace rr : ValAt w11 w8.heap.size 1 0 ⟨#[]⟩ := (hbn.block _ (cells_lt rr)).trans rr
      replace rq2 : ValAt w11 w4.heap.size 0 0 ⟨#[]⟩ := (hbn.block _ (cells_lt rq2)).trans rq2
      replace hb1 := hb1.trans (hbn.mono hb1.size)
      clear hbn
      go_wp2_with fail
      refine (hY _).mono ?_
      rintro e w12 ⟨rfl, hbn⟩
      replace rr : ValAt w12 w8.heap.size 1 0 ⟨#[]⟩ := (hbn.block _ (cells_lt rr)).trans rr
      replace rq2 : ValAt w12 w4.heap.size 0 0 ⟨#[]⟩ := (hbn.block _ (cells_lt rq2)).trans rq2
      replace hb1 := hb1.trans (hbn.mono hb1.size)
      clear hbn
      have rr3 : ValAt (w12.alloc (.cells #[.int .i64 0, .int .i64 0, .string ⟨#[]⟩] 27)) w8.heap.size 1 0 ⟨#[]⟩ := (Below.heap_alloc w12 _ _ (cells_lt rr)).trans rr
      have rq3 : ValAt (w12.alloc (.cells #[.int .i64 0, .int .i64 0, .string ⟨#[]⟩] 27)) w4.heap.size 0 0 ⟨#[]⟩ := (Below.heap_alloc w12 _ _ (cells_lt rq2)).trans rq2
      replace hb1 := hb1.alloc hb1.size (.cells #[.int .i64 0, .int .i64 0, .string ⟨#[]⟩] 27)
      obtain ⟨c0, c1, c2⟩ := rq3.cells
      obtain ⟨d0, d1, d2⟩ := rr3.cells
      clear rr rq2 rr3 rq3 hI hJ hQ hM hY
      go_wp2_with fail
      go_ret
      exact ⟨rfl, hb1⟩
    rw [numC_yes hf] at hQ hY
    have hq0 := hqs.1
    have hq1 := hqs.2
    have hr0 := hmf.1
    have hr1 := hmf.2
    have hx0 := hx.1
    have hx1 := hx.2
    have hy1 := hy.1
    have hy2 := hy.2
    clear hf hnf hm1 hmf hqs hx hy
    generalize x.tdiv y = q at *
    generalize x.tmod y = R at *
    have hpos : 0 < y ∨ (y < 0 ∧ y ≠ -9223372036854775808) ∨ y = -9223372036854775808 := by omega
    have hRs : R = 0 ∨ (R ≠ 0 ∧ R < 0 ∧ x < 0) ∨ (R ≠ 0 ∧ ¬ R < 0 ∧ ¬ x < 0) := by
      by_cases h : R = 0
      · exact .inl h
      · rcases hsg with h1 | h1
        · exact absurd h1 h
        · by_cases h2 : R < 0
          · exact .inr (.inl ⟨h, h2, h1.1 h2⟩)
          · exact .inr (.inr ⟨h, h2, fun h3 => h2 (h1.2 h3)⟩)
    rcases hRs with hR | ⟨hR, hR2, hR3⟩ | ⟨hR, hR2, hR3⟩ <;> rcases hpos with hp | ⟨hp, hp2⟩ | hp
    · have t1 : (R == 0) = true := by simpa using hR
      have s1 : decide (0 < y) = true := by simpa using hp
      have s2 : decide (R < y) = true := by simp; omega
      have s3 : decide (-y < R) = true := by simp; omega
      clear hR hlt hsg
      go_wp2_with fail
      refine (hI x _).mono ?_
      rintro e wn ⟨rfl, hbn⟩
      replace hb1 := hb1.trans (hbn.mono hb1.size)
      clear hbn
      go_wp2_with fail
      refine (hI y _).mono ?_
      rintro e wn ⟨rfl, hbn⟩
      replace hb1 := hb1.trans (hbn.mono hb1.size)
      clear hbn
      go_wp2_with fail
      refine (hQ _).mono ?_
      rintro e w4 ⟨rfl, hbn⟩
      replace hb1 := hb1.trans (hbn.mono hb1.size)
      clear hbn
      have rq : ValAt (w4.alloc (.cells #[.int .i64 1, .int .i64 q, .string ⟨#[]⟩] 27)) w4.heap.size 1 q ⟨#[]⟩ := heap_alloc_new w4 _
      replace hb1 := hb1.alloc hb1.size (.cells #[.int .i64 1, .int .i64 q, .string ⟨#[]⟩] 27)
      go_wp2_with fail
      generalize w4.alloc (.cells #[.int .i64 1, .int .i64 q, .string ⟨#[]⟩] 27) = w5 at rq hb1 ⊢
      refine (hI x _).mono ?_
      rintro e w6 ⟨rfl, hbn⟩
      replace rq : ValAt w6 w4.heap.size 1 q ⟨#[]⟩ := (hbn.block _ (cells_lt rq)).trans rq
      replace hb1 := hb1.trans (hbn.mono hb1.size)
      clear hbn
      go_wp2_with fail
      refine (hI y _).mono ?_
      rintro e w7 ⟨rfl, hbn⟩
      replace rq : ValAt w7 w4.heap.size 1 q ⟨#[]⟩ := (hbn.block _ (cells_lt rq)).trans rq
      replace hb1 := hb1.trans (hbn.mono hb1.size)
      clear hbn
      go_wp2_with fail
      refine (hM _).mono ?_
      rintro e w8 ⟨rfl, hbn⟩
      replace rq : ValAt w8 w4.heap.size 1 q ⟨#[]⟩ := (hbn.block _ (cells_lt rq)).trans rq
      replace hb1 := hb1.trans (hbn.mono hb1.size)
      clear hbn
      have rr : ValAt (w8.alloc (.cells #[.int .i64 1, .int .i64 R, .string ⟨#[]⟩] 27)) w8.heap.size 1 R ⟨#[]⟩ := heap_alloc_new w8 _
      have rq2 : ValAt (w8.alloc (.cells #[.int .i64 1, .int .i64 R, .string ⟨#[]⟩] 27)) w4.heap.size 1 q ⟨#[]⟩ := (Below.heap_alloc w8 _ _ (cells_lt rq)).trans rq
      replace hb1 := hb1.alloc hb1.size (.cells #[.int .i64 1, .int .i64 R, .string ⟨#[]⟩] 27)
      clear rq
      go_wp2_with fail
      generalize w8.alloc (.cells #[.int .i64 1, .int .i64 R, .string ⟨#[]⟩] 27) = w9 at rr rq2 hb1 ⊢
      refine (hJ x _).mono ?_
      rintro e w10 ⟨rfl, hbn⟩
      replace rr : ValAt w10 w8.heap.size 1 R ⟨#[]⟩ := (hbn.block _ (cells_lt rr)).trans rr
      replace rq2 : ValAt w10 w4.heap.size 1 q ⟨#[]⟩ := (hbn.block _ (cells_lt rq2)).trans rq2
      replace hb1 := hb1.trans (hbn.mono hb1.size)
      clear hbn
      go_wp2_with fail
      refine (hJ y _).mono ?_
      rintro e w11 ⟨rfl, hbn⟩
      replace rr : ValAt w11 w8.heap.size 1 R ⟨#[]⟩ := (hbn.block _ (cells_lt rr)).trans rr
      replace rq2 : ValAt w11 w4.heap.size 1 q ⟨#[]⟩ := (hbn.block _ (cells_lt rq2)).trans rq2
      replace hb1 := hb1.trans (hbn.mono hb1.size)
      clear hbn
      go_wp2_with fail
      refine (hY _).mono ?_
      rintro e w12 ⟨rfl, hbn⟩
      replace rr : ValAt w12 w8.heap.size 1 R ⟨#[]⟩ := (hbn.block _ (cells_lt rr)).trans rr
      replace rq2 : ValAt w12 w4.heap.size 1 q ⟨#[]⟩ := (hbn.block _ (cells_lt rq2)).trans rq2
      replace hb1 := hb1.trans (hbn.mono hb1.size)
      clear hbn
      have rr3 : ValAt (w12.alloc (.cells #[.int .i64 1, .int .i64 q, .string ⟨#[]⟩] 27)) w8.heap.size 1 R ⟨#[]⟩ := (Below.heap_alloc w12 _ _ (cells_lt rr)).trans rr
      have rq3 : ValAt (w12.alloc (.cells #[.int .i64 1, .int .i64 q, .string ⟨#[]⟩] 27)) w4.heap.size 1 q ⟨#[]⟩ := (Below.heap_alloc w12 _ _ (cells_lt rq2)).trans rq2
      replace hb1 := hb1.alloc hb1.size (.cells #[.int .i64 1, .int .i64 q, .string ⟨#[]⟩] 27)
      obtain ⟨c0, c1, c2⟩ := rq3.cells
      obtain ⟨d0, d1, d2⟩ := rr3.cells
      clear rr rq2 rr3 rq3 hI hJ hQ hM hY
      go_wp2_with fail
      go_ret
      exact ⟨rfl, hb1⟩
    · have t1 : (R == 0) = true := by simpa using hR
      have s1 : decide (0 < y) = false := by simp; omega
      have s2 : decide (y < 0) = true := by simp; omega
      have s3 : decide (y < R) = true := by simp; omega
      have s4 : decide (R < -(y + 1) + 1) = true := by simp; omega
      clear hR hlt hsg
      go_wp2_with fail
      refine (hI x _).mono ?_
      rintro e wn ⟨rfl, hbn⟩
      replace hb1 := hb1.trans (hbn.mono hb1.size)
      clear hbn
      go_wp2_with fail
      refine (hI y _).mono ?_
      rintro e wn ⟨rfl, hbn⟩
      replace hb1 := hb1.trans (hbn.mono hb1.size)
      clear hbn
      go_wp2_with fail
      refine (hQ _).mono ?_
      rintro e w4 ⟨rfl, hbn⟩
      replace hb1 := hb1.trans (hbn.mono hb1.size)
      clear hbn
      have rq : ValAt (w4.alloc (.cells #[.int .i64 1, .int .i64 q, .string ⟨#[]⟩] 27)) w4.heap.size 1 q ⟨#[]⟩ := heap_alloc_new w4 _
      replace hb1 := hb1.alloc hb1.size (.cells #[.int .i64 1, .int .i64 q, .string ⟨#[]⟩] 27)
      go_wp2_with fail
      generalize w4.alloc (.cells #[.int .i64 1, .int .i64 q, .string ⟨#[]⟩] 27) = w5 at rq hb1 ⊢
      refine (hI x _).mono ?_
      rintro e w6 ⟨rfl, hbn⟩
      replace rq : ValAt w6 w4.heap.size 1 q ⟨#[]⟩ := (hbn.block _ (cells_lt rq)).trans rq
      replace hb1 := hb1.trans (hbn.mono hb1.size)
      clear hbn
      go_wp2_with fail
      refine (hI y _).mono ?_
      rintro e w7 ⟨rfl, hbn⟩
      replace rq : ValAt w7 w4.heap.size 1 q ⟨#[]⟩ := (hbn.block _ (cells_lt rq)).trans rq
      replace hb1 := hb1.trans (hbn.mono hb1.size)
      clear hbn
      go_wp2_with fail
      refine (hM _).mono ?_
      rintro e w8 ⟨rfl, hbn⟩
      replace rq : ValAt w8 w4.heap.size 1 q ⟨#[]⟩ := (hbn.block _ (cells_lt rq)).trans rq
      replace hb1 := hb1.trans (hbn.mono hb1.size)
      clear hbn
      have rr : ValAt (w8.alloc (.cells #[.int .i64 1, .int .i64 R, .string ⟨#[]⟩] 27)) w8.heap.size 1 R ⟨#[]⟩ := heap_alloc_new w8 _
      have rq2 : ValAt (w8.alloc (.cells #[.int .i64 1, .int .i64 R, .string ⟨#[]⟩] 27)) w4.heap.size 1 q ⟨#[]⟩ := (Below.heap_alloc w8 _ _ (cells_lt rq)).trans rq
      replace hb1 := hb1.alloc hb1.size (.cells #[.int .i64 1, .int .i64 R, .string ⟨#[]⟩] 27)
      clear rq
      go_wp2_with fail
      generalize w8.alloc (.cells #[.int .i64 1, .int .i64 R, .string ⟨#[]⟩] 27) = w9 at rr rq2 hb1 ⊢
      refine (hJ x _).mono ?_
      rintro e w10 ⟨rfl, hbn⟩
      replace rr : ValAt w10 w8.heap.size 1 R ⟨#[]⟩ := (hbn.block _ (cells_lt rr)).trans rr
      replace rq2 : ValAt w10 w4.heap.size 1 q ⟨#[]⟩ := (hbn.block _ (cells_lt rq2)).trans rq2
      replace hb1 := hb1.trans (hbn.mono hb1.size)
      clear hbn
      go_wp2_with fail
      refine (hJ y _).mono ?_
      rintro e w11 ⟨rfl, hbn⟩
      replace rr : ValAt w11 w8.heap.size 1 R ⟨#[]⟩ := (hbn.block _ (cells_lt rr)).trans rr
      replace rq2 : ValAt w11 w4.heap.size 1 q ⟨#[]⟩ := (hbn.block _ (cells_lt rq2)).trans rq2
      replace hb1 := hb1.trans (hbn.mono hb1.size)
      clear hbn
      go_wp2_with fail
      refine (hY _).mono ?_
      rintro e w12 ⟨rfl, hbn⟩
      replace rr : ValAt w12 w8.heap.size 1 R ⟨#[]⟩ := (hbn.block _ (cells_lt rr)).trans rr
      replace rq2 : ValAt w12 w4.heap.size 1 q ⟨#[]⟩ := (hbn.block _ (cells_lt rq2)).trans rq2
      replace hb1 := hb1.trans (hbn.mono hb1.size)
      clear hbn
      have rr3 : ValAt (w12.alloc (.cells #[.int .i64 1, .int .i64 q, .string ⟨#[]⟩] 27)) w8.heap.size 1 R ⟨#[]⟩ := (Below.heap_alloc w12 _ _ (cells_lt rr)).trans rr
      have rq3 : ValAt (w12.alloc (.cells #[.int .i64 1, .int .i64 q, .string ⟨#[]⟩] 27)) w4.heap.size 1 q ⟨#[]⟩ := (Below.heap_alloc w12 _ _ (cells_lt rq2)).trans rq2
      replace hb1 := hb1.alloc hb1.size (.cells #[.int .i64 1, .int .i64 q, .string ⟨#[]⟩] 27)
      obtain ⟨c0, c1, c2⟩ := rq3.cells
      obtain ⟨d0, d1, d2⟩ := rr3.cells
      clear rr rq2 rr3 rq3 hI hJ hQ hM hY
      go_wp2_with fail
      go_ret
      exact ⟨rfl, hb1⟩
    · have t1 : (R == 0) = true := by simpa using hR
      have s1 : decide (0 < y) = false := by simp; omega
      have s2 : decide (y < 0) = true := by simp; omega
      have s3 : decide (y < R) = true := by simp; omega
      have s4 : decide (R < wrap64 9223372036854775808) = false := by rw [show wrap64 9223372036854775808 = -9223372036854775808 by unfold wrap64; decide]; simp; omega
      clear hlt hsg hR
      subst hp
      go_wp2_with fail
      refine (hI x _).mono ?_
      rintro e wn ⟨rfl, hbn⟩
      replace hb1 := hb1.trans (hbn.mono hb1.size)
      clear hbn
      go_wp2_with fail
      refine (hI (-9223372036854775808) _).mono ?_
      rintro e wn ⟨rfl, hbn⟩
      replace hb1 := hb1.trans (hbn.mono hb1.size)
      clear hbn
      go_wp2_with fail
      refine (hQ _).mono ?_
      rintro e w4 ⟨rfl, hbn⟩
      replace hb1 := hb1.trans (hbn.mono hb1.size)
      clear hbn
      have rq : ValAt (w4.alloc (.cells #[.int .i64 1, .int .i64 q, .string ⟨#[]⟩] 27)) w4.heap.size 1 q ⟨#[]⟩ := heap_alloc_new w4 _
      replace hb1 := hb1.alloc hb1.size (.cells #[.int .i64 1, .int .i64 q, .string ⟨#[]⟩] 27)
      go_wp2_with fail
      generalize w4.alloc (.cells #[.int .i64 1, .int .i64 q, .string ⟨#[]⟩] 27) = w5 at rq hb1 ⊢
      refine (hI x _).mono ?_
      rintro e w6 ⟨rfl, hbn⟩
      replace rq : ValAt w6 w4.heap.size 1 q ⟨#[]⟩ := (hbn.block _ (cells_lt rq)).trans rq
      replace hb1 := hb1.trans (hbn.mono hb1.size)
      clear hbn
      go_wp2_with fail
      refine (hI (-9223372036854775808) _).mono ?_
      rintro e w7 ⟨rfl, hbn⟩
      replace rq : ValAt w7 w4.heap.size 1 q ⟨#[]⟩ := (hbn.block _ (cells_lt rq)).trans rq
      replace hb1 := hb1.trans (hbn.mono hb1.size)
      clear hbn
      go_wp2_with fail
      refine (hM _).mono ?_
      rintro e w8 ⟨rfl, hbn⟩
      replace rq : ValAt w8 w4.heap.size 1 q ⟨#[]⟩ := (hbn.block _ (cells_lt rq)).trans rq
      replace hb1 := hb1.trans (hbn.mono hb1.size)
      clear hbn
      have rr : ValAt (w8.alloc (.cells #[.int .i64 1, .int .i64 R, .string ⟨#[]⟩] 27)) w8.heap.size 1 R ⟨#[]⟩ := heap_alloc_new w8 _
      have rq2 : ValAt (w8.alloc (.cells #[.int .i64 1, .int .i64 R, .string ⟨#[]⟩] 27)) w4.heap.size 1 q ⟨#[]⟩ := (Below.heap_alloc w8 _ _ (cells_lt rq)).trans rq
      replace hb1 := hb1.alloc hb1.size (.cells #[.int .i64 1, .int .i64 R, .string ⟨#[]⟩] 27)
      clear rq
      go_wp2_with fail
      generalize w8.alloc (.cells #[.int .i64 1, .int .i64 R, .string ⟨#[]⟩] 27) = w9 at rr rq2 hb1 ⊢
      refine (hJ x _).mono ?_
      rintro e w10 ⟨rfl, hbn⟩
      replace rr : ValAt w10 w8.heap.size 1 R ⟨#[]⟩ := (hbn.block _ (cells_lt rr)).trans rr
      replace rq2 : ValAt w10 w4.heap.size 1 q ⟨#[]⟩ := (hbn.block _ (cells_lt rq2)).trans rq2
      replace hb1 := hb1.trans (hbn.mono hb1.size)
      clear hbn
      go_wp2_with fail
      refine (hJ (-9223372036854775808) _).mono ?_
      rintro e w11 ⟨rfl, hbn⟩
      replace rr : ValAt w11 w8.heap.size 1 R ⟨#[]⟩ := (hbn.block _ (cells_lt rr)).trans rr
      replace rq2 : ValAt w11 w4.heap.size 1 q ⟨#[]⟩ := (hbn.block _ (cells_lt rq2)).trans rq2
      replace hb1 := hb1.trans (hbn.mono hb1.size)
      clear hbn
      go_wp2_with fail
      refine (hY _).mono ?_
      rintro e w12 ⟨rfl, hbn⟩
      replace rr : ValAt w12 w8.heap.size 1 R ⟨#[]⟩ := (hbn.block _ (cells_lt rr)).trans rr
      replace rq2 : ValAt w12 w4.heap.size 1 q ⟨#[]⟩ := (hbn.block _ (cells_lt rq2)).trans rq2
      replace hb1 := hb1.trans (hbn.mono hb1.size)
      clear hbn
      have rr3 : ValAt (w12.alloc (.cells #[.int .i64 1, .int .i64 q, .string ⟨#[]⟩] 27)) w8.heap.size 1 R ⟨#[]⟩ := (Below.heap_alloc w12 _ _ (cells_lt rr)).trans rr
      have rq3 : ValAt (w12.alloc (.cells #[.int .i64 1, .int .i64 q, .string ⟨#[]⟩] 27)) w4.heap.size 1 q ⟨#[]⟩ := (Below.heap_alloc w12 _ _ (cells_lt rq2)).trans rq2
      replace hb1 := hb1.alloc hb1.size (.cells #[.int .i64 1, .int .i64 q, .string ⟨#[]⟩] 27)
      obtain ⟨c0, c1, c2⟩ := rq3.cells
      obtain ⟨d0, d1, d2⟩ := rr3.cells
      clear rr rq2 rr3 rq3 hI hJ hQ hM hY
      go_wp2_with fail
      go_ret
      exact ⟨rfl, hb1⟩
    · have t1 : (R == 0) = false := by simpa using hR
      have t2 : decide (R < 0) = true := by simpa using hR2
      have t3 : decide (x < 0) = true := by simpa using hR3
      have s1 : decide (0 < y) = true := by simpa using hp
      have s2 : decide (R < y) = true := by simp; omega
      have s3 : decide (-y < R) = true := by simp; omega
      clear hR hlt hsg hR2 hR3
      go_wp2_with fail
      refine (hI x _).mono ?_
      rintro e wn ⟨rfl, hbn⟩
      replace hb1 := hb1.trans (hbn.mono hb1.size)
      clear hbn
      go_wp2_with fail
      refine (hI y _).mono ?_
      rintro e wn ⟨rfl, hbn⟩
      replace hb1 := hb1.trans (hbn.mono hb1.size)
      clear hbn
      go_wp2_with fail
      refine (hQ _).mono ?_
      rintro e w4 ⟨rfl, hbn⟩
      replace hb1 := hb1.trans (hbn.mono hb1.size)
      clear hbn
      have rq : ValAt (w4.alloc (.cells #[.int .i64 1, .int .i64 q, .string ⟨#[]⟩] 27)) w4.heap.size 1 q ⟨#[]⟩ := heap_alloc_new w4 _
      replace hb1 := hb1.alloc hb1.size (.cells #[.int .i64 1, .int .i64 q, .string ⟨#[]⟩] 27)
      go_wp2_with fail
      generalize w4.alloc (.cells #[.int .i64 1, .int .i64 q, .string ⟨#[]⟩] 27) = w5 at rq hb1 ⊢
      refine (hI x _).mono ?_
      rintro e w6 ⟨rfl, hbn⟩
      replace rq : ValAt w6 w4.heap.size 1 q ⟨#[]⟩ := (hbn.block _ (cells_lt rq)).trans rq
      replace hb1 := hb1.trans (hbn.mono hb1.size)
      clear hbn
      go_wp2_with fail
      refine (hI y _).mono ?_
      rintro e w7 ⟨rfl, hbn⟩
      replace rq : ValAt w7 w4.heap.size 1 q ⟨#[]⟩ := (hbn.block _ (cells_lt rq)).trans rq
      replace hb1 := hb1.trans (hbn.mono hb1.size)
      clear hbn
      go_wp2_with fail
      refine (hM _).mono ?_
      rintro e w8 ⟨rfl, hbn⟩
      replace rq : ValAt w8 w4.heap.size 1 q ⟨#[]⟩ := (hbn.block _ (cells_lt rq)).trans rq
      replace hb1 := hb1.trans (hbn.mono hb1.size)
      clear hbn
      have rr : ValAt (w8.alloc (.cells #[.int .i64 1, .int .i64 R, .string ⟨#[]⟩] 27)) w8.heap.size 1 R ⟨#[]⟩ := heap_alloc_new w8 _
      have rq2 : ValAt (w8.alloc (.cells #[.int .i64 1, .int .i64 R, .string ⟨#[]⟩] 27)) w4.heap.size 1 q ⟨#[]⟩ := (Below.heap_alloc w8 _ _ (cells_lt rq)).trans rq
      replace hb1 := hb1.alloc hb1.size (.cells #[.int .i64 1, .int .i64 R, .string ⟨#[]⟩] 27)
      clear rq
      go_wp2_with fail
      generalize w8.alloc (.cells #[.int .i64 1, .int .i64 R, .string ⟨#[]⟩] 27) = w9 at rr rq2 hb1 ⊢
      refine (hJ x _).mono ?_
      rintro e w10 ⟨rfl, hbn⟩
      replace rr : ValAt w10 w8.heap.size 1 R ⟨#[]⟩ := (hbn.block _ (cells_lt rr)).trans rr
      replace rq2 : ValAt w10 w4.heap.size 1 q ⟨#[]⟩ := (hbn.block _ (cells_lt rq2)).trans rq2
      replace hb1 := hb1.trans (hbn.mono hb1.size)
      clear hbn
      go_wp2_with fail
      refine (hJ y _).mono ?_
      rintro e w11 ⟨rfl, hbn⟩
      replace rr : ValAt w11 w8.heap.size 1 R ⟨#[]⟩ := (hbn.block _ (cells_lt rr)).trans rr
      replace rq2 : ValAt w11 w4.heap.size 1 q ⟨#[]⟩ := (hbn.block _ (cells_lt rq2)).trans rq2
      replace hb1 := hb1.trans (hbn.mono hb1.size)
      clear hbn
      go_wp2_with fail
      refine (hY _).mono ?_
      rintro e w12 ⟨rfl, hbn⟩
      replace rr : ValAt w12 w8.heap.size 1 R ⟨#[]⟩ := (hbn.block _ (cells_lt rr)).trans rr
      replace rq2 : ValAt w12 w4.heap.size 1 q ⟨#[]⟩ := (hbn.block _ (cells_lt rq2)).trans rq2
      replace hb1 := hb1.trans (hbn.mono hb1.size)
      clear hbn
      have rr3 : ValAt (w12.alloc (.cells #[.int .i64 1, .int .i64 q, .string ⟨#[]⟩] 27)) w8.heap.size 1 R ⟨#[]⟩ := (Below.heap_alloc w12 _ _ (cells_lt rr)).trans rr
      have rq3 : ValAt (w12.alloc (.cells #[.int .i64 1, .int .i64 q, .string ⟨#[]⟩] 27)) w4.heap.size 1 q ⟨#[]⟩ := (Below.heap_alloc w12 _ _ (cells_lt rq2)).trans rq2
      replace hb1 := hb1.alloc hb1.size (.cells #[.int .i64 1, .int .i64 q, .string ⟨#[]⟩] 27)
      obtain ⟨c0, c1, c2⟩ := rq3.cells
      obtain ⟨d0, d1, d2⟩ := rr3.cells
      clear rr rq2 rr3 rq3 hI hJ hQ hM hY
      go_wp2_with fail
      go_ret
      exact ⟨rfl, hb1⟩
    · have t1 : (R == 0) = false := by simpa using hR
      have t2 : decide (R < 0) = true := by simpa using hR2
      have t3 : decide (x < 0) = true := by simpa using hR3
      have s1 : decide (0 < y) = false := by simp; omega
      have s2 : decide (y < 0) = true := by simp; omega
      have s3 : decide (y < R) = true := by simp; omega
      have s4 : decide (R < -(y + 1) + 1) = true := by simp; omega
      clear hR hlt hsg hR2 hR3
      go_wp2_with fail
      refine (hI x _).mono ?_
      rintro e wn ⟨rfl, hbn⟩
      replace hb1 := hb1.trans (hbn.mono hb1.size)
      clear hbn
      go_wp2_with fail
      refine (hI y _).mono ?_
      rintro e wn ⟨rfl, hbn⟩
      replace hb1 := hb1.trans (hbn.mono hb1.size)
      clear hbn
      go_wp2_with fail
      refine (hQ _).mono ?_
      rintro e w4 ⟨rfl, hbn⟩
      replace hb1 := hb1.trans (hbn.mono hb1.size)
      clear hbn
      have rq : ValAt (w4.alloc (.cells #[.int .i64 1, .int .i64 q, .string ⟨#[]⟩] 27)) w4.heap.size 1 q ⟨#[]⟩ := heap_alloc_new w4 _
      replace hb1 := hb1.alloc hb1.size (.cells #[.int .i64 1, .int .i64 q, .string ⟨#[]⟩] 27)
      go_wp2_with fail
      generalize w4.alloc (.cells #[.int .i64 1, .int .i64 q, .string ⟨#[]⟩] 27) = w5 at rq hb1 ⊢
      refine (hI x _).mono ?_
      rintro e w6 ⟨rfl, hbn⟩
      replace rq : ValAt w6 w4.heap.size 1 q ⟨#[]⟩ := (hbn.block _ (cells_lt rq)).trans rq
      replace hb1 := hb1.trans (hbn.mono hb1.size)
      clear hbn
      go_wp2_with fail
      refine (hI y _).mono ?_
      rintro e w7 ⟨rfl, hbn⟩
      replace rq : ValAt w7 w4.heap.size 1 q ⟨#[]⟩ := (hbn.block _ (cells_lt rq)).trans rq
      replace hb1 := hb1.trans (hbn.mono hb1.size)
      clear hbn
      go_wp2_with fail
      refine (hM _).mono ?_
      rintro e w8 ⟨rfl, hbn⟩
      replace rq : ValAt w8 w4.heap.size 1 q ⟨#[]⟩ := (hbn.block _ (cells_lt rq)).trans rq
      replace hb1 := hb1.trans (hbn.mono hb1.size)
      clear hbn
      have rr : ValAt (w8.alloc (.cells #[.int .i64 1, .int .i64 R, .string ⟨#[]⟩] 27)) w8.heap.size 1 R ⟨#[]⟩ := heap_alloc_new w8 _
      have rq2 : ValAt (w8.alloc (.cells #[.int .i64 1, .int .i64 R, .string ⟨#[]⟩] 27)) w4.heap.size 1 q ⟨#[]⟩ := (Below.heap_alloc w8 _ _ (cells_lt rq)).trans rq
      replace hb1 := hb1.alloc hb1.size (.cells #[.int .i64 1, .int .i64 R, .string ⟨#[]⟩] 27)
      clear rq
      go_wp2_with fail
      generalize w8.alloc (.cells #[.int .i64 1, .int .i64 R, .string ⟨#[]⟩] 27) = w9 at rr rq2 hb1 ⊢
      refine (hJ x _).mono ?_
      rintro e w10 ⟨rfl, hbn⟩
      replace rr : ValAt w10 w8.heap.size 1 R ⟨#[]⟩ := (hbn.block _ (cells_lt rr)).trans rr
      replace rq2 : ValAt w10 w4.heap.size 1 q ⟨#[]⟩ := (hbn.block _ (cells_lt rq2)).trans rq2
      replace hb1 := hb1.trans (hbn.mono hb1.size)
      clear hbn
      go_wp2_with fail
      refine (hJ y _).mono ?_
      rintro e w11 ⟨rfl, hbn⟩
      replace rr : ValAt w11 w8.heap.size 1 R ⟨#[]⟩ := (hbn.block _ (cells_lt rr)).trans rr
      replace rq2 : ValAt w11 w4.heap.size 1 q ⟨#[]⟩ := (hbn.block _ (cells_lt rq2)).trans rq2
      replace hb1 := hb1.trans (hbn.mono hb1.size)
      clear hbn
      go_wp2_with fail
      refine (hY _).mono ?_
      rintro e w12 ⟨rfl, hbn⟩
      replace rr : ValAt w12 w8.heap.size 1 R ⟨#[]⟩ := (hbn.block _ (cells_lt rr)).trans rr
      replace rq2 : ValAt w12 w4.heap.size 1 q ⟨#[]⟩ := (hbn.block _ (cells_lt rq2)).trans rq2
      replace hb1 := hb1.trans (hbn.mono hb1.size)
      clear hbn
      have rr3 : ValAt (w12.alloc (.cells #[.int .i64 1, .int .i64 q, .string ⟨#[]⟩] 27)) w8.heap.size 1 R ⟨#[]⟩ := (Below.heap_alloc w12 _ _ (cells_lt rr)).trans rr
      have rq3 : ValAt (w12.alloc (.cells #[.int .i64 1, .int .i64 q, .string ⟨#[]⟩] 27)) w4.heap.size 1 q ⟨#[]⟩ := (Below.heap_alloc w12 _ _ (cells_lt rq2)).trans rq2
      replace hb1 := hb1.alloc hb1.size (.cells #[.int .i64 1, .int .i64 q, .string ⟨#[]⟩] 27)
      obtain ⟨c0, c1, c2⟩ := rq3.cells
      obtain ⟨d0, d1, d2⟩ := rr3.cells
      clear rr rq2 rr3 rq3 hI hJ hQ hM hY
      go_wp2_with fail
      go_ret
      exact ⟨rfl, hb1⟩
    · have t1 : (R == 0) = false := by simpa using hR
      have t2 : decide (R < 0) = true := by simpa using hR2
      have t3 : decide (x < 0) = true := by simpa using hR3
      have s1 : decide (0 < y) = false := by simp; omega
      have s2 : decide (y < 0) = true := by simp; omega
      have s3 : decide (y < R) = true := by simp; omega
      have s4 : decide (R < wrap64 9223372036854775808) = false := by rw [show wrap64 9223372036854775808 = -9223372036854775808 by unfold wrap64; decide]; simp; omega
      clear hlt hsg hR
      subst hp
      go_wp2_with fail
      refine (hI x _).mono ?_
      rintro e wn ⟨rfl, hbn⟩
      replace hb1 := hb1.trans (hbn.mono hb1.size)
      clear hbn
      go_wp2_with fail
      refine (hI (-9223372036854775808) _).mono ?_
      rintro e wn ⟨rfl, hbn⟩
      replace hb1 := hb1.trans (hbn.mono hb1.size)
      clear hbn
      go_wp2_with fail
      refine (hQ _).mono ?_
      rintro e w4 ⟨rfl, hbn⟩
      replace hb1 := hb1.trans (hbn.mono hb1.size)
      clear hbn
      have rq : ValAt (w4.alloc (.cells #[.int .i64 1, .int .i64 q, .string ⟨#[]⟩] 27)) w4.heap.size 1 q ⟨#[]⟩ := heap_alloc_new w4 _
      replace hb1 := hb1.alloc hb1.size (.cells #[.int .i64 1, .int .i64 q, .string ⟨#[]⟩] 27)
      go_wp2_with fail
      generalize w4.alloc (.cells #[.int .i64 1, .int .i64 q, .string ⟨#[]⟩] 27) = w5 at rq hb1 ⊢
      refine (hI x _).mono ?_
      rintro e w6 ⟨rfl, hbn⟩
      replace rq : ValAt w6 w4.heap.size 1 q ⟨#[]⟩ := (hbn.block _ (cells_lt rq)).trans rq
      replace hb1 := hb1.trans (hbn.mono hb1.size)
      clear hbn
      go_wp2_with fail
      refine (hI (-9223372036854775808) _).mono ?_
      rintro e w7 ⟨rfl, hbn⟩
      replace rq : ValAt w7 w4.heap.size 1 q ⟨#[]⟩ := (hbn.block _ (cells_lt rq)).trans rq
      replace hb1 := hb1.trans (hbn.mono hb1.size)
      clear hbn
      go_wp2_with fail
      refine (hM _).mono ?_
      rintro e w8 ⟨rfl, hbn⟩
      replace rq : ValAt w8 w4.heap.size 1 q ⟨#[]⟩ := (hbn.block _ (cells_lt rq)).trans rq
      replace hb1 := hb1.trans (hbn.mono hb1.size)
      clear hbn
      have rr : ValAt (w8.alloc (.cells #[.int .i64 1, .int .i64 R, .string ⟨#[]⟩] 27)) w8.heap.size 1 R ⟨#[]⟩ := heap_alloc_new w8 _
      have rq2 : ValAt (w8.alloc (.cells #[.int .i64 1, .int .i64 R, .string ⟨#[]⟩] 27)) w4.heap.size 1 q ⟨#[]⟩ := (Below.heap_alloc w8 _ _ (cells_lt rq)).trans rq
      replace hb1 := hb1.alloc hb1.size (.cells #[.int .i64 1, .int .i64 R, .string ⟨#[]⟩] 27)
      clear rq
      go_wp2_with fail
      generalize w8.alloc (.cells #[.int .i64 1, .int .i64 R, .string ⟨#[]⟩] 27) = w9 at rr rq2 hb1 ⊢
      refine (hJ x _).mono ?_
      rintro e w10 ⟨rfl, hbn⟩
      replace rr : ValAt w10 w8.heap.size 1 R ⟨#[]⟩ := (hbn.block _ (cells_lt rr)).trans rr
      replace rq2 : ValAt w10 w4.heap.size 1 q ⟨#[]⟩ := (hbn.block _ (cells_lt rq2)).trans rq2
      replace hb1 := hb1.trans (hbn.mono hb1.size)
      clear hbn
      go_wp2_with fail
      refine (hJ (-9223372036854775808) _).mono ?_
      rintro e w11 ⟨rfl, hbn⟩
      replace rr : ValAt w11 w8.heap.size 1 R ⟨#[]⟩ := (hbn.block _ (cells_lt rr)).trans rr
      replace rq2 : ValAt w11 w4.heap.size 1 q ⟨#[]⟩ := (hbn.block _ (cells_lt rq2)).trans rq2
      replace hb1 := hb1.trans (hbn.mono hb1.size)
      clear hbn
      go_wp2_with fail
      refine (hY _).mono ?_
      rintro e w12 ⟨rfl, hbn⟩
      replace rr : ValAt w12 w8.heap.size 1 R ⟨#[]⟩ := (hbn.block _ (cells_lt rr)).trans rr
      replace rq2 : ValAt w12 w4.heap.size 1 q ⟨#[]⟩ := (hbn.block _ (cells_lt rq2)).trans rq2
      replace hb1 := hb1.trans (hbn.mono hb1.size)
      clear hbn
      have rr3 : ValAt (w12.alloc (.cells #[.int .i64 1, .int .i64 q, .string ⟨#[]⟩] 27)) w8.heap.size 1 R ⟨#[]⟩ := (Below.heap_alloc w12 _ _ (cells_lt rr)).trans rr
      have rq3 : ValAt (w12.alloc (.cells #[.int .i64 1, .int .i64 q, .string ⟨#[]⟩] 27)) w4.heap.size 1 q ⟨#[]⟩ := (Below.heap_alloc w12 _ _ (cells_lt rq2)).trans rq2
      replace hb1 := hb1.alloc hb1.size (.cells #[.int .i64 1, .int .i64 q, .string ⟨#[]⟩] 27)
      obtain ⟨c0, c1, c2⟩ := rq3.cells
      obtain ⟨d0, d1, d2⟩ := rr3.cells
      clear rr rq2 rr3 rq3 hI hJ hQ hM hY
      go_wp2_with fail
      go_ret
      exact ⟨rfl, hb1⟩
    · have t1 : (R == 0) = false := by simpa using hR
      have t2 : decide (R < 0) = false := by simpa using hR2
      have t3 : decide (x < 0) = false := by simpa using hR3
      have s1 : decide (0 < y) = true := by simpa using hp
      have s2 : decide (R < y) = true := by simp; omega
      have s3 : decide (-y < R) = true := by simp; omega
      clear hR hlt hsg hR2 hR3
      go_wp2_with fail
      refine (hI x _).mono ?_
      rintro e wn ⟨rfl, hbn⟩
      replace hb1 := hb1.trans (hbn.mono hb1.size)
      clear hbn
      go_wp2_with fail
      refine (hI y _).mono ?_
      rintro e wn ⟨rfl, hbn⟩
      replace hb1 := hb1.trans (hbn.mono hb1.size)
      clear hbn
      go_wp2_with fail
      refine (hQ _).mono ?_
      rintro e w4 ⟨rfl, hbn⟩
      replace hb1 := hb1.trans (hbn.mono hb1.size)
      clear hbn
      have rq : ValAt (w4.alloc (.cells #[.int .i64 1, .int .i64 q, .string ⟨#[]⟩] 27)) w4.heap.size 1 q ⟨#[]⟩ := heap_alloc_new w4 _
      replace hb1 := hb1.alloc hb1.size (.cells #[.int .i64 1, .int .i64 q, .string ⟨#[]⟩] 27)
      go_wp2_with fail
      generalize w4.alloc (.cells #[.int .i64 1, .int .i64 q, .string ⟨#[]⟩] 27) = w5 at rq hb1 ⊢
      refine (hI x _).mono ?_
      rintro e w6 ⟨rfl, hbn⟩
      replace rq : ValAt w6 w4.heap.size 1 q ⟨#[]⟩ := (hbn.block _ (cells_lt rq)).trans rq
      replace hb1 := hb1.trans (hbn.mono hb1.size)
      clear hbn
      go_wp2_with fail
      refine (hI y _).mono ?_
      rintro e w7 ⟨rfl, hbn⟩
      replace rq : ValAt w7 w4.heap.size 1 q ⟨#[]⟩ := (hbn.block _ (cells_lt rq)).trans rq
      replace hb1 := hb1.trans (hbn.mono hb1.size)
      clear hbn
      go_wp2_with fail
      refine (hM _).mono ?_
      rintro e w8 ⟨rfl, hbn⟩
      replace rq : ValAt w8 w4.heap.size 1 q ⟨#[]⟩ := (hbn.block _ (cells_lt rq)).trans rq
      replace hb1 := hb1.trans (hbn.mono hb1.size)
      clear hbn
      have rr : ValAt (w8.alloc (.cells #[.int .i64 1, .int .i64 R, .string ⟨#[]⟩] 27)) w8.heap.size 1 R ⟨#[]⟩ := heap_alloc_new w8 _
      have rq2 : ValAt (w8.alloc (.cells #[.int .i64 1, .int .i64 R, .string ⟨#[]⟩] 27)) w4.heap.size 1 q ⟨#[]⟩ := (Below.heap_alloc w8 _ _ (cells_lt rq)).trans rq
      replace hb1 := hb1.alloc hb1.size (.cells #[.int .i64 1, .int .i64 R, .string ⟨#[]⟩] 27)
      clear rq
      go_wp2_with fail
      generalize w8.alloc (.cells #[.int .i64 1, .int .i64 R, .string ⟨#[]⟩] 27) = w9 at rr rq2 hb1 ⊢
      refine (hJ x _).mono ?_
      rintro e w10 ⟨rfl, hbn⟩
      replace rr : ValAt w10 w8.heap.size 1 R ⟨#[]⟩ := (hbn.block _ (cells_lt rr)).trans rr
      replace rq2 : ValAt w10 w4.heap.size 1 q ⟨#[]⟩ := (hbn.block _ (cells_lt rq2)).trans rq2
      replace hb1 := hb1.trans (hbn.mono hb1.size)
      clear hbn
      go_wp2_with fail
      refine (hJ y _).mono ?_
      rintro e w11 ⟨rfl, hbn⟩
      replace rr : ValAt w11 w8.heap.size 1 R ⟨#[]⟩ := (hbn.block _ (cells_lt rr)).trans rr
      replace rq2 : ValAt w11 w4.heap.size 1 q ⟨#[]⟩ := (hbn.block _ (cells_lt rq2)).trans rq2
      replace hb1 := hb1.trans (hbn.mono hb1.size)
      clear hbn
      go_wp2_with fail
      refine (hY _).mono ?_
      rintro e w12 ⟨rfl, hbn⟩
      replace rr : ValAt w12 w8.heap.size 1 R ⟨#[]⟩ := (hbn.block _ (cells_lt rr)).trans rr
      replace rq2 : ValAt w12 w4.heap.size 1 q ⟨#[]⟩ := (hbn.block _ (cells_lt rq2)).trans rq2
      replace hb1 := hb1.trans (hbn.mono hb1.size)
      clear hbn
      have rr3 : ValAt (w12.alloc (.cells #[.int .i64 1, .int .i64 q, .string ⟨#[]⟩] 27)) w8.heap.size 1 R ⟨#[]⟩ := (Below.heap_alloc w12 _ _ (cells_lt rr)).trans rr
      have rq3 : ValAt (w12.alloc (.cells #[.int .i64 1, .int .i64 q, .string ⟨#[]⟩] 27)) w4.heap.size 1 q ⟨#[]⟩ := (Below.heap_alloc w12 _ _ (cells_lt rq2)).trans rq2
      replace hb1 := hb1.alloc hb1.size (.cells #[.int .i64 1, .int .i64 q, .string ⟨#[]⟩] 27)
      obtain ⟨c0, c1, c2⟩ := rq3.cells
      obtain ⟨d0, d1, d2⟩ := rr3.cells
      clear rr rq2 rr3 rq3 hI hJ hQ hM hY
      go_wp2_with fail
      go_ret
      exact ⟨rfl, hb1⟩
    · have t1 : (R == 0) = false := by simpa using hR
      have t2 : decide (R < 0) = false := by simpa using hR2
      have t3 : decide (x < 0) = false := by simpa using hR3
      have s1 : decide (0 < y) = false := by simp; omega
      have s2 : decide (y < 0) = true := by simp; omega
      have s3 : decide (y < R) = true := by simp; omega
      have s4 : decide (R < -(y + 1) + 1) = true := by simp; omega
      clear hR hlt hsg hR2 hR3
      go_wp2_with fail
      refine (hI x _).mono ?_
      rintro e wn ⟨rfl, hbn⟩
      replace hb1 := hb1.trans (hbn.mono hb1.size)
      clear hbn
      go_wp2_with fail
      refine (hI y _).mono ?_
      rintro e wn ⟨rfl, hbn⟩
      replace hb1 := hb1.trans (hbn.mono hb1.size)
      clear hbn
      go_wp2_with fail
      refine (hQ _).mono ?_
      rintro e w4 ⟨rfl, hbn⟩
      replace hb1 := hb1.trans (hbn.mono hb1.size)
      clear hbn
      have rq : ValAt (w4.alloc (.cells #[.int .i64 1, .int .i64 q, .string ⟨#[]⟩] 27)) w4.heap.size 1 q ⟨#[]⟩ := heap_alloc_new w4 _
      replace hb1 := hb1.alloc hb1.size (.cells #[.int .i64 1, .int .i64 q, .string ⟨#[]⟩] 27)
      go_wp2_with fail
      generalize w4.alloc (.cells #[.int .i64 1, .int .i64 q, .string ⟨#[]⟩] 27) = w5 at rq hb1 ⊢
      refine (hI x _).mono ?_
      rintro e w6 ⟨rfl, hbn⟩
      replace rq : ValAt w6 w4.heap.size 1 q ⟨#[]⟩ := (hbn.block _ (cells_lt rq)).trans rq
      replace hb1 := hb1.trans (hbn.mono hb1.size)
      clear hbn
      go_wp2_with fail
      refine (hI y _).mono ?_
      rintro e w7 ⟨rfl, hbn⟩
      replace rq : ValAt w7 w4.heap.size 1 q ⟨#[]⟩ := (hbn.block _ (cells_lt rq)).trans rq
      replace hb1 := hb1.trans (hbn.mono hb1.size)
      clear hbn
      go_wp2_with fail
      refine (hM _).mono ?_
      rintro e w8 ⟨rfl, hbn⟩
      replace rq : ValAt w8 w4.heap.size 1 q ⟨#[]⟩ := (hbn.block _ (cells_lt rq)).trans rq
      replace hb1 := hb1.trans (hbn.mono hb1.size)
      clear hbn
      have rr : ValAt (w8.alloc (.cells #[.int .i64 1, .int .i64 R, .string ⟨#[]⟩] 27)) w8.heap.size 1 R ⟨#[]⟩ := heap_alloc_new w8 _
      have rq2 : ValAt (w8.alloc (.cells #[.int .i64 1, .int .i64 R, .string ⟨#[]⟩] 27)) w4.heap.size 1 q ⟨#[]⟩ := (Below.heap_alloc w8 _ _ (cells_lt rq)).trans rq
      replace hb1 := hb1.alloc hb1.size (.cells #[.int .i64 1, .int .i64 R, .string ⟨#[]⟩] 27)
      clear rq
      go_wp2_with fail
      generalize w8.alloc (.cells #[.int .i64 1, .int .i64 R, .string ⟨#[]⟩] 27) = w9 at rr rq2 hb1 ⊢
      refine (hJ x _).mono ?_
      rintro e w10 ⟨rfl, hbn⟩
      replace rr : ValAt w10 w8.heap.size 1 R ⟨#[]⟩ := (hbn.block _ (cells_lt rr)).trans rr
      replace rq2 : ValAt w10 w4.heap.size 1 q ⟨#[]⟩ := (hbn.block _ (cells_lt rq2)).trans rq2
      replace hb1 := hb1.trans (hbn.mono hb1.size)
      clear hbn
      go_wp2_with fail
      refine (hJ y _).mono ?_
      rintro e w11 ⟨rfl, hbn⟩
      replace rr : ValAt w11 w8.heap.size 1 R ⟨#[]⟩ := (hbn.block _ (cells_lt rr)).trans rr
      replace rq2 : ValAt w11 w4.heap.size 1 q ⟨#[]⟩ := (hbn.block _ (cells_lt rq2)).trans rq2
      replace hb1 := hb1.trans (hbn.mono hb1.size)
      clear hbn
      go_wp2_with fail
      refine (hY _).mono ?_
      rintro e w12 ⟨rfl, hbn⟩
      replace rr : ValAt w12 w8.heap.size 1 R ⟨#[]⟩ := (hbn.block _ (cells_lt rr)).trans rr
      replace rq2 : ValAt w12 w4.heap.size 1 q ⟨#[]⟩ := (hbn.block _ (cells_lt rq2)).trans rq2
      replace hb1 := hb1.trans (hbn.mono hb1.size)
      clear hbn
      have rr3 : ValAt (w12.alloc (.cells #[.int .i64 1, .int .i64 q, .string ⟨#[]⟩] 27)) w8.heap.size 1 R ⟨#[]⟩ := (Below.heap_alloc w12 _ _ (cells_lt rr)).trans rr
      have rq3 : ValAt (w12.alloc (.cells #[.int .i64 1, .int .i64 q, .string ⟨#[]⟩] 27)) w4.heap.size 1 q ⟨#[]⟩ := (Below.heap_alloc w12 _ _ (cells_lt rq2)).trans rq2
      replace hb1 := hb1.alloc hb1.size (.cells #[.int .i64 1, .int .i64 q, .string ⟨#[]⟩] 27)
      obtain ⟨c0, c1, c2⟩ := rq3.cells
      obtain ⟨d0, d1, d2⟩ := rr3.cells
      clear rr rq2 rr3 rq3 hI hJ hQ hM hY
      go_wp2_with fail
      go_ret
      exact ⟨rfl, hb1⟩
    · have t1 : (R == 0) = false := by simpa using hR
      have t2 : decide (R < 0) = false := by simpa using hR2
      have t3 : decide (x < 0) = false := by simpa using hR3
      have s1 : decide (0 < y) = false := by simp; omega
      have s2 : decide (y < 0) = true := by simp; omega
      have s3 : decide (y < R) = true := by simp; omega
      have s4 : decide (R < wrap64 9223372036854775808) = false := by rw [show wrap64 9223372036854775808 = -9223372036854775808 by unfold wrap64; decide]; simp; omega
      clear hlt hsg hR
      subst hp
      go_wp2_with fail
      refine (hI x _).mono ?_
      rintro e wn ⟨rfl, hbn⟩
      replace hb1 := hb1.trans (hbn.mono hb1.size)
      clear hbn
      go_wp2_with fail
      refine (hI (-9223372036854775808) _).mono ?_
      rintro e wn ⟨rfl, hbn⟩
      replace hb1 := hb1.trans (hbn.mono hb1.size)
      clear hbn
      go_wp2_with fail
      refine (hQ _).mono ?_
      rintro e w4 ⟨rfl, hbn⟩
      replace hb1 := hb1.trans (hbn.mono hb1.size)
      clear hbn
      have rq : ValAt (w4.alloc (.cells #[.int .i64 1, .int .i64 q, .string ⟨#[]⟩] 27)) w4.heap.size 1 q ⟨#[]⟩ := heap_alloc_new w4 _
      replace hb1 := hb1.alloc hb1.size (.cells #[.int .i64 1, .int .i64 q, .string ⟨#[]⟩] 27)
      go_wp2_with fail
      generalize w4.alloc (.cells #[.int .i64 1, .int .i64 q, .string ⟨#[]⟩] 27) = w5 at rq hb1 ⊢
      refine (hI x _).mono ?_
      rintro e w6 ⟨rfl, hbn⟩
      replace rq : ValAt w6 w4.heap.size 1 q ⟨#[]⟩ := (hbn.block _ (cells_lt rq)).trans rq
      replace hb1 := hb1.trans (hbn.mono hb1.size)
      clear hbn
      go_wp2_with fail
      refine (hI (-9223372036854775808) _).mono ?_
      rintro e w7 ⟨rfl, hbn⟩
      replace rq : ValAt w7 w4.heap.size 1 q ⟨#[]⟩ := (hbn.block _ (cells_lt rq)).trans rq
      replace hb1 := hb1.trans (hbn.mono hb1.size)
      clear hbn
      go_wp2_with fail
      refine (hM _).mono ?_
      rintro e w8 ⟨rfl, hbn⟩
      replace rq : ValAt w8 w4.heap.size 1 q ⟨#[]⟩ := (hbn.block _ (cells_lt rq)).trans rq
      replace hb1 := hb1.trans (hbn.mono hb1.size)
      clear hbn
      have rr : ValAt (w8.alloc (.cells #[.int .i64 1, .int .i64 R, .string ⟨#[]⟩] 27)) w8.heap.size 1 R ⟨#[]⟩ := heap_alloc_new w8 _
      have rq2 : ValAt (w8.alloc (.cells #[.int .i64 1, .int .i64 R, .string ⟨#[]⟩] 27)) w4.heap.size 1 q ⟨#[]⟩ := (Below.heap_alloc w8 _ _ (cells_lt rq)).trans rq
      replace hb1 := hb1.alloc hb1.size (.cells #[.int .i64 1, .int .i64 R, .string ⟨#[]⟩] 27)
      clear rq
      go_wp2_with fail
      generalize w8.alloc (.cells #[.int .i64 1, .int .i64 R, .string ⟨#[]⟩] 27) = w9 at rr rq2 hb1 ⊢
      refine (hJ x _).mono ?_
      rintro e w10 ⟨rfl, hbn⟩
      replace rr : ValAt w10 w8.heap.size 1 R ⟨#[]⟩ := (hbn.block _ (cells_lt rr)).trans rr
      replace rq2 : ValAt w10 w4.heap.size 1 q ⟨#[]⟩ := (hbn.block _ (cells_lt rq2)).trans rq2
      replace hb1 := hb1.trans (hbn.mono hb1.size)
      clear hbn
      go_wp2_with fail
      refine (hJ (-9223372036854775808) _).mono ?_
      rintro e w11 ⟨rfl, hbn⟩
      replace rr : ValAt w11 w8.heap.size 1 R ⟨#[]⟩ := (hbn.block _ (cells_lt rr)).trans rr
      replace rq2 : ValAt w11 w4.heap.size 1 q ⟨#[]⟩ := (hbn.block _ (cells_lt rq2)).trans rq2
      replace hb1 := hb1.trans (hbn.mono hb1.size)
      clear hbn
      go_wp2_with fail
      refine (hY _).mono ?_
      rintro e w12 ⟨rfl, hbn⟩
      replace rr : ValAt w12 w8.heap.size 1 R ⟨#[]⟩ := (hbn.block _ (cells_lt rr)).trans rr
      replace rq2 : ValAt w12 w4.heap.size 1 q ⟨#[]⟩ := (hbn.block _ (cells_lt rq2)).trans rq2
      replace hb1 := hb1.trans (hbn.mono hb1.size)
      clear hbn
      have rr3 : ValAt (w12.alloc (.cells #[.int .i64 1, .int .i64 q, .string ⟨#[]⟩] 27)) w8.heap.size 1 R ⟨#[]⟩ := (Below.heap_alloc w12 _ _ (cells_lt rr)).trans rr
      have rq3 : ValAt (w12.alloc (.cells #[.int .i64 1, .int .i64 q, .string ⟨#[]⟩] 27)) w4.heap.size 1 q ⟨#[]⟩ := (Below.heap_alloc w12 _ _ (cells_lt rq2)).trans rq2
      replace hb1 := hb1.alloc hb1.size (.cells #[.int .i64 1, .int .i64 q, .string ⟨#[]⟩] 27)
      obtain ⟨c0, c1, c2⟩ := rq3.cells
      obtain ⟨d0, d1, d2⟩ := rr3.cells
      clear rr rq2 rr3 rq3 hI hJ hQ hM hY
      go_wp2_with fail
      go_ret
      exact ⟨rfl, hb1⟩
end Go.Proofs.Ytjekhgekldkopaa
