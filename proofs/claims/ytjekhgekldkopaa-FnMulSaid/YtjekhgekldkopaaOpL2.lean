
/- The walks of the laws on sums and differences, and on products and quotients. -/
import Derived.Test.YtjekhgekldkopaaOpNum
import Derived.Test.YtjekhgekldkopaaOpDraw
import Derived.Test.YtjekhgekldkopaaBig
import Derived.Test.YtjekhgekldkopaaCalcI
import Derived.Test.YtjekhgekldkopaaCalcS
import Derived.Test.YtjekhgekldkopaaFloat
namespace Go.Proofs.Ytjekhgekldkopaa
open Go.RowKit

set_option maxRecDepth 100000 in
set_option maxHeartbeats 8000000 in
theorem addSub_law (a : Option Addr) (len cap : Nat) (w : World) (hrow : RowB w.heap.size a len w) :
    Calls Try.prog 6 #[.slice a len cap] w (BoolE true w) := by
  have hlen := hrow.1
  by_cases hbig : 1048576 < len
  · go_enter Try.func6, Try.ntmps6
    go_wp2_with fail
    refine (big_yes a len cap _ hlen hbig).mono ?_
    rintro e w' ⟨rfl, rfl⟩
    go_wp2_with fail
    go_ret
    exact ⟨rfl, Below.refl _ _⟩
  · go_enter Try.func6, Try.ntmps6
    go_wp2_with fail
    refine (big_no a len cap _ hbig).mono ?_
    rintro e w' ⟨rfl, rfl⟩
    go_wp2_with fail
    refine (drawAdd_any w.heap.size a len cap _ hrow (Nat.le_refl _)).mono ?_
    rintro e w1 ⟨x, y, hx, hy, rfl, hb1⟩
    clear hbig hlen hrow
    have hA := fun w => addNum_impl x y w hx.1 hx.2 hy.1 hy.2
    have hA' := fun w => addNum_spec x y w hx.1 hx.2 hy.1 hy.2
    have hB := fun w => addNum_impl y x w hy.1 hy.2 hx.1 hx.2
    have hS := fun w => subNum_impl x y w hx.1 hx.2 hy.1 hy.2
    have hS' := fun w => subNum_spec x y w hx.1 hx.2 hy.1 hy.2
    have hbk : fits (x + y) = true → ∀ w, Calls Try.prog 28 #[.int .i64 (outI (x + y)), .int .i64 y] w fun e w' => e = .returned (.tuple #[.int .i64 x, .bool true]) ∧ w = w' := fun h w => by
      have hf := fits_iff.1 h
      have h1 := subNum_impl (x + y) y w hf.1 hf.2 hy.1 hy.2
      unfold NumR at h1
      rw [show x + y - y = x by omega, (outI_yes hx).1, (outI_yes hx).2] at h1
      rw [(outI_yes hf).1]
      exact h1
    have hbk' : fits (x - y) = true → ∀ w, Calls Try.prog 26 #[.int .i64 (outI (x - y)), .int .i64 y] w fun e w' => e = .returned (.tuple #[.int .i64 x, .bool true]) ∧ w = w' := fun h w => by
      have hf := fits_iff.1 h
      have h1 := addNum_impl (x - y) y w hf.1 hf.2 hy.1 hy.2
      unfold NumR at h1
      rw [show x - y + y = x by omega, (outI_yes hx).1, (outI_yes hx).2] at h1
      rw [(outI_yes hf).1]
      exact h1
    have hz : fits (x - y) = false → outI (x - y) = 0 := fun h => by unfold outI; rw [if_neg (by simp [h])]
    rw [show y + x = x + y by omega] at hB
    unfold NumR at hA hA' hB hS hS'
    generalize outI (x + y) = p at *
    generalize fits (x + y) = c at *
    generalize outI (x - y) = q at *
    generalize fits (x - y) = g at *
    clear hx hy
    have hpp : (p != p) = false := by simp
    cases c <;> cases g
    · obtain rfl := hz rfl
      clear hbk hbk' hz
      go_wp2_with fail
      refine (hA _).mono ?_
      rintro e wx ⟨rfl, rfl⟩
      go_wp2_with fail
      refine (hA' _).mono ?_
      rintro e wx ⟨rfl, rfl⟩
      go_wp2_with fail
      refine (hB _).mono ?_
      rintro e wx ⟨rfl, rfl⟩
      go_wp2_with fail
      refine (hS _).mono ?_
      rintro e wx ⟨rfl, rfl⟩
      go_wp2_with fail
      refine (hS' _).mono ?_
      rintro e wx ⟨rfl, rfl⟩
      go_wp2_with fail
      go_ret
      exact ⟨rfl, hb1⟩
    · have hk' := hbk' rfl
      clear hbk hbk' hz
      go_wp2_with fail
      refine (hA _).mono ?_
      rintro e wx ⟨rfl, rfl⟩
      go_wp2_with fail
      refine (hA' _).mono ?_
      rintro e wx ⟨rfl, rfl⟩
      go_wp2_with fail
      refine (hB _).mono ?_
      rintro e wx ⟨rfl, rfl⟩
      go_wp2_with fail
      refine (hS _).mono ?_
      rintro e wx ⟨rfl, rfl⟩
      go_wp2_with fail
      refine (hS' _).mono ?_
      rintro e wx ⟨rfl, rfl⟩
      go_wp2_with fail
      refine (hk' _).mono ?_
      rintro e wx ⟨rfl, rfl⟩
      go_wp2_with fail
      go_ret
      exact ⟨rfl, hb1⟩
    · have hk := hbk rfl
      obtain rfl := hz rfl
      clear hbk hbk' hz
      go_wp2_with fail
      refine (hA _).mono ?_
      rintro e wx ⟨rfl, rfl⟩
      go_wp2_with fail
      refine (hA' _).mono ?_
      rintro e wx ⟨rfl, rfl⟩
      go_wp2_with fail
      refine (hB _).mono ?_
      rintro e wx ⟨rfl, rfl⟩
      go_wp2_with fail
      refine (hS _).mono ?_
      rintro e wx ⟨rfl, rfl⟩
      go_wp2_with fail
      refine (hS' _).mono ?_
      rintro e wx ⟨rfl, rfl⟩
      go_wp2_with fail
      refine (hk _).mono ?_
      rintro e wx ⟨rfl, rfl⟩
      go_wp2_with fail
      go_ret
      exact ⟨rfl, hb1⟩
    · have hk := hbk rfl
      have hk' := hbk' rfl
      clear hbk hbk' hz
      go_wp2_with fail
      refine (hA _).mono ?_
      rintro e wx ⟨rfl, rfl⟩
      go_wp2_with fail
      refine (hA' _).mono ?_
      rintro e wx ⟨rfl, rfl⟩
      go_wp2_with fail
      refine (hB _).mono ?_
      rintro e wx ⟨rfl, rfl⟩
      go_wp2_with fail
      refine (hS _).mono ?_
      rintro e wx ⟨rfl, rfl⟩
      go_wp2_with fail
      refine (hS' _).mono ?_
      rintro e wx ⟨rfl, rfl⟩
      go_wp2_with fail
      refine (hk _).mono ?_
      rintro e wx ⟨rfl, rfl⟩
      go_wp2_with fail
      refine (hk' _).mono ?_
      rintro e wx ⟨rfl, rfl⟩
      go_wp2_with fail
      go_ret
      exact ⟨rfl, hb1⟩
theorem CR.eta_num {x : Int} (h : fits x = true) : numC x = ⟨1, x, ⟨#[]⟩, 0⟩ := numC_yes h
theorem calc_div {x y : Int} (op : Int) (h : op = 13 ∨ op = 14) : calcC op 1 x ⟨#[]⟩ 1 y ⟨#[]⟩ = numOpC op x y := by
  rw [calc_good (by omega) (by omega) (by rfl) (by rfl) (by rcases h with rfl | rfl <;> rfl), if_neg (by omega), if_neg (by decide), if_neg (by omega), if_neg (by omega)]
set_option maxRecDepth 100000 in
set_option maxHeartbeats 8000000 in
theorem mul_law (a : Option Addr) (len cap : Nat) (w : World) (hrow : RowB w.heap.size a len w) :
    Calls Try.prog 7 #[.slice a len cap] w (BoolE true w) := by
  have hlen := hrow.1
  by_cases hbig : 1048576 < len
  · go_enter Try.func7, Try.ntmps7
    go_wp2_with fail
    refine (big_yes a len cap _ hlen hbig).mono ?_
    rintro e w' ⟨rfl, rfl⟩
    go_wp2_with fail
    go_ret
    exact ⟨rfl, Below.refl _ _⟩
  · go_enter Try.func7, Try.ntmps7
    go_wp2_with fail
    refine (big_no a len cap _ hbig).mono ?_
    rintro e w' ⟨rfl, rfl⟩
    go_wp2_with fail
    refine (drawMul_any w.heap.size a len cap _ hrow (Nat.le_refl _)).mono ?_
    rintro e w1 ⟨x, y, hx, hy, rfl, hb1⟩
    clear hbig hlen hrow
    have hA := fun w => mulNum_impl x y w hx.1 hx.2 hy.1 hy.2
    have hA' := fun w => mulNum_spec x y w hx.1 hx.2 hy.1 hy.2
    have hB := fun w => mulNum_impl y x w hy.1 hy.2 hx.1 hx.2
    rw [Int.mul_comm y x] at hB
    unfold NumR at hA hA' hB
    have hD : fits (x * y) = true → y ≠ 0 → ∀ w, Calls Try.prog 17 #[.int .i64 13, .agg #[.int .i64 1, .int .i64 (outI (x * y)), .string ⟨#[]⟩], .agg #[.int .i64 1, .int .i64 y, .string ⟨#[]⟩]] w (CalcE ⟨1, x, ⟨#[]⟩, 0⟩ w) := fun h h0 w => by
      have hf := fits_iff.1 h
      have h1 := calc_impl 13 1 (x * y) ⟨#[]⟩ 1 y ⟨#[]⟩ w (by decide) (by decide) hf.1 hf.2 hy.1 hy.2
      rw [calc_div 13 (.inl rfl), show numOpC 13 (x * y) y = numC x by
        show (if y = 0 then errC 3 else if (13 : Int) = 13 then numC ((x * y).tdiv y) else _) = _
        rw [if_neg h0, if_pos rfl, Int.mul_tdiv_cancel x h0], CR.eta_num (fits_iff.2 hx)] at h1
      rw [(outI_yes hf).1]
      exact h1
    have hM : fits (x * y) = true → y ≠ 0 → ∀ w, Calls Try.prog 17 #[.int .i64 14, .agg #[.int .i64 1, .int .i64 (outI (x * y)), .string ⟨#[]⟩], .agg #[.int .i64 1, .int .i64 y, .string ⟨#[]⟩]] w (CalcE ⟨1, 0, ⟨#[]⟩, 0⟩ w) := fun h h0 w => by
      have hf := fits_iff.1 h
      have h1 := calc_impl 14 1 (x * y) ⟨#[]⟩ 1 y ⟨#[]⟩ w (by decide) (by decide) hf.1 hf.2 hy.1 hy.2
      rw [calc_div 14 (.inr rfl), show numOpC 14 (x * y) y = numC 0 by
        show (if y = 0 then errC 3 else if (14 : Int) = 13 then _ else numC ((x * y).tmod y)) = _
        rw [if_neg h0, if_neg (by decide), Int.mul_tmod_left], CR.eta_num (by rfl)] at h1
      rw [(outI_yes hf).1]
      exact h1
    have hz : fits (x * y) = false → outI (x * y) = 0 := fun h => by unfold outI; rw [if_neg (by simp [h])]
    have hz' : y = 0 → outI (x * y) = 0 := fun h => by rw [h]; simp [outI]
    generalize outI (x * y) = p at *
    generalize fits (x * y) = c at *
    clear hx hy
    have hpp : (p != p) = false := by simp
    cases c
    · obtain rfl := hz rfl
      clear hD hM hz hz'
      go_wp2_with fail
      refine (hA _).mono ?_
      rintro e wx ⟨rfl, rfl⟩
      go_wp2_with fail
      refine (hA' _).mono ?_
      rintro e wx ⟨rfl, rfl⟩
      go_wp2_with fail
      refine (hB _).mono ?_
      rintro e wx ⟨rfl, rfl⟩
      go_wp2_with fail
      go_ret
      exact ⟨rfl, hb1⟩
    by_cases hy0 : y = 0
    · obtain rfl := hz' hy0
      subst hy0
      clear hD hM hz hz'
      go_wp2_with fail
      refine (hA _).mono ?_
      rintro e wx ⟨rfl, rfl⟩
      go_wp2_with fail
      refine (hA' _).mono ?_
      rintro e wx ⟨rfl, rfl⟩
      go_wp2_with fail
      refine (hB _).mono ?_
      rintro e wx ⟨rfl, rfl⟩
      go_wp2_with fail
      go_ret
      exact ⟨rfl, hb1⟩
    have qy : (y == 0) = false := by simpa using hy0
    have hD' := hD rfl hy0
    have hM' := hM rfl hy0
    have hI := fun n w => intValue_implC n w
    have hJ := fun n w => intValue_spec n w
    clear hD hM hz hz' hy0
    have hz1 := hb1.size
    go_wp2_with fail
    refine (hA _).mono ?_
    rintro e wx ⟨rfl, rfl⟩
    go_wp2_with fail
    refine (hA' _).mono ?_
    rintro e wx ⟨rfl, rfl⟩
    go_wp2_with fail
    refine (hB _).mono ?_
    rintro e wx ⟨rfl, rfl⟩
    go_wp2_with fail
    refine (hI p _).mono ?_
    rintro e w2 ⟨rfl, hb2⟩
    replace hb1 := hb1.trans (hb2.mono hb1.size)
    go_wp2_with fail
    refine (hI y _).mono ?_
    rintro e w3 ⟨rfl, hb3⟩
    replace hb1 := hb1.trans (hb3.mono hb1.size)
    go_wp2_with fail
    refine (hD' _).mono ?_
    rintro e w4 ⟨rfl, hb4⟩
    replace hb1 := hb1.trans (hb4.mono hb1.size)
    clear hb2 hb3 hb4 hD'
    have rq : ValAt (w4.alloc (.cells #[.int .i64 1, .int .i64 x, .string ⟨#[]⟩] 27)) w4.heap.size 1 x ⟨#[]⟩ := heap_alloc_new w4 _
    have hbq := hb1.alloc hb1.size (.cells #[.int .i64 1, .int .i64 x, .string ⟨#[]⟩] 27)
    go_wp2_with fail
    generalize w4.alloc (.cells #[.int .i64 1, .int .i64 x, .string ⟨#[]⟩] 27) = w5 at rq hbq ⊢
    refine (hI p _).mono ?_
    rintro e w6 ⟨rfl, hb6⟩
    replace rq : ValAt w6 w4.heap.size 1 x ⟨#[]⟩ := (hb6.block _ (cells_lt rq)).trans rq
    replace hbq := hbq.trans (hb6.mono hbq.size)
    go_wp2_with fail
    refine (hI y _).mono ?_
    rintro e w7 ⟨rfl, hb7⟩
    replace rq : ValAt w7 w4.heap.size 1 x ⟨#[]⟩ := (hb7.block _ (cells_lt rq)).trans rq
    replace hbq := hbq.trans (hb7.mono hbq.size)
    go_wp2_with fail
    refine (hM' _).mono ?_
    rintro e w8 ⟨rfl, hb8⟩
    replace rq : ValAt w8 w4.heap.size 1 x ⟨#[]⟩ := (hb8.block _ (cells_lt rq)).trans rq
    replace hbq := hbq.trans (hb8.mono hbq.size)
    clear hb6 hb7 hb8 hM' hI hb1
    have rr : ValAt (w8.alloc (.cells #[.int .i64 1, .int .i64 0, .string ⟨#[]⟩] 27)) w8.heap.size 1 0 ⟨#[]⟩ := heap_alloc_new w8 _
    have hbr := hbq.alloc hbq.size (.cells #[.int .i64 1, .int .i64 0, .string ⟨#[]⟩] 27)
    have rq2 : ValAt (w8.alloc (.cells #[.int .i64 1, .int .i64 0, .string ⟨#[]⟩] 27)) w4.heap.size 1 x ⟨#[]⟩ := (Below.heap_alloc w8 _ _ (cells_lt rq)).trans rq
    clear rq hbq
    go_wp2_with fail
    generalize w8.alloc (.cells #[.int .i64 1, .int .i64 0, .string ⟨#[]⟩] 27) = w9 at rr rq2 hbr ⊢
    obtain ⟨c0, c1, c2⟩ := rq2.cells
    obtain ⟨d0, d1, d2⟩ := rr.cells
    have x0 := lat_cell c0
    have x1 := lat_cell c1
    have x2 := lat_cell c2
    have y0 := lat_cell d0
    have y1 := lat_cell d1
    have y2 := lat_cell d2
    refine region_lat (by kernel_rfl) (by kernel_rfl) ?_
    iterate 26 (first
      | go_big_quiet_step (fail)
      | go_big_quiet_step ((refine (hJ _ (lat w9 _)).mono ?_; rintro e w'' ⟨rfl, hb''⟩; exact ⟨rfl, lat_to hb''⟩)))
    refine wpQuiet_nil ?_
    rintro _ ⟨nq, rfl⟩
    have hbb := hbr.trans ((lat_below w9 nq).mono hbr.size)
    go_wp2_with fail
    go_ret
    exact ⟨rfl, hbb⟩
end Go.Proofs.Ytjekhgekldkopaa
