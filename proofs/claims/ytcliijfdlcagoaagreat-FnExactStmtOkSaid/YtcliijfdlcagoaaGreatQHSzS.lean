/- Joined texts: SzS. -/
import Derived.Test.YtcliijfdlcagoaaGreatQHSzTree
namespace Go.Proofs.YtcliijfdlcagoaaGreat
set_option linter.unusedVariables false
set_option linter.unusedSimpArgs false
open Go.RowKit
set_option maxRecDepth 100000 in
set_option maxHeartbeats 4000000 in
theorem szExprS_any {n k : Nat} {f : Nat → Nat → Dat} (IH : ∀ i j, SzAll (f i j)) : SzP (.sl n k f) .exprs := by
  intro x m w h0 h1 hr hf
  obtain ⟨a, cap, rfl⟩ := hr.slice
  obtain rfl : k = 10 := hf.2.2.1
  have hn : n ≤ 9223372036854775807 := hf.2.1
  have hM : msr (.sl n 10 f) = n + partm f 10 n := msr_is n 10 f
  generalize hMM : msr (.sl n 10 f) = M at hM ⊢
  clear hMM
  show Calls Tryz.prog 12 #[.slice a n cap, .int .i64 m] w (IntE (leftOf m M) w)
  have HM := Lib.hid hM
  clear hM
  by_cases hbig : m - (n : Int) < 0
  · have d : decide (m - (n : Int) < 0) = true := by simpa using hbig
    go_enter Tryz.func12, Tryz.ntmps12
    go_wp2_with fail
    go_ret
    exact ⟨ret_i64 (leftOf_is1 (by have := HM.out; omega)), Below.refl _ _⟩
  have d : decide (m - (n : Int) < 0) = false := by simpa using hbig
  go_enter Tryz.func12, Tryz.ntmps12
  go_wp2_with fail
  go_loopw [1, 5] (fun b i wr => ∃ (j : Nat) (r : Int), j ≤ n ∧ i = .int .i64 (j : Int) ∧ b = .int .i64 r ∧ 0 ≤ r ∧ r ≤ 1048576 ∧ Hid (r = m - (n : Int) - (partm f 10 j : Int)) ∧ Below w.heap.size w wr) (fun _ i _ => n - (intOf i).toNat)
  case atStart => exact ⟨0, m - n, by omega, rfl, by go_num, by omega, by omega, by show _ = m - (n : Int) - ((0 : Nat) : Int); omega, Below.refl _ _⟩
  case round =>
    obtain ⟨j, r, hj, rfl, rfl, hr0, hr1, hR, hB⟩ := hrel
    by_cases hlt : j < n
    · have hlt2 : (j : Int) < (n : Int) := by omega
      have hr2 := hr.later hB
      obtain ⟨g, o, rfl, -, hg, c0, c1, c2, c3, c4, c5, c6, c7, c8, c9, ⟨z0, z1, z2, z3, z4, z5, z6, z7, z8, z9⟩, ⟨⟨e0, b0⟩, ⟨e1, b1⟩, e2, ⟨e3, b3⟩, ⟨e4, b4⟩, ⟨e5, b5⟩, ⟨e6, b6⟩, ⟨e7, b7⟩, ⟨r8, q8⟩, ⟨r9, q9⟩⟩⟩ := row_exprs hr2 hf hlt
      have hrow : rowm f 10 j = c5.size + c6.size + c7.size + msr (f j 8) + msr (f j 9) := by
        simp only [rowm, List.range_succ, List.range_zero, List.nil_append, List.cons_append, List.map_cons, List.map_nil, List.sum_cons, List.sum_nil, e0, e1, e2, e3, e4, e5, e6, e7, msr_int, msr_bool, msr_str]
        omega
      have hsucc := partm_succ f 10 j
      have hle := partm_le f 10 (show j + 1 ≤ n by omega)
      have hS := fun w h => szExpr_any c0 c1 c2 c3 c4 c5 c6 c7 c8 c9 (f j 8) (f j 9) r w hr0 hr1 (IH j 8 .exprs rfl) (IH j 9 .queries rfl) (Rd.later (w := wr) r8 h) q8 (Rd.later (w := wr) r9 h) q9 b5 b6 b7
      have hrowI : ((rowm f 10 j : Nat) : Int) = (c5.size : Int) + (c6.size : Int) + (c7.size : Int) + msr (f j 8) + msr (f j 9) := by rw [hrow]; omega
      rw [← hrowI] at hS
      generalize rowm f 10 j = q at hS hsucc
      clear hrow hrowI
      by_cases hz : r - (q : Int) < 0
      · simp only [leftOf_no hz] at hS
        have HS := Lib.hid hsucc
        have HZ := Lib.hid hz
        clear hsucc hz
        go_wp2_with fail
        refine (hS _ (Below.refl _ _)).mono ?_
        rintro e w1 ⟨rfl, hb⟩
        have hbb := hB.trans (hb.mono hB.size)
        clear hS
        go_wp2_with fail
        go_ret
        exact ⟨ret_i64 (leftOf_is1 (by have := HM.out; have := HS.out; have := HZ.out; have := hR.out; omega)), hbb⟩
      · obtain ⟨r2, hr2_⟩ : ∃ z : Int, z = r - (q : Int) := ⟨_, rfl⟩
        have l := (leftOf_yes hz).trans hr2_.symm
        simp only [l] at hS
        have k0 : 0 ≤ r2 := by omega
        have k1 : r2 ≤ 1048576 := by omega
        have E2 : Hid (r2 = m - (n : Int) - (partm f 10 (j + 1) : Int)) := by have := hR.out; show _ = _; omega
        have d2 : decide (r2 < 0) = false := by simpa using k0
        clear hsucc hz hr2_ l hle
        go_wp2_with fail
        refine (hS _ (Below.refl _ _)).mono ?_
        rintro e w1 ⟨rfl, hb⟩
        have hbb := hB.trans (hb.mono hB.size)
        clear hS
        go_wp2_with fail
        go_roundw
        case rel => exact ⟨j + 1, r2, by omega, by go_num, rfl, k0, k1, E2, hbb⟩
        case measure => simp [intOf]; omega
    · obtain rfl : j = n := by omega
      go_wp2_with fail
      go_ret
      exact ⟨ret_i64 (leftOf_is (by have := HM.out; have := hR.out; omega) hr0), hB⟩
set_option maxRecDepth 100000 in
set_option maxHeartbeats 4000000 in
theorem szItemS_any {n k : Nat} {f : Nat → Nat → Dat} (IH : ∀ i j, SzAll (f i j)) : SzP (.sl n k f) .items := by
  intro x m w h0 h1 hr hf
  obtain ⟨a, cap, rfl⟩ := hr.slice
  obtain rfl : k = 13 := hf.2.2.1
  have hn : n ≤ 9223372036854775807 := hf.2.1
  have hM : msr (.sl n 13 f) = n + partm f 13 n := msr_is n 13 f
  generalize hMM : msr (.sl n 13 f) = M at hM ⊢
  clear hMM
  show Calls Tryz.prog 29 #[.slice a n cap, .int .i64 m] w (IntE (leftOf m M) w)
  have HM := Lib.hid hM
  clear hM
  by_cases hbig : m - (n : Int) < 0
  · have d : decide (m - (n : Int) < 0) = true := by simpa using hbig
    go_enter Tryz.func29, Tryz.ntmps29
    go_wp2_with fail
    go_ret
    exact ⟨ret_i64 (leftOf_is1 (by have := HM.out; omega)), Below.refl _ _⟩
  have d : decide (m - (n : Int) < 0) = false := by simpa using hbig
  go_enter Tryz.func29, Tryz.ntmps29
  go_wp2_with fail
  go_loopw [1, 5] (fun b i wr => ∃ (j : Nat) (r : Int), j ≤ n ∧ i = .int .i64 (j : Int) ∧ b = .int .i64 r ∧ 0 ≤ r ∧ r ≤ 1048576 ∧ Hid (r = m - (n : Int) - (partm f 13 j : Int)) ∧ Below w.heap.size w wr) (fun _ i _ => n - (intOf i).toNat)
  case atStart => exact ⟨0, m - n, by omega, rfl, by go_num, by omega, by omega, by show _ = m - (n : Int) - ((0 : Nat) : Int); omega, Below.refl _ _⟩
  case round =>
    obtain ⟨j, r, hj, rfl, rfl, hr0, hr1, hR, hB⟩ := hrel
    by_cases hlt : j < n
    · have hlt2 : (j : Int) < (n : Int) := by omega
      have hr2 := hr.later hB
      obtain ⟨g, o, rfl, -, hg, c0, c1, c2, c3, c4, c5, c6, c7, c8, c9, c10, c11, c12, ⟨z0, z1, z2, z3, z4, z5, z6, z7, z8, z9, z10, z11, z12⟩, ⟨e0, ⟨e1, b1⟩, ⟨e2, b2⟩, ⟨e3, b3⟩, e4, ⟨e5, b5⟩, ⟨e6, b6⟩, ⟨e7, b7⟩, ⟨e8, b8⟩, ⟨e9, b9⟩, ⟨r10, q10⟩, ⟨r11, q11⟩, ⟨e12, b12⟩⟩⟩ := row_items hr2 hf hlt
      have hrow : rowm f 13 j = c1.size + (c7.size + c8.size + c9.size + msr (f j 10) + msr (f j 11)) + c12.size := by
        simp only [rowm, List.range_succ, List.range_zero, List.nil_append, List.cons_append, List.map_cons, List.map_nil, List.sum_cons, List.sum_nil, e0, e1, e2, e3, e4, e5, e6, e7, e8, e9, e12, msr_int, msr_bool, msr_str]
        omega
      have hsucc := partm_succ f 13 j
      have hle := partm_le f 13 (show j + 1 ≤ n by omega)
      have hS := fun w h => szItem_any c0 c1 c2 c3 c4 c5 c6 c7 c8 c9 c10 c11 c12 (f j 10) (f j 11) r w hr0 hr1 (IH j 10 .exprs rfl) (IH j 11 .queries rfl) (Rd.later (w := wr) r10 h) q10 (Rd.later (w := wr) r11 h) q11 b1 b7 b8 b9 b12
      have hrowI : ((rowm f 13 j : Nat) : Int) = (c1.size : Int) + ((c7.size : Int) + (c8.size : Int) + (c9.size : Int) + msr (f j 10) + msr (f j 11)) + (c12.size : Int) := by rw [hrow]; omega
      rw [← hrowI] at hS
      generalize rowm f 13 j = q at hS hsucc
      clear hrow hrowI
      by_cases hz : r - (q : Int) < 0
      · simp only [leftOf_no hz] at hS
        have HS := Lib.hid hsucc
        have HZ := Lib.hid hz
        clear hsucc hz
        go_wp2_with fail
        refine (hS _ (Below.refl _ _)).mono ?_
        rintro e w1 ⟨rfl, hb⟩
        have hbb := hB.trans (hb.mono hB.size)
        clear hS
        go_wp2_with fail
        go_ret
        exact ⟨ret_i64 (leftOf_is1 (by have := HM.out; have := HS.out; have := HZ.out; have := hR.out; omega)), hbb⟩
      · obtain ⟨r2, hr2_⟩ : ∃ z : Int, z = r - (q : Int) := ⟨_, rfl⟩
        have l := (leftOf_yes hz).trans hr2_.symm
        simp only [l] at hS
        have k0 : 0 ≤ r2 := by omega
        have k1 : r2 ≤ 1048576 := by omega
        have E2 : Hid (r2 = m - (n : Int) - (partm f 13 (j + 1) : Int)) := by have := hR.out; show _ = _; omega
        have d2 : decide (r2 < 0) = false := by simpa using k0
        clear hsucc hz hr2_ l hle
        go_wp2_with fail
        refine (hS _ (Below.refl _ _)).mono ?_
        rintro e w1 ⟨rfl, hb⟩
        have hbb := hB.trans (hb.mono hB.size)
        clear hS
        go_wp2_with fail
        go_roundw
        case rel => exact ⟨j + 1, r2, by omega, by go_num, rfl, k0, k1, E2, hbb⟩
        case measure => simp [intOf]; omega
    · obtain rfl : j = n := by omega
      go_wp2_with fail
      go_ret
      exact ⟨ret_i64 (leftOf_is (by have := HM.out; have := hR.out; omega) hr0), hB⟩
set_option maxRecDepth 100000 in
set_option maxHeartbeats 4000000 in
theorem szSourceS_any {n k : Nat} {f : Nat → Nat → Dat} (IH : ∀ i j, SzAll (f i j)) : SzP (.sl n k f) .sources := by
  intro x m w h0 h1 hr hf
  obtain ⟨a, cap, rfl⟩ := hr.slice
  obtain rfl : k = 3 := hf.2.2.1
  have hn : n ≤ 9223372036854775807 := hf.2.1
  have hM : msr (.sl n 3 f) = n + partm f 3 n := msr_is n 3 f
  generalize hMM : msr (.sl n 3 f) = M at hM ⊢
  clear hMM
  show Calls Tryz.prog 30 #[.slice a n cap, .int .i64 m] w (IntE (leftOf m M) w)
  have HM := Lib.hid hM
  clear hM
  by_cases hbig : m - (n : Int) < 0
  · have d : decide (m - (n : Int) < 0) = true := by simpa using hbig
    go_enter Tryz.func30, Tryz.ntmps30
    go_wp2_with fail
    go_ret
    exact ⟨ret_i64 (leftOf_is1 (by have := HM.out; omega)), Below.refl _ _⟩
  have d : decide (m - (n : Int) < 0) = false := by simpa using hbig
  go_enter Tryz.func30, Tryz.ntmps30
  go_wp2_with fail
  go_loopw [1, 5] (fun b i wr => ∃ (j : Nat) (r : Int), j ≤ n ∧ i = .int .i64 (j : Int) ∧ b = .int .i64 r ∧ 0 ≤ r ∧ r ≤ 1048576 ∧ Hid (r = m - (n : Int) - (partm f 3 j : Int)) ∧ Below w.heap.size w wr) (fun _ i _ => n - (intOf i).toNat)
  case atStart => exact ⟨0, m - n, by omega, rfl, by go_num, by omega, by omega, by show _ = m - (n : Int) - ((0 : Nat) : Int); omega, Below.refl _ _⟩
  case round =>
    obtain ⟨j, r, hj, rfl, rfl, hr0, hr1, hR, hB⟩ := hrel
    by_cases hlt : j < n
    · have hlt2 : (j : Int) < (n : Int) := by omega
      have hr2 := hr.later hB
      obtain ⟨g, o, rfl, -, hg, c0, c1, c2, ⟨z0, z1, z2⟩, ⟨⟨e0, b0⟩, ⟨e1, b1⟩, ⟨r2, q2⟩⟩⟩ := row_sources hr2 hf hlt
      have hrow : rowm f 3 j = c0.size + c1.size + msr (f j 2) := by
        simp only [rowm, List.range_succ, List.range_zero, List.nil_append, List.cons_append, List.map_cons, List.map_nil, List.sum_cons, List.sum_nil, e0, e1, msr_str]
        omega
      have hsucc := partm_succ f 3 j
      have hle := partm_le f 3 (show j + 1 ≤ n by omega)
      have hS := fun w h => szSource_any c0 c1 c2 (f j 2) r w hr0 hr1 (IH j 2 .exprs rfl) (Rd.later (w := wr) r2 h) q2 b0 b1
      have hrowI : ((rowm f 3 j : Nat) : Int) = (c0.size : Int) + (c1.size : Int) + msr (f j 2) := by rw [hrow]; omega
      rw [← hrowI] at hS
      generalize rowm f 3 j = q at hS hsucc
      clear hrow hrowI
      by_cases hz : r - (q : Int) < 0
      · simp only [leftOf_no hz] at hS
        have HS := Lib.hid hsucc
        have HZ := Lib.hid hz
        clear hsucc hz
        go_wp2_with fail
        refine (hS _ (Below.refl _ _)).mono ?_
        rintro e w1 ⟨rfl, hb⟩
        have hbb := hB.trans (hb.mono hB.size)
        clear hS
        go_wp2_with fail
        go_ret
        exact ⟨ret_i64 (leftOf_is1 (by have := HM.out; have := HS.out; have := HZ.out; have := hR.out; omega)), hbb⟩
      · obtain ⟨r2, hr2_⟩ : ∃ z : Int, z = r - (q : Int) := ⟨_, rfl⟩
        have l := (leftOf_yes hz).trans hr2_.symm
        simp only [l] at hS
        have k0 : 0 ≤ r2 := by omega
        have k1 : r2 ≤ 1048576 := by omega
        have E2 : Hid (r2 = m - (n : Int) - (partm f 3 (j + 1) : Int)) := by have := hR.out; show _ = _; omega
        have d2 : decide (r2 < 0) = false := by simpa using k0
        clear hsucc hz hr2_ l hle
        go_wp2_with fail
        refine (hS _ (Below.refl _ _)).mono ?_
        rintro e w1 ⟨rfl, hb⟩
        have hbb := hB.trans (hb.mono hB.size)
        clear hS
        go_wp2_with fail
        go_roundw
        case rel => exact ⟨j + 1, r2, by omega, by go_num, rfl, k0, k1, E2, hbb⟩
        case measure => simp [intOf]; omega
    · obtain rfl : j = n := by omega
      go_wp2_with fail
      go_ret
      exact ⟨ret_i64 (leftOf_is (by have := HM.out; have := hR.out; omega) hr0), hB⟩
set_option maxRecDepth 100000 in
set_option maxHeartbeats 4000000 in
theorem szSortKeyS_any {n k : Nat} {f : Nat → Nat → Dat} (IH : ∀ i j, SzAll (f i j)) : SzP (.sl n k f) .keys := by
  intro x m w h0 h1 hr hf
  obtain ⟨a, cap, rfl⟩ := hr.slice
  obtain rfl : k = 11 := hf.2.2.1
  have hn : n ≤ 9223372036854775807 := hf.2.1
  have hM : msr (.sl n 11 f) = n + partm f 11 n := msr_is n 11 f
  generalize hMM : msr (.sl n 11 f) = M at hM ⊢
  clear hMM
  show Calls Tryz.prog 31 #[.slice a n cap, .int .i64 m] w (IntE (leftOf m M) w)
  have HM := Lib.hid hM
  clear hM
  by_cases hbig : m - (n : Int) < 0
  · have d : decide (m - (n : Int) < 0) = true := by simpa using hbig
    go_enter Tryz.func31, Tryz.ntmps31
    go_wp2_with fail
    go_ret
    exact ⟨ret_i64 (leftOf_is1 (by have := HM.out; omega)), Below.refl _ _⟩
  have d : decide (m - (n : Int) < 0) = false := by simpa using hbig
  go_enter Tryz.func31, Tryz.ntmps31
  go_wp2_with fail
  go_loopw [1, 5] (fun b i wr => ∃ (j : Nat) (r : Int), j ≤ n ∧ i = .int .i64 (j : Int) ∧ b = .int .i64 r ∧ 0 ≤ r ∧ r ≤ 1048576 ∧ Hid (r = m - (n : Int) - (partm f 11 j : Int)) ∧ Below w.heap.size w wr) (fun _ i _ => n - (intOf i).toNat)
  case atStart => exact ⟨0, m - n, by omega, rfl, by go_num, by omega, by omega, by show _ = m - (n : Int) - ((0 : Nat) : Int); omega, Below.refl _ _⟩
  case round =>
    obtain ⟨j, r, hj, rfl, rfl, hr0, hr1, hR, hB⟩ := hrel
    by_cases hlt : j < n
    · have hlt2 : (j : Int) < (n : Int) := by omega
      have hr2 := hr.later hB
      obtain ⟨g, o, rfl, -, hg, c0, c1, c2, c3, c4, c5, c6, c7, c8, c9, c10, ⟨z0, z1, z2, z3, z4, z5, z6, z7, z8, z9, z10⟩, ⟨⟨e0, b0⟩, ⟨e1, b1⟩, e2, ⟨e3, b3⟩, ⟨e4, b4⟩, ⟨e5, b5⟩, ⟨e6, b6⟩, ⟨e7, b7⟩, ⟨r8, q8⟩, ⟨r9, q9⟩, e10⟩⟩ := row_keys hr2 hf hlt
      have hrow : rowm f 11 j = (c5.size + c6.size + c7.size + msr (f j 8) + msr (f j 9)) := by
        simp only [rowm, List.range_succ, List.range_zero, List.nil_append, List.cons_append, List.map_cons, List.map_nil, List.sum_cons, List.sum_nil, e0, e1, e2, e3, e4, e5, e6, e7, e10, msr_int, msr_bool, msr_str]
        omega
      have hsucc := partm_succ f 11 j
      have hle := partm_le f 11 (show j + 1 ≤ n by omega)
      have hS := fun w h => szSortKey_any c0 c1 c2 c3 c4 c5 c6 c7 c8 c9 c10 (f j 8) (f j 9) r w hr0 hr1 (IH j 8 .exprs rfl) (IH j 9 .queries rfl) (Rd.later (w := wr) r8 h) q8 (Rd.later (w := wr) r9 h) q9 b5 b6 b7
      have hrowI : ((rowm f 11 j : Nat) : Int) = ((c5.size : Int) + (c6.size : Int) + (c7.size : Int) + msr (f j 8) + msr (f j 9)) := by rw [hrow]; omega
      rw [← hrowI] at hS
      generalize rowm f 11 j = q at hS hsucc
      clear hrow hrowI
      by_cases hz : r - (q : Int) < 0
      · simp only [leftOf_no hz] at hS
        have HS := Lib.hid hsucc
        have HZ := Lib.hid hz
        clear hsucc hz
        go_wp2_with fail
        refine (hS _ (Below.refl _ _)).mono ?_
        rintro e w1 ⟨rfl, hb⟩
        have hbb := hB.trans (hb.mono hB.size)
        clear hS
        go_wp2_with fail
        go_ret
        exact ⟨ret_i64 (leftOf_is1 (by have := HM.out; have := HS.out; have := HZ.out; have := hR.out; omega)), hbb⟩
      · obtain ⟨r2, hr2_⟩ : ∃ z : Int, z = r - (q : Int) := ⟨_, rfl⟩
        have l := (leftOf_yes hz).trans hr2_.symm
        simp only [l] at hS
        have k0 : 0 ≤ r2 := by omega
        have k1 : r2 ≤ 1048576 := by omega
        have E2 : Hid (r2 = m - (n : Int) - (partm f 11 (j + 1) : Int)) := by have := hR.out; show _ = _; omega
        have d2 : decide (r2 < 0) = false := by simpa using k0
        clear hsucc hz hr2_ l hle
        go_wp2_with fail
        refine (hS _ (Below.refl _ _)).mono ?_
        rintro e w1 ⟨rfl, hb⟩
        have hbb := hB.trans (hb.mono hB.size)
        clear hS
        go_wp2_with fail
        go_roundw
        case rel => exact ⟨j + 1, r2, by omega, by go_num, rfl, k0, k1, E2, hbb⟩
        case measure => simp [intOf]; omega
    · obtain rfl : j = n := by omega
      go_wp2_with fail
      go_ret
      exact ⟨ret_i64 (leftOf_is (by have := HM.out; have := hR.out; omega) hr0), hB⟩
set_option maxRecDepth 100000 in
set_option maxHeartbeats 4000000 in
theorem szQueryS_any {n k : Nat} {f : Nat → Nat → Dat} (IH : ∀ i j, SzAll (f i j)) : SzP (.sl n k f) .queries := by
  intro x m w h0 h1 hr hf
  obtain ⟨a, cap, rfl⟩ := hr.slice
  obtain rfl : k = 6 := hf.2.2.1
  have hn : n ≤ 9223372036854775807 := hf.2.1
  have hM : msr (.sl n 6 f) = n + partm f 6 n := msr_is n 6 f
  generalize hMM : msr (.sl n 6 f) = M at hM ⊢
  clear hMM
  show Calls Tryz.prog 68 #[.slice a n cap, .int .i64 m] w (IntE (leftOf m M) w)
  have HM := Lib.hid hM
  clear hM
  by_cases hbig : m - (n : Int) < 0
  · have d : decide (m - (n : Int) < 0) = true := by simpa using hbig
    go_enter Tryz.func68, Tryz.ntmps68
    go_wp2_with fail
    go_ret
    exact ⟨ret_i64 (leftOf_is1 (by have := HM.out; omega)), Below.refl _ _⟩
  have d : decide (m - (n : Int) < 0) = false := by simpa using hbig
  go_enter Tryz.func68, Tryz.ntmps68
  go_wp2_with fail
  go_loopw [1, 5] (fun b i wr => ∃ (j : Nat) (r : Int), j ≤ n ∧ i = .int .i64 (j : Int) ∧ b = .int .i64 r ∧ 0 ≤ r ∧ r ≤ 1048576 ∧ Hid (r = m - (n : Int) - (partm f 6 j : Int)) ∧ Below w.heap.size w wr) (fun _ i _ => n - (intOf i).toNat)
  case atStart => exact ⟨0, m - n, by omega, rfl, by go_num, by omega, by omega, by show _ = m - (n : Int) - ((0 : Nat) : Int); omega, Below.refl _ _⟩
  case round =>
    obtain ⟨j, r, hj, rfl, rfl, hr0, hr1, hR, hB⟩ := hrel
    by_cases hlt : j < n
    · have hlt2 : (j : Int) < (n : Int) := by omega
      have hr2 := hr.later hB
      obtain ⟨g, o, rfl, -, hg, c0, c1, c2, c3, c4, c5, ⟨z0, z1, z2, z3, z4, z5⟩, ⟨e0, ⟨r1, q1⟩, ⟨r2, q2⟩, ⟨r3, q3⟩, ⟨r4, q4⟩, ⟨e5, b5⟩⟩⟩ := row_queries hr2 hf hlt
      have hrow : rowm f 6 j = msr (f j 1) + msr (f j 2) + msr (f j 3) + msr (f j 4) := by
        simp only [rowm, List.range_succ, List.range_zero, List.nil_append, List.cons_append, List.map_cons, List.map_nil, List.sum_cons, List.sum_nil, e0, e5, msr_int, msr_bool]
        omega
      have hsucc := partm_succ f 6 j
      have hle := partm_le f 6 (show j + 1 ≤ n by omega)
      have hS := fun w h => szQuery_any c0 c1 c2 c3 c4 c5 (f j 1) (f j 2) (f j 3) (f j 4) r w hr0 hr1 (IH j 1 .items rfl) (IH j 2 .sources rfl) (IH j 3 .exprs rfl) (IH j 4 .keys rfl) (Rd.later (w := wr) r1 h) q1 (Rd.later (w := wr) r2 h) q2 (Rd.later (w := wr) r3 h) q3 (Rd.later (w := wr) r4 h) q4 
      have hrowI : ((rowm f 6 j : Nat) : Int) = msr (f j 1) + msr (f j 2) + msr (f j 3) + msr (f j 4) := by rw [hrow]; omega
      rw [← hrowI] at hS
      generalize rowm f 6 j = q at hS hsucc
      clear hrow hrowI
      by_cases hz : r - (q : Int) < 0
      · simp only [leftOf_no hz] at hS
        have HS := Lib.hid hsucc
        have HZ := Lib.hid hz
        clear hsucc hz
        go_wp2_with fail
        refine (hS _ (Below.refl _ _)).mono ?_
        rintro e w1 ⟨rfl, hb⟩
        have hbb := hB.trans (hb.mono hB.size)
        clear hS
        go_wp2_with fail
        go_ret
        exact ⟨ret_i64 (leftOf_is1 (by have := HM.out; have := HS.out; have := HZ.out; have := hR.out; omega)), hbb⟩
      · obtain ⟨r2, hr2_⟩ : ∃ z : Int, z = r - (q : Int) := ⟨_, rfl⟩
        have l := (leftOf_yes hz).trans hr2_.symm
        simp only [l] at hS
        have k0 : 0 ≤ r2 := by omega
        have k1 : r2 ≤ 1048576 := by omega
        have E2 : Hid (r2 = m - (n : Int) - (partm f 6 (j + 1) : Int)) := by have := hR.out; show _ = _; omega
        have d2 : decide (r2 < 0) = false := by simpa using k0
        clear hsucc hz hr2_ l hle
        go_wp2_with fail
        refine (hS _ (Below.refl _ _)).mono ?_
        rintro e w1 ⟨rfl, hb⟩
        have hbb := hB.trans (hb.mono hB.size)
        clear hS
        go_wp2_with fail
        go_roundw
        case rel => exact ⟨j + 1, r2, by omega, by go_num, rfl, k0, k1, E2, hbb⟩
        case measure => simp [intOf]; omega
    · obtain rfl : j = n := by omega
      go_wp2_with fail
      go_ret
      exact ⟨ret_i64 (leftOf_is (by have := HM.out; have := hR.out; omega) hr0), hB⟩
theorem szAll : ∀ d : Dat, SzAll d
  | .v x => fun ty hd y m w _ _ _ hf => by cases ty <;> first | (cases hd; done) | exact hf.elim
  | .sl n k f => fun ty hd => by
    have IH : ∀ i j, SzAll (f i j) := fun i j => szAll (f i j)
    cases ty
    case int => cases hd
    case bool => cases hd
    case str => cases hd
    case rows => cases hd
    case names => cases hd
    case exprs => exact szExprS_any IH
    case items => exact szItemS_any IH
    case sources => exact szSourceS_any IH
    case keys => exact szSortKeyS_any IH
    case queries => exact szQueryS_any IH
end Go.Proofs.YtcliijfdlcagoaaGreat
