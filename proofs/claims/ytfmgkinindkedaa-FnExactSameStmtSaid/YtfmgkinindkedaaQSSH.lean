/- Joined texts: RowsS StmtT. -/
import Derived.Test.YtfmgkinindkedaaQHToS
import Derived.Test.YtfmgkinindkedaaQHSzS
import Derived.Test.YtfmgkinindkedaaQHEqS
import Derived.Test.YtfmgkinindkedaaQSSB
import Derived.Deep.Cut
/- Slices of slices of expressions, and slices of strings: their elements; the laws' copies, sizes and comparisons of them. -/
namespace Go.Proofs.Ytfmgkinindkedaa
open Go.RowKit
set_option linter.unusedVariables false

theorem row_rows {w : World} {L n k m : Nat} {f : Nat → Nat → Dat} {a : Option Addr} {cap : Nat} (h : Rd w L (.slice a m cap) (.sl n k f)) (hf : Fits (.sl n k f) .rows) {i : Nat} (hi : i < n) :
    ∃ (g o : Nat), a = some ⟨g, o, none⟩ ∧ L ≤ g ∧ g < w.heap.size ∧ ∃ (c0 : Value), w.cell? ⟨g, o + i, none⟩ = some c0 ∧ Rd w L c0 (f i 0) ∧ Fits (f i 0) .exprs := by
  obtain ⟨_, _, hk, hfit⟩ := hf
  obtain rfl : k = 1 := hk
  obtain ⟨_, g, o, ea, hL, hg, hc⟩ := h.elem hi
  obtain ⟨y0, z0, r0⟩ := hc 0 (by decide)
  rw [Nat.mul_one, Nat.add_zero] at z0
  exact ⟨g, o, ea, hL, hg, y0, z0, r0, hfit i hi 0 (by decide)⟩
theorem row_names {w : World} {L n k m : Nat} {f : Nat → Nat → Dat} {a : Option Addr} {cap : Nat} (h : Rd w L (.slice a m cap) (.sl n k f)) (hf : Fits (.sl n k f) .names) {i : Nat} (hi : i < n) :
    ∃ (g o : Nat), a = some ⟨g, o, none⟩ ∧ L ≤ g ∧ g < w.heap.size ∧ ∃ (c0 : ByteArray), w.cell? ⟨g, o + i, none⟩ = some (.string c0) ∧ f i 0 = .v (.string c0) ∧ c0.size ≤ 9223372036854775807 := by
  obtain ⟨_, _, hk, hfit⟩ := hf
  obtain rfl : k = 1 := hk
  obtain ⟨_, g, o, ea, hL, hg, hc⟩ := h.elem hi
  obtain ⟨y0, z0, r0⟩ := hc 0 (by decide)
  rw [Nat.mul_one, Nat.add_zero] at z0
  have f0 : Fits (f i 0) .str := hfit i hi 0 (by decide)
  obtain ⟨c0, e0, b0⟩ := f0.str
  rw [e0] at r0
  obtain rfl : y0 = .string c0 := r0
  exact ⟨g, o, ea, hL, hg, c0, z0, e0, b0⟩
/-- the contracts, of any function -/
def ToPF (F : Nat) (d : Dat) (ty : Ty) : Prop := ∀ (x : Value) (w : World), Rd w 0 x d → Fits d ty → msr d ≤ 1048576 → Calls Try.prog F #[x] w (ToE d w)
def SzPF (F : Nat) (d : Dat) (ty : Ty) : Prop := ∀ (x : Value) (m : Int) (w : World), 0 ≤ m → m ≤ 1048576 → Rd w 0 x d → Fits d ty → Calls Try.prog F #[x, .int .i64 m] w (IntE (leftOf m (msr d)) w)
def EqPF (F : Nat) (d : Dat) (ty : Ty) : Prop := ∀ (x y : Value) (w : World), Rd w 0 x d → Rd w 0 y d → Fits d ty → Calls Try.prog F #[x, y] w (BoolE true w)
theorem Try.infoSl : (Try.prog.info? 36).map (fun i => (i.zero, i.size, i.bytes)) = some (some (.slice none 0 0), 1, 24) := by kernel_rfl
theorem Try.infoStr : (Try.prog.info? 9).map (fun i => (i.zero, i.size, i.bytes)) = some (some (.string ByteArray.empty), 1, 16) := by kernel_rfl
theorem make_ExprSS (w : World) (n : Nat) (hn : n ≤ 1048576) : (Instr.makeSlice 40 (.int .i64 (n : Int)) (.int .i64 (n : Int))).run Try.prog w = .ok (.slice (some ⟨w.heap.size, 0, none⟩) n n) (w.alloc (.cells (madeCells #[.slice none 0 0] (n * 1)) 36)) := by
  obtain ⟨i, hi, hz, hsize, hby⟩ := info_parts Try.infoSl
  have h := run_make (P := Try.prog) w 40 36 i _ Try.underlying40 hi hz .i64 .i64 (n : Int) (n : Int) (by omega) (by omega) (by rw [hby]; omega) (by omega)
  rw [hsize, Int.toNat_natCast] at h
  exact h
theorem make_StrS (w : World) (n : Nat) (hn : n ≤ 1048576) : (Instr.makeSlice 29 (.int .i64 (n : Int)) (.int .i64 (n : Int))).run Try.prog w = .ok (.slice (some ⟨w.heap.size, 0, none⟩) n n) (w.alloc (.cells (madeCells #[.string ⟨#[]⟩] (n * 1)) 9)) := by
  obtain ⟨i, hi, hz, hsize, hby⟩ := info_parts Try.infoStr
  have h := run_make (P := Try.prog) w 29 9 i _ Try.underlying29 hi hz .i64 .i64 (n : Int) (n : Int) (by omega) (by omega) (by rw [hby]; omega) (by omega)
  rw [hsize, Int.toNat_natCast] at h
  exact h
set_option maxRecDepth 100000 in
set_option maxHeartbeats 4000000 in
theorem toExprSS_any {n k : Nat} {f : Nat → Nat → Dat} (IH : ∀ i, i < n → ToP (f i 0) .exprs) : ToPF 54 (.sl n k f) .rows := by
  intro x w hr hf hm
  obtain ⟨a, cap, rfl⟩ := hr.slice
  obtain rfl : k = 1 := hf.2.2.1
  have hn : n ≤ 1048576 := Nat.le_trans (msr_n n 1 f) hm
  have hms := fun i j hi hj => Nat.le_trans (msr_el (n := n) (k := 1) (f := f) (i := i) (j := j) hi hj) hm
  have hmk := make_ExprSS w n hn
  have hF0 := Fill.new w 36 n 1 f (madeCells #[.slice none 0 0] (n * 1)) (by simp [madeCells])
  have hB0 := (Below.refl w.heap.size w).alloc (Nat.le_refl _) (.cells (madeCells #[.slice none 0 0] (n * 1)) 36)
  simp only [Nat.mul_one] at hmk hF0 hB0
  go_enter Try.func54, Try.ntmps54
  go_wp2_with fail
  clear hmk
  generalize w.alloc (.cells (madeCells #[.slice none 0 0] n) 36) = w0 at hF0 hB0 ⊢
  go_loopw [4] (fun i wr => ∃ j : Nat, j ≤ n ∧ i = .int .i64 (j : Int) ∧ Fill wr w.heap.size 36 n 1 f j ∧ Below w.heap.size w wr) (fun i _ => n - (intOf i).toNat)
  case atStart => exact ⟨0, by omega, rfl, hF0, hB0⟩
  case round =>
    obtain ⟨j, hj, rfl, hF, hB⟩ := hrel
    by_cases hlt : j < n
    · have hlt2 : (j : Int) < (n : Int) := by omega
      have hr2 := hr.later hB
      obtain ⟨g, o, rfl, -, hg, c0, z0, r0, q0⟩ := row_rows hr2 hf hlt
      have m0 := hms j 0 hlt (by decide)
      obtain ⟨xa, xn, xp, rfl⟩ := r0.slice_of q0 rfl
      have hT : ∀ v, Rd v 0 (.slice xa xn xp) (f j 0) → Calls Try.prog 56 #[.slice xa xn xp] v (ToE (f j 0) v) := fun v h => IH j hlt _ v h q0 m0
      clear hms
      go_wp2_with fail
      refine (hT _ r0).mono ?_
      rintro e w1 ⟨y0, rfl, s0, hb⟩
      obtain ⟨ya0, yn0, yc0, rfl⟩ := s0.slice_of q0 rfl
      have hF1 := hF.later hb
      have hB1 := hB.trans (hb.mono hB.size)
      have hsz : w.heap.size + 1 ≤ wr.heap.size := by obtain ⟨cs, h1, _⟩ := hF; exact h1.lt
      replace s0 := s0.low hsz
      clear hF hb hB hsz hr2 z0 r0 hT
      obtain ⟨u0, p0, v0⟩ := hF1.at (m := 0) hlt (by decide)
      rw [Nat.mul_one, Nat.add_zero] at p0 v0
      have hF2 := hF1.step hlt [.slice ya0 yn0 yc0] rfl (fun m hm => match m, hm with
        | 0, _ => ⟨.slice ya0 yn0 yc0, rfl, s0⟩
        | m + 1, hm => absurd hm (by simp))
      have hB2 := puts_below (B := w.heap.size) (Nat.le_refl _) [.slice ya0 yn0 yc0] (j * 1) hB1
      rw [Nat.mul_one] at hF2 hB2
      clear hF1 hB1
      go_wp2_with fail
      rw [show w1.setCell ⟨w.heap.size, j, none⟩ (.slice ya0 yn0 yc0) = puts w.heap.size j [.slice ya0 yn0 yc0] w1 from rfl]
      generalize puts w.heap.size j [.slice ya0 yn0 yc0] w1 = w2 at hF2 hB2 ⊢
      go_roundw
      case rel => exact ⟨j + 1, by omega, by go_num, hF2, hB2⟩
      case measure => simp [intOf]; omega
    · obtain rfl : j = n := by omega
      go_wp2_with fail
      go_ret
      exact ⟨_, rfl, hF.rd, hB⟩
set_option maxRecDepth 100000 in
set_option maxHeartbeats 4000000 in
theorem toStringS_any {n k : Nat} {f : Nat → Nat → Dat} : ToPF 55 (.sl n k f) .names := by
  intro x w hr hf hm
  obtain ⟨a, cap, rfl⟩ := hr.slice
  obtain rfl : k = 1 := hf.2.2.1
  have hn : n ≤ 1048576 := Nat.le_trans (msr_n n 1 f) hm
  have hms := fun i j hi hj => Nat.le_trans (msr_el (n := n) (k := 1) (f := f) (i := i) (j := j) hi hj) hm
  have hmk := make_StrS w n hn
  have hF0 := Fill.new w 9 n 1 f (madeCells #[.string ⟨#[]⟩] (n * 1)) (by simp [madeCells])
  have hB0 := (Below.refl w.heap.size w).alloc (Nat.le_refl _) (.cells (madeCells #[.string ⟨#[]⟩] (n * 1)) 9)
  simp only [Nat.mul_one] at hmk hF0 hB0
  go_enter Try.func55, Try.ntmps55
  go_wp2_with fail
  clear hmk
  generalize w.alloc (.cells (madeCells #[.string ⟨#[]⟩] n) 9) = w0 at hF0 hB0 ⊢
  go_loopw [4] (fun i wr => ∃ j : Nat, j ≤ n ∧ i = .int .i64 (j : Int) ∧ Fill wr w.heap.size 9 n 1 f j ∧ Below w.heap.size w wr) (fun i _ => n - (intOf i).toNat)
  case atStart => exact ⟨0, by omega, rfl, hF0, hB0⟩
  case round =>
    obtain ⟨j, hj, rfl, hF, hB⟩ := hrel
    by_cases hlt : j < n
    · have hlt2 : (j : Int) < (n : Int) := by omega
      have hr2 := hr.later hB
      obtain ⟨g, o, rfl, -, hg, c0, z0, e0, b0⟩ := row_names hr2 hf hlt
      clear hms
      have hF1 := hF
      have hB1 := hB
      clear hF hB hr2
      obtain ⟨u0, p0, v0⟩ := hF1.at (m := 0) hlt (by decide)
      rw [Nat.mul_one, Nat.add_zero] at p0 v0
      have hF2 := hF1.step hlt [.string c0] rfl (fun m hm => match m, hm with
        | 0, _ => ⟨.string c0, rfl, by rw [e0]; rfl⟩
        | m + 1, hm => absurd hm (by simp))
      have hB2 := puts_below (B := w.heap.size) (Nat.le_refl _) [.string c0] (j * 1) hB1
      rw [Nat.mul_one] at hF2 hB2
      clear hF1 hB1
      go_wp2_with fail
      rw [show wr.setCell ⟨w.heap.size, j, none⟩ (.string c0) = puts w.heap.size j [.string c0] wr from rfl]
      generalize puts w.heap.size j [.string c0] wr = w2 at hF2 hB2 ⊢
      go_roundw
      case rel => exact ⟨j + 1, by omega, by go_num, hF2, hB2⟩
      case measure => simp [intOf]; omega
    · obtain rfl : j = n := by omega
      go_wp2_with fail
      go_ret
      exact ⟨_, rfl, hF.rd, hB⟩
set_option maxRecDepth 100000 in
set_option maxHeartbeats 4000000 in
theorem szExprSS_any {n k : Nat} {f : Nat → Nat → Dat} (IH : ∀ i, i < n → SzP (f i 0) .exprs) : SzPF 49 (.sl n k f) .rows := by
  intro x m w h0 h1 hr hf
  obtain ⟨a, cap, rfl⟩ := hr.slice
  obtain rfl : k = 1 := hf.2.2.1
  have hn : n ≤ 9223372036854775807 := hf.2.1
  have hM : msr (.sl n 1 f) = n + partm f 1 n := msr_is n 1 f
  generalize hMM : msr (.sl n 1 f) = M at hM ⊢
  clear hMM
  have HM := Lib.hid hM
  clear hM
  by_cases hbig : m - (n : Int) < 0
  · have d : decide (m - (n : Int) < 0) = true := by simpa using hbig
    go_enter Try.func49, Try.ntmps49
    go_wp2_with fail
    go_ret
    exact ⟨ret_i64 (leftOf_is1 (by have := HM.out; omega)), Below.refl _ _⟩
  have d : decide (m - (n : Int) < 0) = false := by simpa using hbig
  go_enter Try.func49, Try.ntmps49
  go_wp2_with fail
  go_loopw [1, 5] (fun b i wr => ∃ (j : Nat) (r : Int), j ≤ n ∧ i = .int .i64 (j : Int) ∧ b = .int .i64 r ∧ 0 ≤ r ∧ r ≤ 1048576 ∧ Hid (r = m - (n : Int) - (partm f 1 j : Int)) ∧ Below w.heap.size w wr) (fun _ i _ => n - (intOf i).toNat)
  case atStart => exact ⟨0, m - n, by omega, rfl, by go_num, by omega, by omega, by show _ = m - (n : Int) - ((0 : Nat) : Int); omega, Below.refl _ _⟩
  case round =>
    obtain ⟨j, r, hj, rfl, rfl, hr0, hr1, hR, hB⟩ := hrel
    by_cases hlt : j < n
    · have hlt2 : (j : Int) < (n : Int) := by omega
      have hr2 := hr.later hB
      obtain ⟨g, o, rfl, -, hg, c0, z0, r0, q0⟩ := row_rows hr2 hf hlt
      have hrow : rowm f 1 j = msr (f j 0) := by
        simp only [rowm, List.range_succ, List.range_zero, List.nil_append, List.map_cons, List.map_nil, List.sum_cons, List.sum_nil]
        omega
      have hsucc := partm_succ f 1 j
      have hle := partm_le f 1 (show j + 1 ≤ n by omega)
      obtain ⟨xa, xn, xp, rfl⟩ := r0.slice_of q0 rfl
      have hS : ∀ v, Below wr.heap.size wr v → Calls Try.prog 51 #[.slice xa xn xp, .int .i64 r] v (IntE (leftOf r (msr (f j 0))) v) := fun v h => IH j hlt _ r v hr0 hr1 (r0.later h) q0
      rw [← hrow] at hS
      generalize rowm f 1 j = q at hS hsucc
      clear hrow
      by_cases hz : r - (q : Int) < 0
      · simp only [leftOf_no hz] at hS
        have HS := Lib.hid hsucc
        have HZ := Lib.hid hz
        clear hsucc hz
        go_wp2_with fail
        refine (hS _ (Below.refl _ _)).mono ?_
        rintro e w1 ⟨rfl, hb⟩
        have hbb := hB.trans (hb.mono hB.size)
        clear hS
        go_wp2_with fail
        go_ret
        exact ⟨ret_i64 (leftOf_is1 (by have := HM.out; have := HS.out; have := HZ.out; have := hR.out; omega)), hbb⟩
      · obtain ⟨r2, hr2_⟩ : ∃ z : Int, z = r - (q : Int) := ⟨_, rfl⟩
        have l := (leftOf_yes hz).trans hr2_.symm
        simp only [l] at hS
        have k0 : 0 ≤ r2 := by omega
        have k1 : r2 ≤ 1048576 := by omega
        have E2 : Hid (r2 = m - (n : Int) - (partm f 1 (j + 1) : Int)) := by have := hR.out; show _ = _; omega
        have d2 : decide (r2 < 0) = false := by simpa using k0
        clear hsucc hz hr2_ l hle
        go_wp2_with fail
        refine (hS _ (Below.refl _ _)).mono ?_
        rintro e w1 ⟨rfl, hb⟩
        have hbb := hB.trans (hb.mono hB.size)
        clear hS
        go_wp2_with fail
        go_roundw
        case rel => exact ⟨j + 1, r2, by omega, by go_num, rfl, k0, k1, E2, hbb⟩
        case measure => simp [intOf]; omega
    · obtain rfl : j = n := by omega
      go_wp2_with fail
      go_ret
      exact ⟨ret_i64 (leftOf_is (by have := HM.out; have := hR.out; omega) hr0), hB⟩
set_option maxRecDepth 100000 in
set_option maxHeartbeats 4000000 in
theorem szStringS_any {n k : Nat} {f : Nat → Nat → Dat} : SzPF 50 (.sl n k f) .names := by
  intro x m w h0 h1 hr hf
  obtain ⟨a, cap, rfl⟩ := hr.slice
  obtain rfl : k = 1 := hf.2.2.1
  have hn : n ≤ 9223372036854775807 := hf.2.1
  have hM : msr (.sl n 1 f) = n + partm f 1 n := msr_is n 1 f
  generalize hMM : msr (.sl n 1 f) = M at hM ⊢
  clear hMM
  have HM := Lib.hid hM
  clear hM
  by_cases hbig : m - (n : Int) < 0
  · have d : decide (m - (n : Int) < 0) = true := by simpa using hbig
    go_enter Try.func50, Try.ntmps50
    go_wp2_with fail
    go_ret
    exact ⟨ret_i64 (leftOf_is1 (by have := HM.out; omega)), Below.refl _ _⟩
  have d : decide (m - (n : Int) < 0) = false := by simpa using hbig
  go_enter Try.func50, Try.ntmps50
  go_wp2_with fail
  go_loopw [1, 5] (fun b i wr => ∃ (j : Nat) (r : Int), j ≤ n ∧ i = .int .i64 (j : Int) ∧ b = .int .i64 r ∧ 0 ≤ r ∧ r ≤ 1048576 ∧ Hid (r = m - (n : Int) - (partm f 1 j : Int)) ∧ Below w.heap.size w wr) (fun _ i _ => n - (intOf i).toNat)
  case atStart => exact ⟨0, m - n, by omega, rfl, by go_num, by omega, by omega, by show _ = m - (n : Int) - ((0 : Nat) : Int); omega, Below.refl _ _⟩
  case round =>
    obtain ⟨j, r, hj, rfl, rfl, hr0, hr1, hR, hB⟩ := hrel
    by_cases hlt : j < n
    · have hlt2 : (j : Int) < (n : Int) := by omega
      have hr2 := hr.later hB
      obtain ⟨g, o, rfl, -, hg, c0, z0, e0, b0⟩ := row_names hr2 hf hlt
      have hrow : rowm f 1 j = c0.size := by
        simp only [rowm, List.range_succ, List.range_zero, List.nil_append, List.map_cons, List.map_nil, List.sum_cons, List.sum_nil, e0, msr_str]
        omega
      have hsucc := partm_succ f 1 j
      have hle := partm_le f 1 (show j + 1 ≤ n by omega)
      rw [hrow] at hsucc
      clear hrow e0
      by_cases hz : r - (c0.size : Int) < 0
      · have dz : decide (r - (c0.size : Int) < 0) = true := by simpa using hz
        have HS := Lib.hid hsucc
        have HZ := Lib.hid hz
        clear hsucc hz
        go_wp2_with fail
        go_ret
        exact ⟨ret_i64 (leftOf_is1 (by have := HM.out; have := HS.out; have := HZ.out; have := hR.out; omega)), hB⟩
      · have dz : decide (r - (c0.size : Int) < 0) = false := by simpa using hz
        have k0 : 0 ≤ r - (c0.size : Int) := by omega
        have k1 : r - (c0.size : Int) ≤ 1048576 := by omega
        have E2 : Hid (r - (c0.size : Int) = m - (n : Int) - (partm f 1 (j + 1) : Int)) := by have := hR.out; show _ = _; omega
        clear hsucc hz hle
        go_wp2_with fail
        go_roundw
        case rel => exact ⟨j + 1, r - (c0.size : Int), by omega, by go_num, by go_num, k0, k1, E2, hB⟩
        case measure => simp [intOf]; omega
    · obtain rfl : j = n := by omega
      go_wp2_with fail
      go_ret
      exact ⟨ret_i64 (leftOf_is (by have := HM.out; have := hR.out; omega) hr0), hB⟩
set_option maxRecDepth 100000 in
set_option maxHeartbeats 4000000 in
theorem eqExprSS_any {n k : Nat} {f : Nat → Nat → Dat} (IH : ∀ i, i < n → EqP (f i 0) .exprs) : EqPF 59 (.sl n k f) .rows := by
  intro x y w hr hs hf
  obtain ⟨a, cap, rfl⟩ := hr.slice
  obtain ⟨a2, cap2, rfl⟩ := hs.slice
  obtain rfl : k = 1 := hf.2.2.1
  have hn : n ≤ 9223372036854775807 := hf.2.1
  go_enter Try.func59, Try.ntmps59
  go_wp2_with fail
  go_loopw [5] (fun i wr => ∃ j : Nat, j ≤ n ∧ i = .int .i64 (j : Int) ∧ Below w.heap.size w wr) (fun i _ => n - (intOf i).toNat)
  case atStart => exact ⟨0, by omega, rfl, Below.refl _ _⟩
  case round =>
    obtain ⟨j, hj, rfl, hB⟩ := hrel
    by_cases hlt : j < n
    · have hlt2 : (j : Int) < (n : Int) := by omega
      have hr2 := hr.later hB
      have hs2 := hs.later hB
      obtain ⟨g, o, rfl, -, hg, c0, z0, r0, q0⟩ := row_rows hr2 hf hlt
      obtain ⟨g2, o2, rfl, -, hg2, x0, k0, s0, -⟩ := row_rows hs2 hf hlt
      obtain ⟨xa, xn, xp, rfl⟩ := r0.slice_of q0 rfl
      obtain ⟨ya, yn, yp, rfl⟩ := s0.slice_of q0 rfl
      have hE : ∀ v, Below wr.heap.size wr v → Calls Try.prog 40 #[.slice xa xn xp, .slice ya yn yp] v (BoolE true v) := fun v h => IH j hlt _ _ v (r0.later h) (s0.later h) q0
      clear hr2 hs2
      go_wp2_with fail
      replace z0 := lat_cell z0
      replace k0 := lat_cell k0
      refine region_lat (by kernel_rfl) (by kernel_rfl) ?_
      iterate 10 (go_big_quiet_step ((refine (hE _ (lat_below wr _)).mono ?_; rintro e w'' ⟨rfl, hb''⟩; exact ⟨rfl, lat_to hb''⟩)))
      refine wpQuiet_nil ?_
      rintro _ ⟨nq, rfl⟩
      have hbq := hB.trans ((lat_below wr nq).mono hB.size)
      clear hE z0 k0
      generalize lat wr nq = wq at hbq ⊢
      go_wp2_with fail
      go_roundw
      case rel => exact ⟨j + 1, by omega, by go_num, hbq⟩
      case measure => simp [intOf]; omega
    · obtain rfl : j = n := by omega
      go_wp2_with fail
      go_ret
      exact ⟨rfl, hB⟩
set_option maxRecDepth 100000 in
set_option maxHeartbeats 4000000 in
theorem eqStringS_any {n k : Nat} {f : Nat → Nat → Dat} : EqPF 46 (.sl n k f) .names := by
  intro x y w hr hs hf
  obtain ⟨a, cap, rfl⟩ := hr.slice
  obtain ⟨a2, cap2, rfl⟩ := hs.slice
  obtain rfl : k = 1 := hf.2.2.1
  have hn : n ≤ 9223372036854775807 := hf.2.1
  go_enter Try.func46, Try.ntmps46
  go_wp2_with fail
  go_loopw [5] (fun i wr => ∃ j : Nat, j ≤ n ∧ i = .int .i64 (j : Int) ∧ Below w.heap.size w wr) (fun i _ => n - (intOf i).toNat)
  case atStart => exact ⟨0, by omega, rfl, Below.refl _ _⟩
  case round =>
    obtain ⟨j, hj, rfl, hB⟩ := hrel
    by_cases hlt : j < n
    · have hlt2 : (j : Int) < (n : Int) := by omega
      have hr2 := hr.later hB
      have hs2 := hs.later hB
      obtain ⟨g, o, rfl, -, hg, c0, z0, e0, b0⟩ := row_names hr2 hf hlt
      obtain ⟨g2, o2, rfl, -, hg2, x0, k0, l0, -⟩ := row_names hs2 hf hlt
      obtain rfl : c0 = x0 := by rw [e0] at l0; injection l0 with l; injection l
      clear e0 l0
      clear hr2 hs2
      go_wp2_with fail
      replace z0 := lat_cell z0
      replace k0 := lat_cell k0
      refine region_lat (by kernel_rfl) (by kernel_rfl) ?_
      iterate 9 (go_big_quiet_step (fail))
      refine wpQuiet_nil ?_
      rintro _ ⟨nq, rfl⟩
      have hbq := hB.trans ((lat_below wr nq).mono hB.size)
      clear z0 k0
      generalize lat wr nq = wq at hbq ⊢
      go_wp2_with fail
      go_roundw
      case rel => exact ⟨j + 1, by omega, by go_num, hbq⟩
      case measure => simp [intOf]; omega
    · obtain rfl : j = n := by omega
      go_wp2_with fail
      go_ret
      exact ⟨rfl, hB⟩
end Go.Proofs.Ytfmgkinindkedaa

/- The laws' copies, sizes and comparisons of statements. -/
namespace Go.Proofs.Ytfmgkinindkedaa
open Go.RowKit
set_option linter.unusedVariables false

/-- a struct of this type comes back, its slices copied -/
def ToStmtE (c0 : Int) (c1 : Bool) (c6 : Int) (c7 : ByteArray) (d2 : Dat) (d3 : Dat) (d4 : Dat) (d5 : Dat) (d8 : Dat) (d9 : Dat) (d10 : Dat) (d11 : Dat) (w : World) (e : Ending) (w' : World) : Prop :=
  ∃ y2 y3 y4 y5 y8 y9 y10 y11 : Value, e = .returned (.agg #[.int .i64 c0, .bool c1, y2, y3, y4, y5, .int .i64 c6, .string c7, y8, y9, y10, y11]) ∧ Rd w' w.heap.size y2 d2 ∧ Rd w' w.heap.size y3 d3 ∧ Rd w' w.heap.size y4 d4 ∧ Rd w' w.heap.size y5 d5 ∧ Rd w' w.heap.size y8 d8 ∧ Rd w' w.heap.size y9 d9 ∧ Rd w' w.heap.size y10 d10 ∧ Rd w' w.heap.size y11 d11 ∧ Below w.heap.size w w'
set_option maxRecDepth 100000 in
set_option maxHeartbeats 4000000 in
theorem toStmt_any (c0 : Int) (c1 : Bool) (c2 : Value) (c3 : Value) (c4 : Value) (c5 : Value) (c6 : Int) (c7 : ByteArray) (c8 : Value) (c9 : Value) (c10 : Value) (c11 : Value) (d2 : Dat) (d3 : Dat) (d4 : Dat) (d5 : Dat) (d8 : Dat) (d9 : Dat) (d10 : Dat) (d11 : Dat) (w : World) (h2 : ToP d2 .items) (h3 : ToP d3 .sources) (h4 : ToP d4 .exprs) (h5 : ToP d5 .keys) (h8 : ToPF 54 d8 .rows) (h9 : ToPF 55 d9 .names) (h10 : ToP d10 .exprs) (h11 : ToP d11 .exprs) (r2 : Rd w 0 c2 d2) (q2 : Fits d2 .items) (m2 : msr d2 ≤ 1048576) (r3 : Rd w 0 c3 d3) (q3 : Fits d3 .sources) (m3 : msr d3 ≤ 1048576) (r4 : Rd w 0 c4 d4) (q4 : Fits d4 .exprs) (m4 : msr d4 ≤ 1048576) (r5 : Rd w 0 c5 d5) (q5 : Fits d5 .keys) (m5 : msr d5 ≤ 1048576) (r8 : Rd w 0 c8 d8) (q8 : Fits d8 .rows) (m8 : msr d8 ≤ 1048576) (r9 : Rd w 0 c9 d9) (q9 : Fits d9 .names) (m9 : msr d9 ≤ 1048576) (r10 : Rd w 0 c10 d10) (q10 : Fits d10 .exprs) (m10 : msr d10 ≤ 1048576) (r11 : Rd w 0 c11 d11) (q11 : Fits d11 .exprs) (m11 : msr d11 ≤ 1048576) :
    Calls Try.prog 15 #[.agg #[.int .i64 c0, .bool c1, c2, c3, c4, c5, .int .i64 c6, .string c7, c8, c9, c10, c11]] w (ToStmtE c0 c1 c6 c7 d2 d3 d4 d5 d8 d9 d10 d11 w) := by
  simp only [ToP, ToPF] at h2
  simp only [ToP, ToPF] at h3
  simp only [ToP, ToPF] at h4
  simp only [ToP, ToPF] at h5
  simp only [ToP, ToPF] at h8
  simp only [ToP, ToPF] at h9
  simp only [ToP, ToPF] at h10
  simp only [ToP, ToPF] at h11
  go_enter Try.func15, Try.ntmps15
  go_wp2_with fail
  have H := TF.new w 31 42 #[.int .i64 c0, .bool c1, c2, c3, c4, c5, .int .i64 c6, .string c7, c8, c9, c10, c11] #[.int .i64 0, .bool false, .slice none 0 0, .slice none 0 0, .slice none 0 0, .slice none 0 0, .int .i64 0, .string ⟨#[]⟩, .slice none 0 0, .slice none 0 0, .slice none 0 0, .slice none 0 0] #[.int .i64 c0, .bool false, .slice none 0 0, .slice none 0 0, .slice none 0 0, .slice none 0 0, .int .i64 0, .string ⟨#[]⟩, .slice none 0 0, .slice none 0 0, .slice none 0 0, .slice none 0 0]
  generalize ((w.alloc (.cells #[.int .i64 c0, .bool c1, c2, c3, c4, c5, .int .i64 c6, .string c7, c8, c9, c10, c11] 31)).alloc (.cells #[.int .i64 0, .bool false, .slice none 0 0, .slice none 0 0, .slice none 0 0, .slice none 0 0, .int .i64 0, .string ⟨#[]⟩, .slice none 0 0, .slice none 0 0, .slice none 0 0, .slice none 0 0] 42)).alloc (.cells #[.int .i64 c0, .bool false, .slice none 0 0, .slice none 0 0, .slice none 0 0, .slice none 0 0, .int .i64 0, .string ⟨#[]⟩, .slice none 0 0, .slice none 0 0, .slice none 0 0, .slice none 0 0] 42) = w0 at H ⊢
  refine (toQuery_any _ _ _ _ _ _ _ _ _ _ _ h2 h3 h4 h5 (r2.later (H.b)) q2 m2 (r3.later (H.b)) q3 m3 (r4.later (H.b)) q4 m4 (r5.later (H.b)) q5 m5).mono ?_
  rintro e w1 ⟨y2, y3, y4, y5, rfl, s2, s3, s4, s5, hb⟩
  replace s2 := s2.low H.size
  obtain ⟨ya2, yn2, yc2, rfl⟩ := s2.slice_of q2 rfl
  replace s3 := s3.low H.size
  obtain ⟨ya3, yn3, yc3, rfl⟩ := s3.slice_of q3 rfl
  replace s4 := s4.low H.size
  obtain ⟨ya4, yn4, yc4, rfl⟩ := s4.slice_of q4 rfl
  replace s5 := s5.low H.size
  obtain ⟨ya5, yn5, yc5, rfl⟩ := s5.slice_of q5 rfl
  replace H := H.next hb
  clear hb
  have u1 := H.ro.cell (i := 1) (v := .bool false) rfl
  have v1 := H.ro.soft 1
  have u2 := H.ro.cell (i := 2) (v := .slice none 0 0) rfl
  have v2 := H.ro.soft 2
  have u3 := H.ro.cell (i := 3) (v := .slice none 0 0) rfl
  have v3 := H.ro.soft 3
  have u4 := H.ro.cell (i := 4) (v := .slice none 0 0) rfl
  have v4 := H.ro.soft 4
  have u5 := H.ro.cell (i := 5) (v := .slice none 0 0) rfl
  have v5 := H.ro.soft 5
  have u6 := H.ro.cell (i := 6) (v := .int .i64 0) rfl
  have v6 := H.ro.soft 6
  have a7 := H.ra.cell (i := 7) (v := .string c7) rfl
  have u7 := H.ro.cell (i := 7) (v := .string ⟨#[]⟩) rfl
  have v7 := H.ro.soft 7
  have a8 := H.ra.cell (i := 8) (v := c8) rfl
  go_wp2_with fail
  replace H : TF w _ 31 42 #[.int .i64 c0, .bool c1, c2, c3, c4, c5, .int .i64 c6, .string c7, c8, c9, c10, c11] #[.int .i64 0, .bool false, .slice none 0 0, .slice none 0 0, .slice none 0 0, .slice none 0 0, .int .i64 0, .string ⟨#[]⟩, .slice none 0 0, .slice none 0 0, .slice none 0 0, .slice none 0 0] #[.int .i64 c0, .bool c1, .slice none 0 0, .slice none 0 0, .slice none 0 0, .slice none 0 0, .int .i64 0, .string ⟨#[]⟩, .slice none 0 0, .slice none 0 0, .slice none 0 0, .slice none 0 0] := H.put 1 (.bool c1)
  replace s2 := s2.set (p := ⟨w.heap.size + 2, 1, none⟩) (Nat.lt_succ_self _) (.bool c1)
  replace s3 := s3.set (p := ⟨w.heap.size + 2, 1, none⟩) (Nat.lt_succ_self _) (.bool c1)
  replace s4 := s4.set (p := ⟨w.heap.size + 2, 1, none⟩) (Nat.lt_succ_self _) (.bool c1)
  replace s5 := s5.set (p := ⟨w.heap.size + 2, 1, none⟩) (Nat.lt_succ_self _) (.bool c1)
  replace H : TF w _ 31 42 #[.int .i64 c0, .bool c1, c2, c3, c4, c5, .int .i64 c6, .string c7, c8, c9, c10, c11] #[.int .i64 0, .bool false, .slice none 0 0, .slice none 0 0, .slice none 0 0, .slice none 0 0, .int .i64 0, .string ⟨#[]⟩, .slice none 0 0, .slice none 0 0, .slice none 0 0, .slice none 0 0] #[.int .i64 c0, .bool c1, .slice ya2 yn2 yc2, .slice none 0 0, .slice none 0 0, .slice none 0 0, .int .i64 0, .string ⟨#[]⟩, .slice none 0 0, .slice none 0 0, .slice none 0 0, .slice none 0 0] := H.put 2 (.slice ya2 yn2 yc2)
  replace s2 := s2.set (p := ⟨w.heap.size + 2, 2, none⟩) (Nat.lt_succ_self _) (.slice ya2 yn2 yc2)
  replace s3 := s3.set (p := ⟨w.heap.size + 2, 2, none⟩) (Nat.lt_succ_self _) (.slice ya2 yn2 yc2)
  replace s4 := s4.set (p := ⟨w.heap.size + 2, 2, none⟩) (Nat.lt_succ_self _) (.slice ya2 yn2 yc2)
  replace s5 := s5.set (p := ⟨w.heap.size + 2, 2, none⟩) (Nat.lt_succ_self _) (.slice ya2 yn2 yc2)
  replace H : TF w _ 31 42 #[.int .i64 c0, .bool c1, c2, c3, c4, c5, .int .i64 c6, .string c7, c8, c9, c10, c11] #[.int .i64 0, .bool false, .slice none 0 0, .slice none 0 0, .slice none 0 0, .slice none 0 0, .int .i64 0, .string ⟨#[]⟩, .slice none 0 0, .slice none 0 0, .slice none 0 0, .slice none 0 0] #[.int .i64 c0, .bool c1, .slice ya2 yn2 yc2, .slice ya3 yn3 yc3, .slice none 0 0, .slice none 0 0, .int .i64 0, .string ⟨#[]⟩, .slice none 0 0, .slice none 0 0, .slice none 0 0, .slice none 0 0] := H.put 3 (.slice ya3 yn3 yc3)
  replace s2 := s2.set (p := ⟨w.heap.size + 2, 3, none⟩) (Nat.lt_succ_self _) (.slice ya3 yn3 yc3)
  replace s3 := s3.set (p := ⟨w.heap.size + 2, 3, none⟩) (Nat.lt_succ_self _) (.slice ya3 yn3 yc3)
  replace s4 := s4.set (p := ⟨w.heap.size + 2, 3, none⟩) (Nat.lt_succ_self _) (.slice ya3 yn3 yc3)
  replace s5 := s5.set (p := ⟨w.heap.size + 2, 3, none⟩) (Nat.lt_succ_self _) (.slice ya3 yn3 yc3)
  replace H : TF w _ 31 42 #[.int .i64 c0, .bool c1, c2, c3, c4, c5, .int .i64 c6, .string c7, c8, c9, c10, c11] #[.int .i64 0, .bool false, .slice none 0 0, .slice none 0 0, .slice none 0 0, .slice none 0 0, .int .i64 0, .string ⟨#[]⟩, .slice none 0 0, .slice none 0 0, .slice none 0 0, .slice none 0 0] #[.int .i64 c0, .bool c1, .slice ya2 yn2 yc2, .slice ya3 yn3 yc3, .slice ya4 yn4 yc4, .slice none 0 0, .int .i64 0, .string ⟨#[]⟩, .slice none 0 0, .slice none 0 0, .slice none 0 0, .slice none 0 0] := H.put 4 (.slice ya4 yn4 yc4)
  replace s2 := s2.set (p := ⟨w.heap.size + 2, 4, none⟩) (Nat.lt_succ_self _) (.slice ya4 yn4 yc4)
  replace s3 := s3.set (p := ⟨w.heap.size + 2, 4, none⟩) (Nat.lt_succ_self _) (.slice ya4 yn4 yc4)
  replace s4 := s4.set (p := ⟨w.heap.size + 2, 4, none⟩) (Nat.lt_succ_self _) (.slice ya4 yn4 yc4)
  replace s5 := s5.set (p := ⟨w.heap.size + 2, 4, none⟩) (Nat.lt_succ_self _) (.slice ya4 yn4 yc4)
  replace H : TF w _ 31 42 #[.int .i64 c0, .bool c1, c2, c3, c4, c5, .int .i64 c6, .string c7, c8, c9, c10, c11] #[.int .i64 0, .bool false, .slice none 0 0, .slice none 0 0, .slice none 0 0, .slice none 0 0, .int .i64 0, .string ⟨#[]⟩, .slice none 0 0, .slice none 0 0, .slice none 0 0, .slice none 0 0] #[.int .i64 c0, .bool c1, .slice ya2 yn2 yc2, .slice ya3 yn3 yc3, .slice ya4 yn4 yc4, .slice ya5 yn5 yc5, .int .i64 0, .string ⟨#[]⟩, .slice none 0 0, .slice none 0 0, .slice none 0 0, .slice none 0 0] := H.put 5 (.slice ya5 yn5 yc5)
  replace s2 := s2.set (p := ⟨w.heap.size + 2, 5, none⟩) (Nat.lt_succ_self _) (.slice ya5 yn5 yc5)
  replace s3 := s3.set (p := ⟨w.heap.size + 2, 5, none⟩) (Nat.lt_succ_self _) (.slice ya5 yn5 yc5)
  replace s4 := s4.set (p := ⟨w.heap.size + 2, 5, none⟩) (Nat.lt_succ_self _) (.slice ya5 yn5 yc5)
  replace s5 := s5.set (p := ⟨w.heap.size + 2, 5, none⟩) (Nat.lt_succ_self _) (.slice ya5 yn5 yc5)
  replace H : TF w _ 31 42 #[.int .i64 c0, .bool c1, c2, c3, c4, c5, .int .i64 c6, .string c7, c8, c9, c10, c11] #[.int .i64 0, .bool false, .slice none 0 0, .slice none 0 0, .slice none 0 0, .slice none 0 0, .int .i64 0, .string ⟨#[]⟩, .slice none 0 0, .slice none 0 0, .slice none 0 0, .slice none 0 0] #[.int .i64 c0, .bool c1, .slice ya2 yn2 yc2, .slice ya3 yn3 yc3, .slice ya4 yn4 yc4, .slice ya5 yn5 yc5, .int .i64 c6, .string ⟨#[]⟩, .slice none 0 0, .slice none 0 0, .slice none 0 0, .slice none 0 0] := H.put 6 (.int .i64 c6)
  replace s2 := s2.set (p := ⟨w.heap.size + 2, 6, none⟩) (Nat.lt_succ_self _) (.int .i64 c6)
  replace s3 := s3.set (p := ⟨w.heap.size + 2, 6, none⟩) (Nat.lt_succ_self _) (.int .i64 c6)
  replace s4 := s4.set (p := ⟨w.heap.size + 2, 6, none⟩) (Nat.lt_succ_self _) (.int .i64 c6)
  replace s5 := s5.set (p := ⟨w.heap.size + 2, 6, none⟩) (Nat.lt_succ_self _) (.int .i64 c6)
  replace H : TF w _ 31 42 #[.int .i64 c0, .bool c1, c2, c3, c4, c5, .int .i64 c6, .string c7, c8, c9, c10, c11] #[.int .i64 0, .bool false, .slice none 0 0, .slice none 0 0, .slice none 0 0, .slice none 0 0, .int .i64 0, .string ⟨#[]⟩, .slice none 0 0, .slice none 0 0, .slice none 0 0, .slice none 0 0] #[.int .i64 c0, .bool c1, .slice ya2 yn2 yc2, .slice ya3 yn3 yc3, .slice ya4 yn4 yc4, .slice ya5 yn5 yc5, .int .i64 c6, .string c7, .slice none 0 0, .slice none 0 0, .slice none 0 0, .slice none 0 0] := H.put 7 (.string c7)
  replace s2 := s2.set (p := ⟨w.heap.size + 2, 7, none⟩) (Nat.lt_succ_self _) (.string c7)
  replace s3 := s3.set (p := ⟨w.heap.size + 2, 7, none⟩) (Nat.lt_succ_self _) (.string c7)
  replace s4 := s4.set (p := ⟨w.heap.size + 2, 7, none⟩) (Nat.lt_succ_self _) (.string c7)
  replace s5 := s5.set (p := ⟨w.heap.size + 2, 7, none⟩) (Nat.lt_succ_self _) (.string c7)
  clear a8
  refine (h8 _ _ (r8.later H.b) q8 m8).mono ?_
  rintro e w2 ⟨y8, rfl, s8, hb⟩
  replace s8 := s8.low H.size
  obtain ⟨ya8, yn8, yc8, rfl⟩ := s8.slice_of q8 rfl
  replace s2 := s2.later hb
  replace s3 := s3.later hb
  replace s4 := s4.later hb
  replace s5 := s5.later hb
  replace H := H.next hb
  clear hb
  have u8 := H.ro.cell (i := 8) (v := .slice none 0 0) rfl
  have v8 := H.ro.soft 8
  have a9 := H.ra.cell (i := 9) (v := c9) rfl
  go_wp2_with fail
  replace H : TF w _ 31 42 #[.int .i64 c0, .bool c1, c2, c3, c4, c5, .int .i64 c6, .string c7, c8, c9, c10, c11] #[.int .i64 0, .bool false, .slice none 0 0, .slice none 0 0, .slice none 0 0, .slice none 0 0, .int .i64 0, .string ⟨#[]⟩, .slice none 0 0, .slice none 0 0, .slice none 0 0, .slice none 0 0] #[.int .i64 c0, .bool c1, .slice ya2 yn2 yc2, .slice ya3 yn3 yc3, .slice ya4 yn4 yc4, .slice ya5 yn5 yc5, .int .i64 c6, .string c7, .slice ya8 yn8 yc8, .slice none 0 0, .slice none 0 0, .slice none 0 0] := H.put 8 (.slice ya8 yn8 yc8)
  replace s2 := s2.set (p := ⟨w.heap.size + 2, 8, none⟩) (Nat.lt_succ_self _) (.slice ya8 yn8 yc8)
  replace s3 := s3.set (p := ⟨w.heap.size + 2, 8, none⟩) (Nat.lt_succ_self _) (.slice ya8 yn8 yc8)
  replace s4 := s4.set (p := ⟨w.heap.size + 2, 8, none⟩) (Nat.lt_succ_self _) (.slice ya8 yn8 yc8)
  replace s5 := s5.set (p := ⟨w.heap.size + 2, 8, none⟩) (Nat.lt_succ_self _) (.slice ya8 yn8 yc8)
  replace s8 := s8.set (p := ⟨w.heap.size + 2, 8, none⟩) (Nat.lt_succ_self _) (.slice ya8 yn8 yc8)
  clear a9
  refine (h9 _ _ (r9.later H.b) q9 m9).mono ?_
  rintro e w3 ⟨y9, rfl, s9, hb⟩
  replace s9 := s9.low H.size
  obtain ⟨ya9, yn9, yc9, rfl⟩ := s9.slice_of q9 rfl
  replace s2 := s2.later hb
  replace s3 := s3.later hb
  replace s4 := s4.later hb
  replace s5 := s5.later hb
  replace s8 := s8.later hb
  replace H := H.next hb
  clear hb
  have u9 := H.ro.cell (i := 9) (v := .slice none 0 0) rfl
  have v9 := H.ro.soft 9
  have a10 := H.ra.cell (i := 10) (v := c10) rfl
  go_wp2_with fail
  replace H : TF w _ 31 42 #[.int .i64 c0, .bool c1, c2, c3, c4, c5, .int .i64 c6, .string c7, c8, c9, c10, c11] #[.int .i64 0, .bool false, .slice none 0 0, .slice none 0 0, .slice none 0 0, .slice none 0 0, .int .i64 0, .string ⟨#[]⟩, .slice none 0 0, .slice none 0 0, .slice none 0 0, .slice none 0 0] #[.int .i64 c0, .bool c1, .slice ya2 yn2 yc2, .slice ya3 yn3 yc3, .slice ya4 yn4 yc4, .slice ya5 yn5 yc5, .int .i64 c6, .string c7, .slice ya8 yn8 yc8, .slice ya9 yn9 yc9, .slice none 0 0, .slice none 0 0] := H.put 9 (.slice ya9 yn9 yc9)
  replace s2 := s2.set (p := ⟨w.heap.size + 2, 9, none⟩) (Nat.lt_succ_self _) (.slice ya9 yn9 yc9)
  replace s3 := s3.set (p := ⟨w.heap.size + 2, 9, none⟩) (Nat.lt_succ_self _) (.slice ya9 yn9 yc9)
  replace s4 := s4.set (p := ⟨w.heap.size + 2, 9, none⟩) (Nat.lt_succ_self _) (.slice ya9 yn9 yc9)
  replace s5 := s5.set (p := ⟨w.heap.size + 2, 9, none⟩) (Nat.lt_succ_self _) (.slice ya9 yn9 yc9)
  replace s8 := s8.set (p := ⟨w.heap.size + 2, 9, none⟩) (Nat.lt_succ_self _) (.slice ya9 yn9 yc9)
  replace s9 := s9.set (p := ⟨w.heap.size + 2, 9, none⟩) (Nat.lt_succ_self _) (.slice ya9 yn9 yc9)
  clear a10
  refine (h10 _ _ (r10.later H.b) q10 m10).mono ?_
  rintro e w4 ⟨y10, rfl, s10, hb⟩
  replace s10 := s10.low H.size
  obtain ⟨ya10, yn10, yc10, rfl⟩ := s10.slice_of q10 rfl
  replace s2 := s2.later hb
  replace s3 := s3.later hb
  replace s4 := s4.later hb
  replace s5 := s5.later hb
  replace s8 := s8.later hb
  replace s9 := s9.later hb
  replace H := H.next hb
  clear hb
  have u10 := H.ro.cell (i := 10) (v := .slice none 0 0) rfl
  have v10 := H.ro.soft 10
  have a11 := H.ra.cell (i := 11) (v := c11) rfl
  go_wp2_with fail
  replace H : TF w _ 31 42 #[.int .i64 c0, .bool c1, c2, c3, c4, c5, .int .i64 c6, .string c7, c8, c9, c10, c11] #[.int .i64 0, .bool false, .slice none 0 0, .slice none 0 0, .slice none 0 0, .slice none 0 0, .int .i64 0, .string ⟨#[]⟩, .slice none 0 0, .slice none 0 0, .slice none 0 0, .slice none 0 0] #[.int .i64 c0, .bool c1, .slice ya2 yn2 yc2, .slice ya3 yn3 yc3, .slice ya4 yn4 yc4, .slice ya5 yn5 yc5, .int .i64 c6, .string c7, .slice ya8 yn8 yc8, .slice ya9 yn9 yc9, .slice ya10 yn10 yc10, .slice none 0 0] := H.put 10 (.slice ya10 yn10 yc10)
  replace s2 := s2.set (p := ⟨w.heap.size + 2, 10, none⟩) (Nat.lt_succ_self _) (.slice ya10 yn10 yc10)
  replace s3 := s3.set (p := ⟨w.heap.size + 2, 10, none⟩) (Nat.lt_succ_self _) (.slice ya10 yn10 yc10)
  replace s4 := s4.set (p := ⟨w.heap.size + 2, 10, none⟩) (Nat.lt_succ_self _) (.slice ya10 yn10 yc10)
  replace s5 := s5.set (p := ⟨w.heap.size + 2, 10, none⟩) (Nat.lt_succ_self _) (.slice ya10 yn10 yc10)
  replace s8 := s8.set (p := ⟨w.heap.size + 2, 10, none⟩) (Nat.lt_succ_self _) (.slice ya10 yn10 yc10)
  replace s9 := s9.set (p := ⟨w.heap.size + 2, 10, none⟩) (Nat.lt_succ_self _) (.slice ya10 yn10 yc10)
  replace s10 := s10.set (p := ⟨w.heap.size + 2, 10, none⟩) (Nat.lt_succ_self _) (.slice ya10 yn10 yc10)
  clear a11
  refine (h11 _ _ (r11.later H.b) q11 m11).mono ?_
  rintro e w5 ⟨y11, rfl, s11, hb⟩
  replace s11 := s11.low H.size
  obtain ⟨ya11, yn11, yc11, rfl⟩ := s11.slice_of q11 rfl
  replace s2 := s2.later hb
  replace s3 := s3.later hb
  replace s4 := s4.later hb
  replace s5 := s5.later hb
  replace s8 := s8.later hb
  replace s9 := s9.later hb
  replace s10 := s10.later hb
  replace H := H.next hb
  clear hb
  have u11 := H.ro.cell (i := 11) (v := .slice none 0 0) rfl
  have v11 := H.ro.soft 11
  replace H : TF w _ 31 42 #[.int .i64 c0, .bool c1, c2, c3, c4, c5, .int .i64 c6, .string c7, c8, c9, c10, c11] #[.int .i64 0, .bool false, .slice none 0 0, .slice none 0 0, .slice none 0 0, .slice none 0 0, .int .i64 0, .string ⟨#[]⟩, .slice none 0 0, .slice none 0 0, .slice none 0 0, .slice none 0 0] #[.int .i64 c0, .bool c1, .slice ya2 yn2 yc2, .slice ya3 yn3 yc3, .slice ya4 yn4 yc4, .slice ya5 yn5 yc5, .int .i64 c6, .string c7, .slice ya8 yn8 yc8, .slice ya9 yn9 yc9, .slice ya10 yn10 yc10, .slice ya11 yn11 yc11] := H.put 11 (.slice ya11 yn11 yc11)
  replace s2 := s2.set (p := ⟨w.heap.size + 2, 11, none⟩) (Nat.lt_succ_self _) (.slice ya11 yn11 yc11)
  replace s3 := s3.set (p := ⟨w.heap.size + 2, 11, none⟩) (Nat.lt_succ_self _) (.slice ya11 yn11 yc11)
  replace s4 := s4.set (p := ⟨w.heap.size + 2, 11, none⟩) (Nat.lt_succ_self _) (.slice ya11 yn11 yc11)
  replace s5 := s5.set (p := ⟨w.heap.size + 2, 11, none⟩) (Nat.lt_succ_self _) (.slice ya11 yn11 yc11)
  replace s8 := s8.set (p := ⟨w.heap.size + 2, 11, none⟩) (Nat.lt_succ_self _) (.slice ya11 yn11 yc11)
  replace s9 := s9.set (p := ⟨w.heap.size + 2, 11, none⟩) (Nat.lt_succ_self _) (.slice ya11 yn11 yc11)
  replace s10 := s10.set (p := ⟨w.heap.size + 2, 11, none⟩) (Nat.lt_succ_self _) (.slice ya11 yn11 yc11)
  replace s11 := s11.set (p := ⟨w.heap.size + 2, 11, none⟩) (Nat.lt_succ_self _) (.slice ya11 yn11 yc11)
  go_upto_region 9 with (fail)
  generalize (w5.setCell ⟨w.heap.size + 2, 11, none⟩ (.slice ya11 yn11 yc11)) = wz at H s2 s3 s4 s5 s8 s9 s10 s11 ⊢
  have g0 := H.rr.cell (i := 0) (v := .int .i64 0) rfl
  have k0 := H.rr.soft 0
  have o0 := H.ro.cell (i := 0) (v := .int .i64 c0) rfl
  have g1 := H.rr.cell (i := 1) (v := .bool false) rfl
  have k1 := H.rr.soft 1
  have o1 := H.ro.cell (i := 1) (v := .bool c1) rfl
  have g2 := H.rr.cell (i := 2) (v := .slice none 0 0) rfl
  have k2 := H.rr.soft 2
  have o2 := H.ro.cell (i := 2) (v := .slice ya2 yn2 yc2) rfl
  have g3 := H.rr.cell (i := 3) (v := .slice none 0 0) rfl
  have k3 := H.rr.soft 3
  have o3 := H.ro.cell (i := 3) (v := .slice ya3 yn3 yc3) rfl
  have g4 := H.rr.cell (i := 4) (v := .slice none 0 0) rfl
  have k4 := H.rr.soft 4
  have o4 := H.ro.cell (i := 4) (v := .slice ya4 yn4 yc4) rfl
  have g5 := H.rr.cell (i := 5) (v := .slice none 0 0) rfl
  have k5 := H.rr.soft 5
  have o5 := H.ro.cell (i := 5) (v := .slice ya5 yn5 yc5) rfl
  have g6 := H.rr.cell (i := 6) (v := .int .i64 0) rfl
  have k6 := H.rr.soft 6
  have o6 := H.ro.cell (i := 6) (v := .int .i64 c6) rfl
  have g7 := H.rr.cell (i := 7) (v := .string ⟨#[]⟩) rfl
  have k7 := H.rr.soft 7
  have o7 := H.ro.cell (i := 7) (v := .string c7) rfl
  have g8 := H.rr.cell (i := 8) (v := .slice none 0 0) rfl
  have k8 := H.rr.soft 8
  have o8 := H.ro.cell (i := 8) (v := .slice ya8 yn8 yc8) rfl
  have g9 := H.rr.cell (i := 9) (v := .slice none 0 0) rfl
  have k9 := H.rr.soft 9
  have o9 := H.ro.cell (i := 9) (v := .slice ya9 yn9 yc9) rfl
  have g10 := H.rr.cell (i := 10) (v := .slice none 0 0) rfl
  have k10 := H.rr.soft 10
  have o10 := H.ro.cell (i := 10) (v := .slice ya10 yn10 yc10) rfl
  have g11 := H.rr.cell (i := 11) (v := .slice none 0 0) rfl
  have k11 := H.rr.soft 11
  have o11 := H.ro.cell (i := 11) (v := .slice ya11 yn11 yc11) rfl
  go_wp2_with fail
  rw [show ((((((((((((wz.setCell ⟨w.heap.size + 1, 0, none⟩ (.int .i64 c0)).setCell ⟨w.heap.size + 1, 1, none⟩ (.bool c1)).setCell ⟨w.heap.size + 1, 2, none⟩ (.slice ya2 yn2 yc2)).setCell ⟨w.heap.size + 1, 3, none⟩ (.slice ya3 yn3 yc3)).setCell ⟨w.heap.size + 1, 4, none⟩ (.slice ya4 yn4 yc4)).setCell ⟨w.heap.size + 1, 5, none⟩ (.slice ya5 yn5 yc5)).setCell ⟨w.heap.size + 1, 6, none⟩ (.int .i64 c6)).setCell ⟨w.heap.size + 1, 7, none⟩ (.string c7)).setCell ⟨w.heap.size + 1, 8, none⟩ (.slice ya8 yn8 yc8)).setCell ⟨w.heap.size + 1, 9, none⟩ (.slice ya9 yn9 yc9)).setCell ⟨w.heap.size + 1, 10, none⟩ (.slice ya10 yn10 yc10)).setCell ⟨w.heap.size + 1, 11, none⟩ (.slice ya11 yn11 yc11)) = puts (w.heap.size + 1) 0 [.int .i64 c0, .bool c1, .slice ya2 yn2 yc2, .slice ya3 yn3 yc3, .slice ya4 yn4 yc4, .slice ya5 yn5 yc5, .int .i64 c6, .string c7, .slice ya8 yn8 yc8, .slice ya9 yn9 yc9, .slice ya10 yn10 yc10, .slice ya11 yn11 yc11] wz from rfl]
  obtain ⟨hr, hbF, hrd⟩ := H.fin [.int .i64 c0, .bool c1, .slice ya2 yn2 yc2, .slice ya3 yn3 yc3, .slice ya4 yn4 yc4, .slice ya5 yn5 yc5, .int .i64 c6, .string c7, .slice ya8 yn8 yc8, .slice ya9 yn9 yc9, .slice ya10 yn10 yc10, .slice ya11 yn11 yc11] (by simp)
  have f0 := hr 0 (.int .i64 c0) rfl
  have f1 := hr 1 (.bool c1) rfl
  have f2 := hr 2 (.slice ya2 yn2 yc2) rfl
  have f3 := hr 3 (.slice ya3 yn3 yc3) rfl
  have f4 := hr 4 (.slice ya4 yn4 yc4) rfl
  have f5 := hr 5 (.slice ya5 yn5 yc5) rfl
  have f6 := hr 6 (.int .i64 c6) rfl
  have f7 := hr 7 (.string c7) rfl
  have f8 := hr 8 (.slice ya8 yn8 yc8) rfl
  have f9 := hr 9 (.slice ya9 yn9 yc9) rfl
  have f10 := hr 10 (.slice ya10 yn10 yc10) rfl
  have f11 := hr 11 (.slice ya11 yn11 yc11) rfl
  clear hr
  have t2 := hrd s2
  have t3 := hrd s3
  have t4 := hrd s4
  have t5 := hrd s5
  have t8 := hrd s8
  have t9 := hrd s9
  have t10 := hrd s10
  have t11 := hrd s11
  clear hrd
  generalize puts (w.heap.size + 1) 0 [.int .i64 c0, .bool c1, .slice ya2 yn2 yc2, .slice ya3 yn3 yc3, .slice ya4 yn4 yc4, .slice ya5 yn5 yc5, .int .i64 c6, .string c7, .slice ya8 yn8 yc8, .slice ya9 yn9 yc9, .slice ya10 yn10 yc10, .slice ya11 yn11 yc11] wz = wf at hbF f0 f1 f2 f3 f4 f5 f6 f7 f8 f9 f10 f11 t2 t3 t4 t5 t8 t9 t10 t11 ⊢
  refine bodyPost_ret (v := .agg #[.int .i64 c0, .bool c1, .slice ya2 yn2 yc2, .slice ya3 yn3 yc3, .slice ya4 yn4 yc4, .slice ya5 yn5 yc5, .int .i64 c6, .string c7, .slice ya8 yn8 yc8, .slice ya9 yn9 yc9, .slice ya10 yn10 yc10, .slice ya11 yn11 yc11]) (by simp [results, Try.results15, go_sem, f0, f1, f2, f3, f4, f5, f6, f7, f8, f9, f10, f11]) rfl ?_
  exact ⟨.slice ya2 yn2 yc2, .slice ya3 yn3 yc3, .slice ya4 yn4 yc4, .slice ya5 yn5 yc5, .slice ya8 yn8 yc8, .slice ya9 yn9 yc9, .slice ya10 yn10 yc10, .slice ya11 yn11 yc11, rfl, t2, t3, t4, t5, t8, t9, t10, t11, hbF⟩
set_option maxRecDepth 100000 in
set_option maxHeartbeats 4000000 in
theorem szStmt_any (c0 : Int) (c1 : Bool) (c2 : Value) (c3 : Value) (c4 : Value) (c5 : Value) (c6 : Int) (c7 : ByteArray) (c8 : Value) (c9 : Value) (c10 : Value) (c11 : Value) (d2 : Dat) (d3 : Dat) (d4 : Dat) (d5 : Dat) (d8 : Dat) (d9 : Dat) (d10 : Dat) (d11 : Dat) (m : Int) (w : World) (h0 : 0 ≤ m) (h1 : m ≤ 1048576) (h2 : SzP d2 .items) (h3 : SzP d3 .sources) (h4 : SzP d4 .exprs) (h5 : SzP d5 .keys) (h8 : SzPF 49 d8 .rows) (h9 : SzPF 50 d9 .names) (h10 : SzP d10 .exprs) (h11 : SzP d11 .exprs) (r2 : Rd w 0 c2 d2) (q2 : Fits d2 .items) (r3 : Rd w 0 c3 d3) (q3 : Fits d3 .sources) (r4 : Rd w 0 c4 d4) (q4 : Fits d4 .exprs) (r5 : Rd w 0 c5 d5) (q5 : Fits d5 .keys) (r8 : Rd w 0 c8 d8) (q8 : Fits d8 .rows) (r9 : Rd w 0 c9 d9) (q9 : Fits d9 .names) (r10 : Rd w 0 c10 d10) (q10 : Fits d10 .exprs) (r11 : Rd w 0 c11 d11) (q11 : Fits d11 .exprs) (b7 : c7.size ≤ 9223372036854775807) :
    Calls Try.prog 13 #[.agg #[.int .i64 c0, .bool c1, c2, c3, c4, c5, .int .i64 c6, .string c7, c8, c9, c10, c11], .int .i64 m] w (IntE (leftOf m ((msr d2 + msr d3 + msr d4 + msr d5) + c7.size + msr d8 + msr d9 + msr d10 + msr d11)) w) := by
  have hR0 := RowAt.new w 31 #[.int .i64 c0, .bool c1, c2, c3, c4, c5, .int .i64 c6, .string c7, c8, c9, c10, c11]
  have hB0 := (Below.refl w.heap.size w).alloc (Nat.le_refl _) (.cells #[.int .i64 c0, .bool c1, c2, c3, c4, c5, .int .i64 c6, .string c7, c8, c9, c10, c11] 31)
  go_enter Try.func13, Try.ntmps13
  go_wp2_with fail
  generalize w.alloc (.cells #[.int .i64 c0, .bool c1, c2, c3, c4, c5, .int .i64 c6, .string c7, c8, c9, c10, c11] 31) = w0 at hR0 hB0 ⊢
  have y0 := fun (v : World) (hv : Below w.heap.size w v) => szQuery_any c1 c2 c3 c4 c5 c6 d2 d3 d4 d5 (m) v (by omega) (by omega) h2 h3 h4 h5 (r2.later hv) q2 (r3.later hv) q3 (r4.later hv) q4 (r5.later hv) q5 
  by_cases t0 : m - (msr d2 + msr d3 + msr d4 + msr d5 : Int) < 0
  · simp only [leftOf_no t0] at y0
    refine (y0 _ hB0).mono ?_
    rintro e w1 ⟨rfl, hb⟩
    have hB1 := hB0.trans (hb.mono hB0.size)
    go_wp2_with fail
    go_ret
    exact ⟨ret_i64 (leftOf_is1 (by omega)), hB1⟩
  obtain ⟨R1, hR1_⟩ : ∃ z : Int, z = m - (msr d2 + msr d3 + msr d4 + msr d5 : Int) := ⟨_, rfl⟩
  have l0 := (leftOf_yes t0).trans hR1_.symm
  have E1 := Lib.hid hR1_
  have k1 : 0 ≤ R1 := by omega
  have kk1 : R1 ≤ 1048576 := by omega
  clear hR1_ t0
  simp only [l0] at y0
  clear l0
  have j1 : decide (R1 < 0) = false := by simpa using k1
  refine (y0 _ hB0).mono ?_
  rintro e w1 ⟨rfl, hb⟩
  have hB1 := hB0.trans (hb.mono hB0.size)
  have hR1 := hR0.later hb
  clear hb y0
  have a7 := hR1.cell (i := 7) rfl
  have a8 := hR1.cell (i := 8) rfl
  by_cases t1 : R1 - (c7.size : Int) < 0
  · have x1 : decide (R1 - (c7.size : Int) < 0) = true := by simpa using t1
    go_wp2_with fail
    go_ret
    exact ⟨ret_i64 (leftOf_is1 (by have := E1.out; omega)), hB1⟩
  have x1 : decide (R1 - (c7.size : Int) < 0) = false := by simpa using t1
  go_wp2_with fail
  have y2 := fun (v : World) (hv : Below w.heap.size w v) => h8 c8 ((R1 - (c7.size : Int))) v (by have := E1.out; omega) (by have := E1.out; omega) (r8.later hv) q8
  by_cases t2 : (R1 - (c7.size : Int)) - (msr d8 : Int) < 0
  · simp only [leftOf_no t2] at y2
    refine (y2 _ hB1).mono ?_
    rintro e w2 ⟨rfl, hb⟩
    have hB2 := hB1.trans (hb.mono hB1.size)
    go_wp2_with fail
    go_ret
    exact ⟨ret_i64 (leftOf_is1 (by have := E1.out; omega)), hB2⟩
  obtain ⟨R2, hR2_⟩ : ∃ z : Int, z = (R1 - (c7.size : Int)) - (msr d8 : Int) := ⟨_, rfl⟩
  have l2 := (leftOf_yes t2).trans hR2_.symm
  have E2 := Lib.hid hR2_
  have k2 : 0 ≤ R2 := by omega
  have kk2 : R2 ≤ 1048576 := by have := E1.out; omega
  clear hR2_ t2
  simp only [l2] at y2
  clear l2
  have j2 : decide (R2 < 0) = false := by simpa using k2
  refine (y2 _ hB1).mono ?_
  rintro e w2 ⟨rfl, hb⟩
  have hB2 := hB1.trans (hb.mono hB1.size)
  have hR2 := hR1.later hb
  clear hb y2
  have a9 := hR2.cell (i := 9) rfl
  go_wp2_with fail
  have y3 := fun (v : World) (hv : Below w.heap.size w v) => h9 c9 (R2) v (by have := E1.out; have := E2.out; omega) (by have := E1.out; have := E2.out; omega) (r9.later hv) q9
  by_cases t3 : R2 - (msr d9 : Int) < 0
  · simp only [leftOf_no t3] at y3
    refine (y3 _ hB2).mono ?_
    rintro e w3 ⟨rfl, hb⟩
    have hB3 := hB2.trans (hb.mono hB2.size)
    go_wp2_with fail
    go_ret
    exact ⟨ret_i64 (leftOf_is1 (by have := E1.out; have := E2.out; omega)), hB3⟩
  obtain ⟨R3, hR3_⟩ : ∃ z : Int, z = R2 - (msr d9 : Int) := ⟨_, rfl⟩
  have l3 := (leftOf_yes t3).trans hR3_.symm
  have E3 := Lib.hid hR3_
  have k3 : 0 ≤ R3 := by omega
  have kk3 : R3 ≤ 1048576 := by have := E1.out; have := E2.out; omega
  clear hR3_ t3
  simp only [l3] at y3
  clear l3
  have j3 : decide (R3 < 0) = false := by simpa using k3
  refine (y3 _ hB2).mono ?_
  rintro e w3 ⟨rfl, hb⟩
  have hB3 := hB2.trans (hb.mono hB2.size)
  have hR3 := hR2.later hb
  clear hb y3
  have a10 := hR3.cell (i := 10) rfl
  go_wp2_with fail
  have y4 := fun (v : World) (hv : Below w.heap.size w v) => h10 c10 (R3) v (by have := E1.out; have := E2.out; have := E3.out; omega) (by have := E1.out; have := E2.out; have := E3.out; omega) (r10.later hv) q10
  by_cases t4 : R3 - (msr d10 : Int) < 0
  · simp only [leftOf_no t4] at y4
    refine (y4 _ hB3).mono ?_
    rintro e w4 ⟨rfl, hb⟩
    have hB4 := hB3.trans (hb.mono hB3.size)
    go_wp2_with fail
    go_ret
    exact ⟨ret_i64 (leftOf_is1 (by have := E1.out; have := E2.out; have := E3.out; omega)), hB4⟩
  obtain ⟨R4, hR4_⟩ : ∃ z : Int, z = R3 - (msr d10 : Int) := ⟨_, rfl⟩
  have l4 := (leftOf_yes t4).trans hR4_.symm
  have E4 := Lib.hid hR4_
  have k4 : 0 ≤ R4 := by omega
  have kk4 : R4 ≤ 1048576 := by have := E1.out; have := E2.out; have := E3.out; omega
  clear hR4_ t4
  simp only [l4] at y4
  clear l4
  have j4 : decide (R4 < 0) = false := by simpa using k4
  refine (y4 _ hB3).mono ?_
  rintro e w4 ⟨rfl, hb⟩
  have hB4 := hB3.trans (hb.mono hB3.size)
  have hR4 := hR3.later hb
  clear hb y4
  have a11 := hR4.cell (i := 11) rfl
  go_wp2_with fail
  have y5 := fun (v : World) (hv : Below w.heap.size w v) => h11 c11 (R4) v (by have := E1.out; have := E2.out; have := E3.out; have := E4.out; omega) (by have := E1.out; have := E2.out; have := E3.out; have := E4.out; omega) (r11.later hv) q11
  by_cases t5 : R4 - (msr d11 : Int) < 0
  · simp only [leftOf_no t5] at y5
    refine (y5 _ hB4).mono ?_
    rintro e w5 ⟨rfl, hb⟩
    have hB5 := hB4.trans (hb.mono hB4.size)
    go_wp2_with fail
    go_ret
    exact ⟨ret_i64 (leftOf_is1 (by have := E1.out; have := E2.out; have := E3.out; have := E4.out; omega)), hB5⟩
  obtain ⟨R5, hR5_⟩ : ∃ z : Int, z = R4 - (msr d11 : Int) := ⟨_, rfl⟩
  have l5 := (leftOf_yes t5).trans hR5_.symm
  have E5 := Lib.hid hR5_
  have k5 : 0 ≤ R5 := by omega
  have kk5 : R5 ≤ 1048576 := by have := E1.out; have := E2.out; have := E3.out; have := E4.out; omega
  clear hR5_ t5
  simp only [l5] at y5
  clear l5
  have j5 : decide (R5 < 0) = false := by simpa using k5
  refine (y5 _ hB4).mono ?_
  rintro e w5 ⟨rfl, hb⟩
  have hB5 := hB4.trans (hb.mono hB4.size)
  have hR5 := hR4.later hb
  clear hb y5
  go_wp2_with fail
  go_ret
  exact ⟨ret_i64 (leftOf_is (by have := E1.out; have := E2.out; have := E3.out; have := E4.out; have := E5.out; omega) (by have := E1.out; have := E2.out; have := E3.out; have := E4.out; have := E5.out; omega)), hB5⟩
set_option maxRecDepth 100000 in
set_option maxHeartbeats 4000000 in
theorem eqStmt_any (c0 : Int) (c1 : Bool) (c2 : Value) (c3 : Value) (c4 : Value) (c5 : Value) (c6 : Int) (c7 : ByteArray) (c8 : Value) (c9 : Value) (c10 : Value) (c11 : Value) (p2 : Value) (p3 : Value) (p4 : Value) (p5 : Value) (p8 : Value) (p9 : Value) (p10 : Value) (p11 : Value) (d2 : Dat) (d3 : Dat) (d4 : Dat) (d5 : Dat) (d8 : Dat) (d9 : Dat) (d10 : Dat) (d11 : Dat) (w : World) (h2 : EqP d2 .items) (h3 : EqP d3 .sources) (h4 : EqP d4 .exprs) (h5 : EqP d5 .keys) (h8 : EqPF 59 d8 .rows) (h9 : EqPF 46 d9 .names) (h10 : EqP d10 .exprs) (h11 : EqP d11 .exprs) (r2 : Rd w 0 c2 d2) (s2 : Rd w 0 p2 d2) (q2 : Fits d2 .items) (r3 : Rd w 0 c3 d3) (s3 : Rd w 0 p3 d3) (q3 : Fits d3 .sources) (r4 : Rd w 0 c4 d4) (s4 : Rd w 0 p4 d4) (q4 : Fits d4 .exprs) (r5 : Rd w 0 c5 d5) (s5 : Rd w 0 p5 d5) (q5 : Fits d5 .keys) (r8 : Rd w 0 c8 d8) (s8 : Rd w 0 p8 d8) (q8 : Fits d8 .rows) (r9 : Rd w 0 c9 d9) (s9 : Rd w 0 p9 d9) (q9 : Fits d9 .names) (r10 : Rd w 0 c10 d10) (s10 : Rd w 0 p10 d10) (q10 : Fits d10 .exprs) (r11 : Rd w 0 c11 d11) (s11 : Rd w 0 p11 d11) (q11 : Fits d11 .exprs) :
    Calls Try.prog 17 #[.agg #[.int .i64 c0, .bool c1, c2, c3, c4, c5, .int .i64 c6, .string c7, c8, c9, c10, c11], .agg #[.int .i64 c0, .bool c1, p2, p3, p4, p5, .int .i64 c6, .string c7, p8, p9, p10, p11]] w (BoolE true w) := by
  have hA := (RowAt.new w 42 #[.int .i64 c0, .bool c1, c2, c3, c4, c5, .int .i64 c6, .string c7, c8, c9, c10, c11]).alloc (.cells #[.int .i64 c0, .bool c1, p2, p3, p4, p5, .int .i64 c6, .string c7, p8, p9, p10, p11] 42)
  have hC := RowAt.new1 w (.cells #[.int .i64 c0, .bool c1, c2, c3, c4, c5, .int .i64 c6, .string c7, c8, c9, c10, c11] 42) 42 #[.int .i64 c0, .bool c1, p2, p3, p4, p5, .int .i64 c6, .string c7, p8, p9, p10, p11]
  have hB := ((Below.refl w.heap.size w).alloc (Nat.le_refl _) (.cells #[.int .i64 c0, .bool c1, c2, c3, c4, c5, .int .i64 c6, .string c7, c8, c9, c10, c11] 42)).alloc (by simp) (.cells #[.int .i64 c0, .bool c1, p2, p3, p4, p5, .int .i64 c6, .string c7, p8, p9, p10, p11] 42)
  go_enter Try.func17, Try.ntmps17
  go_wp2_with fail
  generalize (w.alloc (.cells #[.int .i64 c0, .bool c1, c2, c3, c4, c5, .int .i64 c6, .string c7, c8, c9, c10, c11] 42)).alloc (.cells #[.int .i64 c0, .bool c1, p2, p3, p4, p5, .int .i64 c6, .string c7, p8, p9, p10, p11] 42) = w0 at hA hC hB ⊢
  refine (eqQuery_any _ _ _ _ _ _ _ _ _ _ _ _ _ _ _ h2 h3 h4 h5 (r2.later hB) (s2.later hB) q2 (r3.later hB) (s3.later hB) q3 (r4.later hB) (s4.later hB) q4 (r5.later hB) (s5.later hB) q5).mono ?_
  rintro e w1 ⟨rfl, hb⟩
  replace hA := hA.later hb
  replace hC := hC.later hb
  replace hB := hB.trans (hb.mono hB.size)
  clear hb
  have a7 := hA.cell (i := 7) (v := .string c7) rfl
  have b7 := hC.cell (i := 7) (v := .string c7) rfl
  have a8 := hA.cell (i := 8) (v := c8) rfl
  have b8 := hC.cell (i := 8) (v := p8) rfl
  go_wp2_with fail
  clear a7 b7 a8 b8
  refine (h8 _ _ _ (r8.later hB) (s8.later hB) q8).mono ?_
  rintro e w2 ⟨rfl, hb⟩
  replace hA := hA.later hb
  replace hC := hC.later hb
  replace hB := hB.trans (hb.mono hB.size)
  clear hb
  have a9 := hA.cell (i := 9) (v := c9) rfl
  have b9 := hC.cell (i := 9) (v := p9) rfl
  go_wp2_with fail
  clear a9 b9
  refine (h9 _ _ _ (r9.later hB) (s9.later hB) q9).mono ?_
  rintro e w3 ⟨rfl, hb⟩
  replace hA := hA.later hb
  replace hC := hC.later hb
  replace hB := hB.trans (hb.mono hB.size)
  clear hb
  have a10 := hA.cell (i := 10) (v := c10) rfl
  have b10 := hC.cell (i := 10) (v := p10) rfl
  go_wp2_with fail
  clear a10 b10
  refine (h10 _ _ _ (r10.later hB) (s10.later hB) q10).mono ?_
  rintro e w4 ⟨rfl, hb⟩
  replace hA := hA.later hb
  replace hC := hC.later hb
  replace hB := hB.trans (hb.mono hB.size)
  clear hb
  have a11 := hA.cell (i := 11) (v := c11) rfl
  have b11 := hC.cell (i := 11) (v := p11) rfl
  go_wp2_with fail
  clear a11 b11
  refine (h11 _ _ _ (r11.later hB) (s11.later hB) q11).mono ?_
  rintro e w5 ⟨rfl, hb⟩
  replace hA := hA.later hb
  replace hC := hC.later hb
  replace hB := hB.trans (hb.mono hB.size)
  clear hb
  go_wp2_with fail
  go_ret
  exact ⟨rfl, hB⟩
theorem toRows_all : ∀ d : Dat, ToPF 54 d .rows
  | .v x => fun y w _ hf => hf.elim
  | .sl n k f => toExprSS_any fun i _ => toAll (f i 0) _ rfl
theorem szRows_all : ∀ d : Dat, SzPF 49 d .rows
  | .v x => fun y m w _ _ _ hf => hf.elim
  | .sl n k f => szExprSS_any fun i _ => szAll (f i 0) _ rfl
theorem eqRows_all : ∀ d : Dat, EqPF 59 d .rows
  | .v x => fun y z w _ _ hf => hf.elim
  | .sl n k f => eqExprSS_any fun i _ => eqAll (f i 0) _ rfl
theorem toNames_all : ∀ d : Dat, ToPF 55 d .names
  | .v x => fun y w _ hf => hf.elim
  | .sl n k f => toStringS_any
theorem szNames_all : ∀ d : Dat, SzPF 50 d .names
  | .v x => fun y m w _ _ _ hf => hf.elim
  | .sl n k f => szStringS_any
theorem eqNames_all : ∀ d : Dat, EqPF 46 d .names
  | .v x => fun y z w _ _ hf => hf.elim
  | .sl n k f => eqStringS_any
end Go.Proofs.Ytfmgkinindkedaa
