/- Joined texts: RowsS StmtT ExStOk PreMath RangeV. -/
import Derived.Test.YtcliijfdlcagoaaGreatQHToS
import Derived.Test.YtcliijfdlcagoaaGreatQHSzS
import Derived.Test.YtcliijfdlcagoaaGreatQHEqS
import Derived.Test.YtcliijfdlcagoaaGreatQZAB
import Derived.Test.YtcliijfdlcagoaaGreatQHExLaw
import Derived.Test.YtcliijfdlcagoaaGreatQZAF
import Derived.Deep.Cut
import Derived.Deep.RegionWith
import Derived.RangeFuncIn
import Derived.RangeFuncRecord
import Derived.RangeFuncSeq
import Derived.RangeFuncCalls
import Derived.RangeFuncLeaves
import Derived.RangeFuncKeeps
import Derived.Below
namespace Go.Proofs.YtcliijfdlcagoaaGreat
set_option linter.unusedVariables false
set_option linter.unusedSimpArgs false
open Go.RowKit
theorem row_rows {w : World} {L n k m : Nat} {f : Nat → Nat → Dat} {a : Option Addr} {cap : Nat} (h : Rd w L (.slice a m cap) (.sl n k f)) (hf : Fits (.sl n k f) .rows) {i : Nat} (hi : i < n) :
    ∃ (g o : Nat), a = some ⟨g, o, none⟩ ∧ L ≤ g ∧ g < w.heap.size ∧ ∃ (c0 : Value), w.cell? ⟨g, o + i, none⟩ = some c0 ∧ Rd w L c0 (f i 0) ∧ Fits (f i 0) .exprs := by
  obtain ⟨_, _, hk, hfit⟩ := hf
  obtain rfl : k = 1 := hk
  obtain ⟨_, g, o, ea, hL, hg, hc⟩ := h.elem hi
  obtain ⟨y0, z0, r0⟩ := hc 0 (by decide)
  rw [Nat.mul_one, Nat.add_zero] at z0
  exact ⟨g, o, ea, hL, hg, y0, z0, r0, hfit i hi 0 (by decide)⟩
theorem row_names {w : World} {L n k m : Nat} {f : Nat → Nat → Dat} {a : Option Addr} {cap : Nat} (h : Rd w L (.slice a m cap) (.sl n k f)) (hf : Fits (.sl n k f) .names) {i : Nat} (hi : i < n) :
    ∃ (g o : Nat), a = some ⟨g, o, none⟩ ∧ L ≤ g ∧ g < w.heap.size ∧ ∃ (c0 : ByteArray), w.cell? ⟨g, o + i, none⟩ = some (.string c0) ∧ f i 0 = .v (.string c0) ∧ c0.size ≤ 9223372036854775807 := by
  obtain ⟨_, _, hk, hfit⟩ := hf
  obtain rfl : k = 1 := hk
  obtain ⟨_, g, o, ea, hL, hg, hc⟩ := h.elem hi
  obtain ⟨y0, z0, r0⟩ := hc 0 (by decide)
  rw [Nat.mul_one, Nat.add_zero] at z0
  have f0 : Fits (f i 0) .str := hfit i hi 0 (by decide)
  obtain ⟨c0, e0, b0⟩ := f0.str
  rw [e0] at r0
  obtain rfl : y0 = .string c0 := r0
  exact ⟨g, o, ea, hL, hg, c0, z0, e0, b0⟩
def ToPF (F : Nat) (d : Dat) (ty : Ty) : Prop := ∀ (x : Value) (w : World), Rd w 0 x d → Fits d ty → msr d ≤ 1048576 → Calls Tryz.prog F #[x] w (ToE d w)
def SzPF (F : Nat) (d : Dat) (ty : Ty) : Prop := ∀ (x : Value) (m : Int) (w : World), 0 ≤ m → m ≤ 1048576 → Rd w 0 x d → Fits d ty → Calls Tryz.prog F #[x, .int .i64 m] w (IntE (leftOf m (msr d)) w)
def EqPF (F : Nat) (d : Dat) (ty : Ty) : Prop := ∀ (x y : Value) (w : World), Rd w 0 x d → Rd w 0 y d → Fits d ty → Calls Tryz.prog F #[x, y] w (BoolE true w)
theorem Tryz.infoSl : (Tryz.prog.info? 36).map (fun i => (i.zero, i.size, i.bytes)) = some (some (.slice none 0 0), 1, 24) := by kernel_rfl
theorem Tryz.infoStr : (Tryz.prog.info? 9).map (fun i => (i.zero, i.size, i.bytes)) = some (some (.string ByteArray.empty), 1, 16) := by kernel_rfl
theorem make_ExprSS (w : World) (n : Nat) (hn : n ≤ 1048576) : (Instr.makeSlice 40 (.int .i64 (n : Int)) (.int .i64 (n : Int))).run Tryz.prog w = .ok (.slice (some ⟨w.heap.size, 0, none⟩) n n) (w.alloc (.cells (madeCells #[.slice none 0 0] (n * 1)) 36)) := by
  obtain ⟨i, hi, hz, hsize, hby⟩ := info_parts Tryz.infoSl
  have h := run_make (P := Tryz.prog) w 40 36 i _ Tryz.underlying40 hi hz .i64 .i64 (n : Int) (n : Int) (by omega) (by omega) (by rw [hby]; omega) (by omega)
  rw [hsize, Int.toNat_natCast] at h
  exact h
theorem make_StrS (w : World) (n : Nat) (hn : n ≤ 1048576) : (Instr.makeSlice 29 (.int .i64 (n : Int)) (.int .i64 (n : Int))).run Tryz.prog w = .ok (.slice (some ⟨w.heap.size, 0, none⟩) n n) (w.alloc (.cells (madeCells #[.string ⟨#[]⟩] (n * 1)) 9)) := by
  obtain ⟨i, hi, hz, hsize, hby⟩ := info_parts Tryz.infoStr
  have h := run_make (P := Tryz.prog) w 29 9 i _ Tryz.underlying29 hi hz .i64 .i64 (n : Int) (n : Int) (by omega) (by omega) (by rw [hby]; omega) (by omega)
  rw [hsize, Int.toNat_natCast] at h
  exact h
set_option maxRecDepth 100000 in
set_option maxHeartbeats 4000000 in
theorem toExprSS_any {n k : Nat} {f : Nat → Nat → Dat} (IH : ∀ i, i < n → ToP (f i 0) .exprs) : ToPF 17 (.sl n k f) .rows := by
  intro x w hr hf hm
  obtain ⟨a, cap, rfl⟩ := hr.slice
  obtain rfl : k = 1 := hf.2.2.1
  have hn : n ≤ 1048576 := Nat.le_trans (msr_n n 1 f) hm
  have hms := fun i j hi hj => Nat.le_trans (msr_el (n := n) (k := 1) (f := f) (i := i) (j := j) hi hj) hm
  have hmk := make_ExprSS w n hn
  have hF0 := Fill.new w 36 n 1 f (madeCells #[.slice none 0 0] (n * 1)) (by simp [madeCells])
  have hB0 := (Below.refl w.heap.size w).alloc (Nat.le_refl _) (.cells (madeCells #[.slice none 0 0] (n * 1)) 36)
  simp only [Nat.mul_one] at hmk hF0 hB0
  go_enter Tryz.func17, Tryz.ntmps17
  go_wp2_with fail
  clear hmk
  generalize w.alloc (.cells (madeCells #[.slice none 0 0] n) 36) = w0 at hF0 hB0 ⊢
  go_loopw [4] (fun i wr => ∃ j : Nat, j ≤ n ∧ i = .int .i64 (j : Int) ∧ Fill wr w.heap.size 36 n 1 f j ∧ Below w.heap.size w wr) (fun i _ => n - (intOf i).toNat)
  case atStart => exact ⟨0, by omega, rfl, hF0, hB0⟩
  case round =>
    obtain ⟨j, hj, rfl, hF, hB⟩ := hrel
    by_cases hlt : j < n
    · have hlt2 : (j : Int) < (n : Int) := by omega
      have hr2 := hr.later hB
      obtain ⟨g, o, rfl, -, hg, c0, z0, r0, q0⟩ := row_rows hr2 hf hlt
      have m0 := hms j 0 hlt (by decide)
      obtain ⟨xa, xn, xp, rfl⟩ := r0.slice_of q0 rfl
      have hT : ∀ v, Rd v 0 (.slice xa xn xp) (f j 0) → Calls Tryz.prog 19 #[.slice xa xn xp] v (ToE (f j 0) v) := fun v h => IH j hlt _ v h q0 m0
      clear hms
      go_wp2_with fail
      refine (hT _ r0).mono ?_
      rintro e w1 ⟨y0, rfl, s0, hb⟩
      obtain ⟨ya0, yn0, yc0, rfl⟩ := s0.slice_of q0 rfl
      have hF1 := hF.later hb
      have hB1 := hB.trans (hb.mono hB.size)
      have hsz : w.heap.size + 1 ≤ wr.heap.size := by obtain ⟨cs, h1, _⟩ := hF; exact h1.lt
      replace s0 := s0.low hsz
      clear hF hb hB hsz hr2 z0 r0 hT
      obtain ⟨u0, p0, v0⟩ := hF1.at (m := 0) hlt (by decide)
      rw [Nat.mul_one, Nat.add_zero] at p0 v0
      have hF2 := hF1.step hlt [.slice ya0 yn0 yc0] rfl (fun m hm => match m, hm with
        | 0, _ => ⟨.slice ya0 yn0 yc0, rfl, s0⟩
        | m + 1, hm => absurd hm (by simp))
      have hB2 := puts_below (B := w.heap.size) (Nat.le_refl _) [.slice ya0 yn0 yc0] (j * 1) hB1
      rw [Nat.mul_one] at hF2 hB2
      clear hF1 hB1
      go_wp2_with fail
      rw [show w1.setCell ⟨w.heap.size, j, none⟩ (.slice ya0 yn0 yc0) = puts w.heap.size j [.slice ya0 yn0 yc0] w1 from rfl]
      generalize puts w.heap.size j [.slice ya0 yn0 yc0] w1 = w2 at hF2 hB2 ⊢
      go_roundw
      case rel => exact ⟨j + 1, by omega, by go_num, hF2, hB2⟩
      case measure => simp [intOf]; omega
    · obtain rfl : j = n := by omega
      go_wp2_with fail
      go_ret
      exact ⟨_, rfl, hF.rd, hB⟩
set_option maxRecDepth 100000 in
set_option maxHeartbeats 4000000 in
theorem toStringS_any {n k : Nat} {f : Nat → Nat → Dat} : ToPF 18 (.sl n k f) .names := by
  intro x w hr hf hm
  obtain ⟨a, cap, rfl⟩ := hr.slice
  obtain rfl : k = 1 := hf.2.2.1
  have hn : n ≤ 1048576 := Nat.le_trans (msr_n n 1 f) hm
  have hms := fun i j hi hj => Nat.le_trans (msr_el (n := n) (k := 1) (f := f) (i := i) (j := j) hi hj) hm
  have hmk := make_StrS w n hn
  have hF0 := Fill.new w 9 n 1 f (madeCells #[.string ⟨#[]⟩] (n * 1)) (by simp [madeCells])
  have hB0 := (Below.refl w.heap.size w).alloc (Nat.le_refl _) (.cells (madeCells #[.string ⟨#[]⟩] (n * 1)) 9)
  simp only [Nat.mul_one] at hmk hF0 hB0
  go_enter Tryz.func18, Tryz.ntmps18
  go_wp2_with fail
  clear hmk
  generalize w.alloc (.cells (madeCells #[.string ⟨#[]⟩] n) 9) = w0 at hF0 hB0 ⊢
  go_loopw [4] (fun i wr => ∃ j : Nat, j ≤ n ∧ i = .int .i64 (j : Int) ∧ Fill wr w.heap.size 9 n 1 f j ∧ Below w.heap.size w wr) (fun i _ => n - (intOf i).toNat)
  case atStart => exact ⟨0, by omega, rfl, hF0, hB0⟩
  case round =>
    obtain ⟨j, hj, rfl, hF, hB⟩ := hrel
    by_cases hlt : j < n
    · have hlt2 : (j : Int) < (n : Int) := by omega
      have hr2 := hr.later hB
      obtain ⟨g, o, rfl, -, hg, c0, z0, e0, b0⟩ := row_names hr2 hf hlt
      clear hms
      have hF1 := hF
      have hB1 := hB
      clear hF hB hr2
      obtain ⟨u0, p0, v0⟩ := hF1.at (m := 0) hlt (by decide)
      rw [Nat.mul_one, Nat.add_zero] at p0 v0
      have hF2 := hF1.step hlt [.string c0] rfl (fun m hm => match m, hm with
        | 0, _ => ⟨.string c0, rfl, by rw [e0]; rfl⟩
        | m + 1, hm => absurd hm (by simp))
      have hB2 := puts_below (B := w.heap.size) (Nat.le_refl _) [.string c0] (j * 1) hB1
      rw [Nat.mul_one] at hF2 hB2
      clear hF1 hB1
      go_wp2_with fail
      rw [show wr.setCell ⟨w.heap.size, j, none⟩ (.string c0) = puts w.heap.size j [.string c0] wr from rfl]
      generalize puts w.heap.size j [.string c0] wr = w2 at hF2 hB2 ⊢
      go_roundw
      case rel => exact ⟨j + 1, by omega, by go_num, hF2, hB2⟩
      case measure => simp [intOf]; omega
    · obtain rfl : j = n := by omega
      go_wp2_with fail
      go_ret
      exact ⟨_, rfl, hF.rd, hB⟩
set_option maxRecDepth 100000 in
set_option maxHeartbeats 4000000 in
theorem szExprSS_any {n k : Nat} {f : Nat → Nat → Dat} (IH : ∀ i, i < n → SzP (f i 0) .exprs) : SzPF 10 (.sl n k f) .rows := by
  intro x m w h0 h1 hr hf
  obtain ⟨a, cap, rfl⟩ := hr.slice
  obtain rfl : k = 1 := hf.2.2.1
  have hn : n ≤ 9223372036854775807 := hf.2.1
  have hM : msr (.sl n 1 f) = n + partm f 1 n := msr_is n 1 f
  generalize hMM : msr (.sl n 1 f) = M at hM ⊢
  clear hMM
  have HM := Lib.hid hM
  clear hM
  by_cases hbig : m - (n : Int) < 0
  · have d : decide (m - (n : Int) < 0) = true := by simpa using hbig
    go_enter Tryz.func10, Tryz.ntmps10
    go_wp2_with fail
    go_ret
    exact ⟨ret_i64 (leftOf_is1 (by have := HM.out; omega)), Below.refl _ _⟩
  have d : decide (m - (n : Int) < 0) = false := by simpa using hbig
  go_enter Tryz.func10, Tryz.ntmps10
  go_wp2_with fail
  go_loopw [1, 5] (fun b i wr => ∃ (j : Nat) (r : Int), j ≤ n ∧ i = .int .i64 (j : Int) ∧ b = .int .i64 r ∧ 0 ≤ r ∧ r ≤ 1048576 ∧ Hid (r = m - (n : Int) - (partm f 1 j : Int)) ∧ Below w.heap.size w wr) (fun _ i _ => n - (intOf i).toNat)
  case atStart => exact ⟨0, m - n, by omega, rfl, by go_num, by omega, by omega, by show _ = m - (n : Int) - ((0 : Nat) : Int); omega, Below.refl _ _⟩
  case round =>
    obtain ⟨j, r, hj, rfl, rfl, hr0, hr1, hR, hB⟩ := hrel
    by_cases hlt : j < n
    · have hlt2 : (j : Int) < (n : Int) := by omega
      have hr2 := hr.later hB
      obtain ⟨g, o, rfl, -, hg, c0, z0, r0, q0⟩ := row_rows hr2 hf hlt
      have hrow : rowm f 1 j = msr (f j 0) := by
        simp only [rowm, List.range_succ, List.range_zero, List.nil_append, List.map_cons, List.map_nil, List.sum_cons, List.sum_nil]
        omega
      have hsucc := partm_succ f 1 j
      have hle := partm_le f 1 (show j + 1 ≤ n by omega)
      obtain ⟨xa, xn, xp, rfl⟩ := r0.slice_of q0 rfl
      have hS : ∀ v, Below wr.heap.size wr v → Calls Tryz.prog 12 #[.slice xa xn xp, .int .i64 r] v (IntE (leftOf r (msr (f j 0))) v) := fun v h => IH j hlt _ r v hr0 hr1 (r0.later h) q0
      rw [← hrow] at hS
      generalize rowm f 1 j = q at hS hsucc
      clear hrow
      by_cases hz : r - (q : Int) < 0
      · simp only [leftOf_no hz] at hS
        have HS := Lib.hid hsucc
        have HZ := Lib.hid hz
        clear hsucc hz
        go_wp2_with fail
        refine (hS _ (Below.refl _ _)).mono ?_
        rintro e w1 ⟨rfl, hb⟩
        have hbb := hB.trans (hb.mono hB.size)
        clear hS
        go_wp2_with fail
        go_ret
        exact ⟨ret_i64 (leftOf_is1 (by have := HM.out; have := HS.out; have := HZ.out; have := hR.out; omega)), hbb⟩
      · obtain ⟨r2, hr2_⟩ : ∃ z : Int, z = r - (q : Int) := ⟨_, rfl⟩
        have l := (leftOf_yes hz).trans hr2_.symm
        simp only [l] at hS
        have k0 : 0 ≤ r2 := by omega
        have k1 : r2 ≤ 1048576 := by omega
        have E2 : Hid (r2 = m - (n : Int) - (partm f 1 (j + 1) : Int)) := by have := hR.out; show _ = _; omega
        have d2 : decide (r2 < 0) = false := by simpa using k0
        clear hsucc hz hr2_ l hle
        go_wp2_with fail
        refine (hS _ (Below.refl _ _)).mono ?_
        rintro e w1 ⟨rfl, hb⟩
        have hbb := hB.trans (hb.mono hB.size)
        clear hS
        go_wp2_with fail
        go_roundw
        case rel => exact ⟨j + 1, r2, by omega, by go_num, rfl, k0, k1, E2, hbb⟩
        case measure => simp [intOf]; omega
    · obtain rfl : j = n := by omega
      go_wp2_with fail
      go_ret
      exact ⟨ret_i64 (leftOf_is (by have := HM.out; have := hR.out; omega) hr0), hB⟩
set_option maxRecDepth 100000 in
set_option maxHeartbeats 4000000 in
theorem szStringS_any {n k : Nat} {f : Nat → Nat → Dat} : SzPF 11 (.sl n k f) .names := by
  intro x m w h0 h1 hr hf
  obtain ⟨a, cap, rfl⟩ := hr.slice
  obtain rfl : k = 1 := hf.2.2.1
  have hn : n ≤ 9223372036854775807 := hf.2.1
  have hM : msr (.sl n 1 f) = n + partm f 1 n := msr_is n 1 f
  generalize hMM : msr (.sl n 1 f) = M at hM ⊢
  clear hMM
  have HM := Lib.hid hM
  clear hM
  by_cases hbig : m - (n : Int) < 0
  · have d : decide (m - (n : Int) < 0) = true := by simpa using hbig
    go_enter Tryz.func11, Tryz.ntmps11
    go_wp2_with fail
    go_ret
    exact ⟨ret_i64 (leftOf_is1 (by have := HM.out; omega)), Below.refl _ _⟩
  have d : decide (m - (n : Int) < 0) = false := by simpa using hbig
  go_enter Tryz.func11, Tryz.ntmps11
  go_wp2_with fail
  go_loopw [1, 5] (fun b i wr => ∃ (j : Nat) (r : Int), j ≤ n ∧ i = .int .i64 (j : Int) ∧ b = .int .i64 r ∧ 0 ≤ r ∧ r ≤ 1048576 ∧ Hid (r = m - (n : Int) - (partm f 1 j : Int)) ∧ Below w.heap.size w wr) (fun _ i _ => n - (intOf i).toNat)
  case atStart => exact ⟨0, m - n, by omega, rfl, by go_num, by omega, by omega, by show _ = m - (n : Int) - ((0 : Nat) : Int); omega, Below.refl _ _⟩
  case round =>
    obtain ⟨j, r, hj, rfl, rfl, hr0, hr1, hR, hB⟩ := hrel
    by_cases hlt : j < n
    · have hlt2 : (j : Int) < (n : Int) := by omega
      have hr2 := hr.later hB
      obtain ⟨g, o, rfl, -, hg, c0, z0, e0, b0⟩ := row_names hr2 hf hlt
      have hrow : rowm f 1 j = c0.size := by
        simp only [rowm, List.range_succ, List.range_zero, List.nil_append, List.map_cons, List.map_nil, List.sum_cons, List.sum_nil, e0, msr_str]
        omega
      have hsucc := partm_succ f 1 j
      have hle := partm_le f 1 (show j + 1 ≤ n by omega)
      rw [hrow] at hsucc
      clear hrow e0
      by_cases hz : r - (c0.size : Int) < 0
      · have dz : decide (r - (c0.size : Int) < 0) = true := by simpa using hz
        have HS := Lib.hid hsucc
        have HZ := Lib.hid hz
        clear hsucc hz
        go_wp2_with fail
        go_ret
        exact ⟨ret_i64 (leftOf_is1 (by have := HM.out; have := HS.out; have := HZ.out; have := hR.out; omega)), hB⟩
      · have dz : decide (r - (c0.size : Int) < 0) = false := by simpa using hz
        have k0 : 0 ≤ r - (c0.size : Int) := by omega
        have k1 : r - (c0.size : Int) ≤ 1048576 := by omega
        have E2 : Hid (r - (c0.size : Int) = m - (n : Int) - (partm f 1 (j + 1) : Int)) := by have := hR.out; show _ = _; omega
        clear hsucc hz hle
        go_wp2_with fail
        go_roundw
        case rel => exact ⟨j + 1, r - (c0.size : Int), by omega, by go_num, by go_num, k0, k1, E2, hB⟩
        case measure => simp [intOf]; omega
    · obtain rfl : j = n := by omega
      go_wp2_with fail
      go_ret
      exact ⟨ret_i64 (leftOf_is (by have := HM.out; have := hR.out; omega) hr0), hB⟩
set_option maxRecDepth 100000 in
set_option maxHeartbeats 4000000 in
theorem eqExprSS_any {n k : Nat} {f : Nat → Nat → Dat} (IH : ∀ i, i < n → EqP (f i 0) .exprs) : EqPF 26 (.sl n k f) .rows := by
  intro x y w hr hs hf
  obtain ⟨a, cap, rfl⟩ := hr.slice
  obtain ⟨a2, cap2, rfl⟩ := hs.slice
  obtain rfl : k = 1 := hf.2.2.1
  have hn : n ≤ 9223372036854775807 := hf.2.1
  go_enter Tryz.func26, Tryz.ntmps26
  go_wp2_with fail
  go_loopw [5] (fun i wr => ∃ j : Nat, j ≤ n ∧ i = .int .i64 (j : Int) ∧ Below w.heap.size w wr) (fun i _ => n - (intOf i).toNat)
  case atStart => exact ⟨0, by omega, rfl, Below.refl _ _⟩
  case round =>
    obtain ⟨j, hj, rfl, hB⟩ := hrel
    by_cases hlt : j < n
    · have hlt2 : (j : Int) < (n : Int) := by omega
      have hr2 := hr.later hB
      have hs2 := hs.later hB
      obtain ⟨g, o, rfl, -, hg, c0, z0, r0, q0⟩ := row_rows hr2 hf hlt
      obtain ⟨g2, o2, rfl, -, hg2, x0, k0, s0, -⟩ := row_rows hs2 hf hlt
      obtain ⟨xa, xn, xp, rfl⟩ := r0.slice_of q0 rfl
      obtain ⟨ya, yn, yp, rfl⟩ := s0.slice_of q0 rfl
      have hE : ∀ v, Below wr.heap.size wr v → Calls Tryz.prog 28 #[.slice xa xn xp, .slice ya yn yp] v (BoolE true v) := fun v h => IH j hlt _ _ v (r0.later h) (s0.later h) q0
      clear hr2 hs2
      go_wp2_with fail
      replace z0 := lat_cell z0
      replace k0 := lat_cell k0
      refine region_lat (by kernel_rfl) (by kernel_rfl) ?_
      iterate 10 (go_big_quiet_step ((refine (hE _ (lat_below wr _)).mono ?_; rintro e w'' ⟨rfl, hb''⟩; exact ⟨rfl, lat_to hb''⟩)))
      refine wpQuiet_nil ?_
      rintro _ ⟨nq, rfl⟩
      have hbq := hB.trans ((lat_below wr nq).mono hB.size)
      clear hE z0 k0
      generalize lat wr nq = wq at hbq ⊢
      go_wp2_with fail
      go_roundw
      case rel => exact ⟨j + 1, by omega, by go_num, hbq⟩
      case measure => simp [intOf]; omega
    · obtain rfl : j = n := by omega
      go_wp2_with fail
      go_ret
      exact ⟨rfl, hB⟩
set_option maxRecDepth 100000 in
set_option maxHeartbeats 4000000 in
theorem eqStringS_any {n k : Nat} {f : Nat → Nat → Dat} : EqPF 27 (.sl n k f) .names := by
  intro x y w hr hs hf
  obtain ⟨a, cap, rfl⟩ := hr.slice
  obtain ⟨a2, cap2, rfl⟩ := hs.slice
  obtain rfl : k = 1 := hf.2.2.1
  have hn : n ≤ 9223372036854775807 := hf.2.1
  go_enter Tryz.func27, Tryz.ntmps27
  go_wp2_with fail
  go_loopw [5] (fun i wr => ∃ j : Nat, j ≤ n ∧ i = .int .i64 (j : Int) ∧ Below w.heap.size w wr) (fun i _ => n - (intOf i).toNat)
  case atStart => exact ⟨0, by omega, rfl, Below.refl _ _⟩
  case round =>
    obtain ⟨j, hj, rfl, hB⟩ := hrel
    by_cases hlt : j < n
    · have hlt2 : (j : Int) < (n : Int) := by omega
      have hr2 := hr.later hB
      have hs2 := hs.later hB
      obtain ⟨g, o, rfl, -, hg, c0, z0, e0, b0⟩ := row_names hr2 hf hlt
      obtain ⟨g2, o2, rfl, -, hg2, x0, k0, l0, -⟩ := row_names hs2 hf hlt
      obtain rfl : c0 = x0 := by rw [e0] at l0; injection l0 with l; injection l
      clear e0 l0
      clear hr2 hs2
      go_wp2_with fail
      replace z0 := lat_cell z0
      replace k0 := lat_cell k0
      refine region_lat (by kernel_rfl) (by kernel_rfl) ?_
      iterate 9 (go_big_quiet_step (fail))
      refine wpQuiet_nil ?_
      rintro _ ⟨nq, rfl⟩
      have hbq := hB.trans ((lat_below wr nq).mono hB.size)
      clear z0 k0
      generalize lat wr nq = wq at hbq ⊢
      go_wp2_with fail
      go_roundw
      case rel => exact ⟨j + 1, by omega, by go_num, hbq⟩
      case measure => simp [intOf]; omega
    · obtain rfl : j = n := by omega
      go_wp2_with fail
      go_ret
      exact ⟨rfl, hB⟩
def ToStmtE (c0 : Int) (c1 : Bool) (c6 : Int) (c7 : ByteArray) (d2 : Dat) (d3 : Dat) (d4 : Dat) (d5 : Dat) (d8 : Dat) (d9 : Dat) (d10 : Dat) (d11 : Dat) (w : World) (e : Ending) (w' : World) : Prop :=
  ∃ y2 y3 y4 y5 y8 y9 y10 y11 : Value, e = .returned (.agg #[.int .i64 c0, .bool c1, y2, y3, y4, y5, .int .i64 c6, .string c7, y8, y9, y10, y11]) ∧ Rd w' w.heap.size y2 d2 ∧ Rd w' w.heap.size y3 d3 ∧ Rd w' w.heap.size y4 d4 ∧ Rd w' w.heap.size y5 d5 ∧ Rd w' w.heap.size y8 d8 ∧ Rd w' w.heap.size y9 d9 ∧ Rd w' w.heap.size y10 d10 ∧ Rd w' w.heap.size y11 d11 ∧ Below w.heap.size w w'
set_option maxRecDepth 100000 in
set_option maxHeartbeats 4000000 in
theorem toStmt_any (c0 : Int) (c1 : Bool) (c2 : Value) (c3 : Value) (c4 : Value) (c5 : Value) (c6 : Int) (c7 : ByteArray) (c8 : Value) (c9 : Value) (c10 : Value) (c11 : Value) (d2 : Dat) (d3 : Dat) (d4 : Dat) (d5 : Dat) (d8 : Dat) (d9 : Dat) (d10 : Dat) (d11 : Dat) (w : World) (h2 : ToP d2 .items) (h3 : ToP d3 .sources) (h4 : ToP d4 .exprs) (h5 : ToP d5 .keys) (h8 : ToPF 17 d8 .rows) (h9 : ToPF 18 d9 .names) (h10 : ToP d10 .exprs) (h11 : ToP d11 .exprs) (r2 : Rd w 0 c2 d2) (q2 : Fits d2 .items) (m2 : msr d2 ≤ 1048576) (r3 : Rd w 0 c3 d3) (q3 : Fits d3 .sources) (m3 : msr d3 ≤ 1048576) (r4 : Rd w 0 c4 d4) (q4 : Fits d4 .exprs) (m4 : msr d4 ≤ 1048576) (r5 : Rd w 0 c5 d5) (q5 : Fits d5 .keys) (m5 : msr d5 ≤ 1048576) (r8 : Rd w 0 c8 d8) (q8 : Fits d8 .rows) (m8 : msr d8 ≤ 1048576) (r9 : Rd w 0 c9 d9) (q9 : Fits d9 .names) (m9 : msr d9 ≤ 1048576) (r10 : Rd w 0 c10 d10) (q10 : Fits d10 .exprs) (m10 : msr d10 ≤ 1048576) (r11 : Rd w 0 c11 d11) (q11 : Fits d11 .exprs) (m11 : msr d11 ≤ 1048576) :
    Calls Tryz.prog 6 #[.agg #[.int .i64 c0, .bool c1, c2, c3, c4, c5, .int .i64 c6, .string c7, c8, c9, c10, c11]] w (ToStmtE c0 c1 c6 c7 d2 d3 d4 d5 d8 d9 d10 d11 w) := by
  simp only [ToP, ToPF] at h2
  simp only [ToP, ToPF] at h3
  simp only [ToP, ToPF] at h4
  simp only [ToP, ToPF] at h5
  simp only [ToP, ToPF] at h8
  simp only [ToP, ToPF] at h9
  simp only [ToP, ToPF] at h10
  simp only [ToP, ToPF] at h11
  go_enter Tryz.func6, Tryz.ntmps6
  go_wp2_with fail
  have H := TF.new w 31 42 #[.int .i64 c0, .bool c1, c2, c3, c4, c5, .int .i64 c6, .string c7, c8, c9, c10, c11] #[.int .i64 0, .bool false, .slice none 0 0, .slice none 0 0, .slice none 0 0, .slice none 0 0, .int .i64 0, .string ⟨#[]⟩, .slice none 0 0, .slice none 0 0, .slice none 0 0, .slice none 0 0] #[.int .i64 c0, .bool false, .slice none 0 0, .slice none 0 0, .slice none 0 0, .slice none 0 0, .int .i64 0, .string ⟨#[]⟩, .slice none 0 0, .slice none 0 0, .slice none 0 0, .slice none 0 0]
  generalize ((w.alloc (.cells #[.int .i64 c0, .bool c1, c2, c3, c4, c5, .int .i64 c6, .string c7, c8, c9, c10, c11] 31)).alloc (.cells #[.int .i64 0, .bool false, .slice none 0 0, .slice none 0 0, .slice none 0 0, .slice none 0 0, .int .i64 0, .string ⟨#[]⟩, .slice none 0 0, .slice none 0 0, .slice none 0 0, .slice none 0 0] 42)).alloc (.cells #[.int .i64 c0, .bool false, .slice none 0 0, .slice none 0 0, .slice none 0 0, .slice none 0 0, .int .i64 0, .string ⟨#[]⟩, .slice none 0 0, .slice none 0 0, .slice none 0 0, .slice none 0 0] 42) = w0 at H ⊢
  refine (toQuery_any _ _ _ _ _ _ _ _ _ _ _ h2 h3 h4 h5 (r2.later (H.b)) q2 m2 (r3.later (H.b)) q3 m3 (r4.later (H.b)) q4 m4 (r5.later (H.b)) q5 m5).mono ?_
  rintro e w1 ⟨y2, y3, y4, y5, rfl, s2, s3, s4, s5, hb⟩
  replace s2 := s2.low H.size
  obtain ⟨ya2, yn2, yc2, rfl⟩ := s2.slice_of q2 rfl
  replace s3 := s3.low H.size
  obtain ⟨ya3, yn3, yc3, rfl⟩ := s3.slice_of q3 rfl
  replace s4 := s4.low H.size
  obtain ⟨ya4, yn4, yc4, rfl⟩ := s4.slice_of q4 rfl
  replace s5 := s5.low H.size
  obtain ⟨ya5, yn5, yc5, rfl⟩ := s5.slice_of q5 rfl
  replace H := H.next hb
  clear hb
  have u1 := H.ro.cell (i := 1) (v := .bool false) rfl
  have v1 := H.ro.soft 1
  have u2 := H.ro.cell (i := 2) (v := .slice none 0 0) rfl
  have v2 := H.ro.soft 2
  have u3 := H.ro.cell (i := 3) (v := .slice none 0 0) rfl
  have v3 := H.ro.soft 3
  have u4 := H.ro.cell (i := 4) (v := .slice none 0 0) rfl
  have v4 := H.ro.soft 4
  have u5 := H.ro.cell (i := 5) (v := .slice none 0 0) rfl
  have v5 := H.ro.soft 5
  have u6 := H.ro.cell (i := 6) (v := .int .i64 0) rfl
  have v6 := H.ro.soft 6
  have a7 := H.ra.cell (i := 7) (v := .string c7) rfl
  have u7 := H.ro.cell (i := 7) (v := .string ⟨#[]⟩) rfl
  have v7 := H.ro.soft 7
  have a8 := H.ra.cell (i := 8) (v := c8) rfl
  go_wp2_with fail
  replace H : TF w _ 31 42 #[.int .i64 c0, .bool c1, c2, c3, c4, c5, .int .i64 c6, .string c7, c8, c9, c10, c11] #[.int .i64 0, .bool false, .slice none 0 0, .slice none 0 0, .slice none 0 0, .slice none 0 0, .int .i64 0, .string ⟨#[]⟩, .slice none 0 0, .slice none 0 0, .slice none 0 0, .slice none 0 0] #[.int .i64 c0, .bool c1, .slice none 0 0, .slice none 0 0, .slice none 0 0, .slice none 0 0, .int .i64 0, .string ⟨#[]⟩, .slice none 0 0, .slice none 0 0, .slice none 0 0, .slice none 0 0] := H.put 1 (.bool c1)
  replace s2 := s2.set (p := ⟨w.heap.size + 2, 1, none⟩) (Nat.lt_succ_self _) (.bool c1)
  replace s3 := s3.set (p := ⟨w.heap.size + 2, 1, none⟩) (Nat.lt_succ_self _) (.bool c1)
  replace s4 := s4.set (p := ⟨w.heap.size + 2, 1, none⟩) (Nat.lt_succ_self _) (.bool c1)
  replace s5 := s5.set (p := ⟨w.heap.size + 2, 1, none⟩) (Nat.lt_succ_self _) (.bool c1)
  replace H : TF w _ 31 42 #[.int .i64 c0, .bool c1, c2, c3, c4, c5, .int .i64 c6, .string c7, c8, c9, c10, c11] #[.int .i64 0, .bool false, .slice none 0 0, .slice none 0 0, .slice none 0 0, .slice none 0 0, .int .i64 0, .string ⟨#[]⟩, .slice none 0 0, .slice none 0 0, .slice none 0 0, .slice none 0 0] #[.int .i64 c0, .bool c1, .slice ya2 yn2 yc2, .slice none 0 0, .slice none 0 0, .slice none 0 0, .int .i64 0, .string ⟨#[]⟩, .slice none 0 0, .slice none 0 0, .slice none 0 0, .slice none 0 0] := H.put 2 (.slice ya2 yn2 yc2)
  replace s2 := s2.set (p := ⟨w.heap.size + 2, 2, none⟩) (Nat.lt_succ_self _) (.slice ya2 yn2 yc2)
  replace s3 := s3.set (p := ⟨w.heap.size + 2, 2, none⟩) (Nat.lt_succ_self _) (.slice ya2 yn2 yc2)
  replace s4 := s4.set (p := ⟨w.heap.size + 2, 2, none⟩) (Nat.lt_succ_self _) (.slice ya2 yn2 yc2)
  replace s5 := s5.set (p := ⟨w.heap.size + 2, 2, none⟩) (Nat.lt_succ_self _) (.slice ya2 yn2 yc2)
  replace H : TF w _ 31 42 #[.int .i64 c0, .bool c1, c2, c3, c4, c5, .int .i64 c6, .string c7, c8, c9, c10, c11] #[.int .i64 0, .bool false, .slice none 0 0, .slice none 0 0, .slice none 0 0, .slice none 0 0, .int .i64 0, .string ⟨#[]⟩, .slice none 0 0, .slice none 0 0, .slice none 0 0, .slice none 0 0] #[.int .i64 c0, .bool c1, .slice ya2 yn2 yc2, .slice ya3 yn3 yc3, .slice none 0 0, .slice none 0 0, .int .i64 0, .string ⟨#[]⟩, .slice none 0 0, .slice none 0 0, .slice none 0 0, .slice none 0 0] := H.put 3 (.slice ya3 yn3 yc3)
  replace s2 := s2.set (p := ⟨w.heap.size + 2, 3, none⟩) (Nat.lt_succ_self _) (.slice ya3 yn3 yc3)
  replace s3 := s3.set (p := ⟨w.heap.size + 2, 3, none⟩) (Nat.lt_succ_self _) (.slice ya3 yn3 yc3)
  replace s4 := s4.set (p := ⟨w.heap.size + 2, 3, none⟩) (Nat.lt_succ_self _) (.slice ya3 yn3 yc3)
  replace s5 := s5.set (p := ⟨w.heap.size + 2, 3, none⟩) (Nat.lt_succ_self _) (.slice ya3 yn3 yc3)
  replace H : TF w _ 31 42 #[.int .i64 c0, .bool c1, c2, c3, c4, c5, .int .i64 c6, .string c7, c8, c9, c10, c11] #[.int .i64 0, .bool false, .slice none 0 0, .slice none 0 0, .slice none 0 0, .slice none 0 0, .int .i64 0, .string ⟨#[]⟩, .slice none 0 0, .slice none 0 0, .slice none 0 0, .slice none 0 0] #[.int .i64 c0, .bool c1, .slice ya2 yn2 yc2, .slice ya3 yn3 yc3, .slice ya4 yn4 yc4, .slice none 0 0, .int .i64 0, .string ⟨#[]⟩, .slice none 0 0, .slice none 0 0, .slice none 0 0, .slice none 0 0] := H.put 4 (.slice ya4 yn4 yc4)
  replace s2 := s2.set (p := ⟨w.heap.size + 2, 4, none⟩) (Nat.lt_succ_self _) (.slice ya4 yn4 yc4)
  replace s3 := s3.set (p := ⟨w.heap.size + 2, 4, none⟩) (Nat.lt_succ_self _) (.slice ya4 yn4 yc4)
  replace s4 := s4.set (p := ⟨w.heap.size + 2, 4, none⟩) (Nat.lt_succ_self _) (.slice ya4 yn4 yc4)
  replace s5 := s5.set (p := ⟨w.heap.size + 2, 4, none⟩) (Nat.lt_succ_self _) (.slice ya4 yn4 yc4)
  replace H : TF w _ 31 42 #[.int .i64 c0, .bool c1, c2, c3, c4, c5, .int .i64 c6, .string c7, c8, c9, c10, c11] #[.int .i64 0, .bool false, .slice none 0 0, .slice none 0 0, .slice none 0 0, .slice none 0 0, .int .i64 0, .string ⟨#[]⟩, .slice none 0 0, .slice none 0 0, .slice none 0 0, .slice none 0 0] #[.int .i64 c0, .bool c1, .slice ya2 yn2 yc2, .slice ya3 yn3 yc3, .slice ya4 yn4 yc4, .slice ya5 yn5 yc5, .int .i64 0, .string ⟨#[]⟩, .slice none 0 0, .slice none 0 0, .slice none 0 0, .slice none 0 0] := H.put 5 (.slice ya5 yn5 yc5)
  replace s2 := s2.set (p := ⟨w.heap.size + 2, 5, none⟩) (Nat.lt_succ_self _) (.slice ya5 yn5 yc5)
  replace s3 := s3.set (p := ⟨w.heap.size + 2, 5, none⟩) (Nat.lt_succ_self _) (.slice ya5 yn5 yc5)
  replace s4 := s4.set (p := ⟨w.heap.size + 2, 5, none⟩) (Nat.lt_succ_self _) (.slice ya5 yn5 yc5)
  replace s5 := s5.set (p := ⟨w.heap.size + 2, 5, none⟩) (Nat.lt_succ_self _) (.slice ya5 yn5 yc5)
  replace H : TF w _ 31 42 #[.int .i64 c0, .bool c1, c2, c3, c4, c5, .int .i64 c6, .string c7, c8, c9, c10, c11] #[.int .i64 0, .bool false, .slice none 0 0, .slice none 0 0, .slice none 0 0, .slice none 0 0, .int .i64 0, .string ⟨#[]⟩, .slice none 0 0, .slice none 0 0, .slice none 0 0, .slice none 0 0] #[.int .i64 c0, .bool c1, .slice ya2 yn2 yc2, .slice ya3 yn3 yc3, .slice ya4 yn4 yc4, .slice ya5 yn5 yc5, .int .i64 c6, .string ⟨#[]⟩, .slice none 0 0, .slice none 0 0, .slice none 0 0, .slice none 0 0] := H.put 6 (.int .i64 c6)
  replace s2 := s2.set (p := ⟨w.heap.size + 2, 6, none⟩) (Nat.lt_succ_self _) (.int .i64 c6)
  replace s3 := s3.set (p := ⟨w.heap.size + 2, 6, none⟩) (Nat.lt_succ_self _) (.int .i64 c6)
  replace s4 := s4.set (p := ⟨w.heap.size + 2, 6, none⟩) (Nat.lt_succ_self _) (.int .i64 c6)
  replace s5 := s5.set (p := ⟨w.heap.size + 2, 6, none⟩) (Nat.lt_succ_self _) (.int .i64 c6)
  replace H : TF w _ 31 42 #[.int .i64 c0, .bool c1, c2, c3, c4, c5, .int .i64 c6, .string c7, c8, c9, c10, c11] #[.int .i64 0, .bool false, .slice none 0 0, .slice none 0 0, .slice none 0 0, .slice none 0 0, .int .i64 0, .string ⟨#[]⟩, .slice none 0 0, .slice none 0 0, .slice none 0 0, .slice none 0 0] #[.int .i64 c0, .bool c1, .slice ya2 yn2 yc2, .slice ya3 yn3 yc3, .slice ya4 yn4 yc4, .slice ya5 yn5 yc5, .int .i64 c6, .string c7, .slice none 0 0, .slice none 0 0, .slice none 0 0, .slice none 0 0] := H.put 7 (.string c7)
  replace s2 := s2.set (p := ⟨w.heap.size + 2, 7, none⟩) (Nat.lt_succ_self _) (.string c7)
  replace s3 := s3.set (p := ⟨w.heap.size + 2, 7, none⟩) (Nat.lt_succ_self _) (.string c7)
  replace s4 := s4.set (p := ⟨w.heap.size + 2, 7, none⟩) (Nat.lt_succ_self _) (.string c7)
  replace s5 := s5.set (p := ⟨w.heap.size + 2, 7, none⟩) (Nat.lt_succ_self _) (.string c7)
  clear a8
  refine (h8 _ _ (r8.later H.b) q8 m8).mono ?_
  rintro e w2 ⟨y8, rfl, s8, hb⟩
  replace s8 := s8.low H.size
  obtain ⟨ya8, yn8, yc8, rfl⟩ := s8.slice_of q8 rfl
  replace s2 := s2.later hb
  replace s3 := s3.later hb
  replace s4 := s4.later hb
  replace s5 := s5.later hb
  replace H := H.next hb
  clear hb
  have u8 := H.ro.cell (i := 8) (v := .slice none 0 0) rfl
  have v8 := H.ro.soft 8
  have a9 := H.ra.cell (i := 9) (v := c9) rfl
  go_wp2_with fail
  replace H : TF w _ 31 42 #[.int .i64 c0, .bool c1, c2, c3, c4, c5, .int .i64 c6, .string c7, c8, c9, c10, c11] #[.int .i64 0, .bool false, .slice none 0 0, .slice none 0 0, .slice none 0 0, .slice none 0 0, .int .i64 0, .string ⟨#[]⟩, .slice none 0 0, .slice none 0 0, .slice none 0 0, .slice none 0 0] #[.int .i64 c0, .bool c1, .slice ya2 yn2 yc2, .slice ya3 yn3 yc3, .slice ya4 yn4 yc4, .slice ya5 yn5 yc5, .int .i64 c6, .string c7, .slice ya8 yn8 yc8, .slice none 0 0, .slice none 0 0, .slice none 0 0] := H.put 8 (.slice ya8 yn8 yc8)
  replace s2 := s2.set (p := ⟨w.heap.size + 2, 8, none⟩) (Nat.lt_succ_self _) (.slice ya8 yn8 yc8)
  replace s3 := s3.set (p := ⟨w.heap.size + 2, 8, none⟩) (Nat.lt_succ_self _) (.slice ya8 yn8 yc8)
  replace s4 := s4.set (p := ⟨w.heap.size + 2, 8, none⟩) (Nat.lt_succ_self _) (.slice ya8 yn8 yc8)
  replace s5 := s5.set (p := ⟨w.heap.size + 2, 8, none⟩) (Nat.lt_succ_self _) (.slice ya8 yn8 yc8)
  replace s8 := s8.set (p := ⟨w.heap.size + 2, 8, none⟩) (Nat.lt_succ_self _) (.slice ya8 yn8 yc8)
  clear a9
  refine (h9 _ _ (r9.later H.b) q9 m9).mono ?_
  rintro e w3 ⟨y9, rfl, s9, hb⟩
  replace s9 := s9.low H.size
  obtain ⟨ya9, yn9, yc9, rfl⟩ := s9.slice_of q9 rfl
  replace s2 := s2.later hb
  replace s3 := s3.later hb
  replace s4 := s4.later hb
  replace s5 := s5.later hb
  replace s8 := s8.later hb
  replace H := H.next hb
  clear hb
  have u9 := H.ro.cell (i := 9) (v := .slice none 0 0) rfl
  have v9 := H.ro.soft 9
  have a10 := H.ra.cell (i := 10) (v := c10) rfl
  go_wp2_with fail
  replace H : TF w _ 31 42 #[.int .i64 c0, .bool c1, c2, c3, c4, c5, .int .i64 c6, .string c7, c8, c9, c10, c11] #[.int .i64 0, .bool false, .slice none 0 0, .slice none 0 0, .slice none 0 0, .slice none 0 0, .int .i64 0, .string ⟨#[]⟩, .slice none 0 0, .slice none 0 0, .slice none 0 0, .slice none 0 0] #[.int .i64 c0, .bool c1, .slice ya2 yn2 yc2, .slice ya3 yn3 yc3, .slice ya4 yn4 yc4, .slice ya5 yn5 yc5, .int .i64 c6, .string c7, .slice ya8 yn8 yc8, .slice ya9 yn9 yc9, .slice none 0 0, .slice none 0 0] := H.put 9 (.slice ya9 yn9 yc9)
  replace s2 := s2.set (p := ⟨w.heap.size + 2, 9, none⟩) (Nat.lt_succ_self _) (.slice ya9 yn9 yc9)
  replace s3 := s3.set (p := ⟨w.heap.size + 2, 9, none⟩) (Nat.lt_succ_self _) (.slice ya9 yn9 yc9)
  replace s4 := s4.set (p := ⟨w.heap.size + 2, 9, none⟩) (Nat.lt_succ_self _) (.slice ya9 yn9 yc9)
  replace s5 := s5.set (p := ⟨w.heap.size + 2, 9, none⟩) (Nat.lt_succ_self _) (.slice ya9 yn9 yc9)
  replace s8 := s8.set (p := ⟨w.heap.size + 2, 9, none⟩) (Nat.lt_succ_self _) (.slice ya9 yn9 yc9)
  replace s9 := s9.set (p := ⟨w.heap.size + 2, 9, none⟩) (Nat.lt_succ_self _) (.slice ya9 yn9 yc9)
  clear a10
  refine (h10 _ _ (r10.later H.b) q10 m10).mono ?_
  rintro e w4 ⟨y10, rfl, s10, hb⟩
  replace s10 := s10.low H.size
  obtain ⟨ya10, yn10, yc10, rfl⟩ := s10.slice_of q10 rfl
  replace s2 := s2.later hb
  replace s3 := s3.later hb
  replace s4 := s4.later hb
  replace s5 := s5.later hb
  replace s8 := s8.later hb
  replace s9 := s9.later hb
  replace H := H.next hb
  clear hb
  have u10 := H.ro.cell (i := 10) (v := .slice none 0 0) rfl
  have v10 := H.ro.soft 10
  have a11 := H.ra.cell (i := 11) (v := c11) rfl
  go_wp2_with fail
  replace H : TF w _ 31 42 #[.int .i64 c0, .bool c1, c2, c3, c4, c5, .int .i64 c6, .string c7, c8, c9, c10, c11] #[.int .i64 0, .bool false, .slice none 0 0, .slice none 0 0, .slice none 0 0, .slice none 0 0, .int .i64 0, .string ⟨#[]⟩, .slice none 0 0, .slice none 0 0, .slice none 0 0, .slice none 0 0] #[.int .i64 c0, .bool c1, .slice ya2 yn2 yc2, .slice ya3 yn3 yc3, .slice ya4 yn4 yc4, .slice ya5 yn5 yc5, .int .i64 c6, .string c7, .slice ya8 yn8 yc8, .slice ya9 yn9 yc9, .slice ya10 yn10 yc10, .slice none 0 0] := H.put 10 (.slice ya10 yn10 yc10)
  replace s2 := s2.set (p := ⟨w.heap.size + 2, 10, none⟩) (Nat.lt_succ_self _) (.slice ya10 yn10 yc10)
  replace s3 := s3.set (p := ⟨w.heap.size + 2, 10, none⟩) (Nat.lt_succ_self _) (.slice ya10 yn10 yc10)
  replace s4 := s4.set (p := ⟨w.heap.size + 2, 10, none⟩) (Nat.lt_succ_self _) (.slice ya10 yn10 yc10)
  replace s5 := s5.set (p := ⟨w.heap.size + 2, 10, none⟩) (Nat.lt_succ_self _) (.slice ya10 yn10 yc10)
  replace s8 := s8.set (p := ⟨w.heap.size + 2, 10, none⟩) (Nat.lt_succ_self _) (.slice ya10 yn10 yc10)
  replace s9 := s9.set (p := ⟨w.heap.size + 2, 10, none⟩) (Nat.lt_succ_self _) (.slice ya10 yn10 yc10)
  replace s10 := s10.set (p := ⟨w.heap.size + 2, 10, none⟩) (Nat.lt_succ_self _) (.slice ya10 yn10 yc10)
  clear a11
  refine (h11 _ _ (r11.later H.b) q11 m11).mono ?_
  rintro e w5 ⟨y11, rfl, s11, hb⟩
  replace s11 := s11.low H.size
  obtain ⟨ya11, yn11, yc11, rfl⟩ := s11.slice_of q11 rfl
  replace s2 := s2.later hb
  replace s3 := s3.later hb
  replace s4 := s4.later hb
  replace s5 := s5.later hb
  replace s8 := s8.later hb
  replace s9 := s9.later hb
  replace s10 := s10.later hb
  replace H := H.next hb
  clear hb
  have u11 := H.ro.cell (i := 11) (v := .slice none 0 0) rfl
  have v11 := H.ro.soft 11
  replace H : TF w _ 31 42 #[.int .i64 c0, .bool c1, c2, c3, c4, c5, .int .i64 c6, .string c7, c8, c9, c10, c11] #[.int .i64 0, .bool false, .slice none 0 0, .slice none 0 0, .slice none 0 0, .slice none 0 0, .int .i64 0, .string ⟨#[]⟩, .slice none 0 0, .slice none 0 0, .slice none 0 0, .slice none 0 0] #[.int .i64 c0, .bool c1, .slice ya2 yn2 yc2, .slice ya3 yn3 yc3, .slice ya4 yn4 yc4, .slice ya5 yn5 yc5, .int .i64 c6, .string c7, .slice ya8 yn8 yc8, .slice ya9 yn9 yc9, .slice ya10 yn10 yc10, .slice ya11 yn11 yc11] := H.put 11 (.slice ya11 yn11 yc11)
  replace s2 := s2.set (p := ⟨w.heap.size + 2, 11, none⟩) (Nat.lt_succ_self _) (.slice ya11 yn11 yc11)
  replace s3 := s3.set (p := ⟨w.heap.size + 2, 11, none⟩) (Nat.lt_succ_self _) (.slice ya11 yn11 yc11)
  replace s4 := s4.set (p := ⟨w.heap.size + 2, 11, none⟩) (Nat.lt_succ_self _) (.slice ya11 yn11 yc11)
  replace s5 := s5.set (p := ⟨w.heap.size + 2, 11, none⟩) (Nat.lt_succ_self _) (.slice ya11 yn11 yc11)
  replace s8 := s8.set (p := ⟨w.heap.size + 2, 11, none⟩) (Nat.lt_succ_self _) (.slice ya11 yn11 yc11)
  replace s9 := s9.set (p := ⟨w.heap.size + 2, 11, none⟩) (Nat.lt_succ_self _) (.slice ya11 yn11 yc11)
  replace s10 := s10.set (p := ⟨w.heap.size + 2, 11, none⟩) (Nat.lt_succ_self _) (.slice ya11 yn11 yc11)
  replace s11 := s11.set (p := ⟨w.heap.size + 2, 11, none⟩) (Nat.lt_succ_self _) (.slice ya11 yn11 yc11)
  go_upto_region 9 with (fail)
  generalize (w5.setCell ⟨w.heap.size + 2, 11, none⟩ (.slice ya11 yn11 yc11)) = wz at H s2 s3 s4 s5 s8 s9 s10 s11 ⊢
  have g0 := H.rr.cell (i := 0) (v := .int .i64 0) rfl
  have k0 := H.rr.soft 0
  have o0 := H.ro.cell (i := 0) (v := .int .i64 c0) rfl
  have g1 := H.rr.cell (i := 1) (v := .bool false) rfl
  have k1 := H.rr.soft 1
  have o1 := H.ro.cell (i := 1) (v := .bool c1) rfl
  have g2 := H.rr.cell (i := 2) (v := .slice none 0 0) rfl
  have k2 := H.rr.soft 2
  have o2 := H.ro.cell (i := 2) (v := .slice ya2 yn2 yc2) rfl
  have g3 := H.rr.cell (i := 3) (v := .slice none 0 0) rfl
  have k3 := H.rr.soft 3
  have o3 := H.ro.cell (i := 3) (v := .slice ya3 yn3 yc3) rfl
  have g4 := H.rr.cell (i := 4) (v := .slice none 0 0) rfl
  have k4 := H.rr.soft 4
  have o4 := H.ro.cell (i := 4) (v := .slice ya4 yn4 yc4) rfl
  have g5 := H.rr.cell (i := 5) (v := .slice none 0 0) rfl
  have k5 := H.rr.soft 5
  have o5 := H.ro.cell (i := 5) (v := .slice ya5 yn5 yc5) rfl
  have g6 := H.rr.cell (i := 6) (v := .int .i64 0) rfl
  have k6 := H.rr.soft 6
  have o6 := H.ro.cell (i := 6) (v := .int .i64 c6) rfl
  have g7 := H.rr.cell (i := 7) (v := .string ⟨#[]⟩) rfl
  have k7 := H.rr.soft 7
  have o7 := H.ro.cell (i := 7) (v := .string c7) rfl
  have g8 := H.rr.cell (i := 8) (v := .slice none 0 0) rfl
  have k8 := H.rr.soft 8
  have o8 := H.ro.cell (i := 8) (v := .slice ya8 yn8 yc8) rfl
  have g9 := H.rr.cell (i := 9) (v := .slice none 0 0) rfl
  have k9 := H.rr.soft 9
  have o9 := H.ro.cell (i := 9) (v := .slice ya9 yn9 yc9) rfl
  have g10 := H.rr.cell (i := 10) (v := .slice none 0 0) rfl
  have k10 := H.rr.soft 10
  have o10 := H.ro.cell (i := 10) (v := .slice ya10 yn10 yc10) rfl
  have g11 := H.rr.cell (i := 11) (v := .slice none 0 0) rfl
  have k11 := H.rr.soft 11
  have o11 := H.ro.cell (i := 11) (v := .slice ya11 yn11 yc11) rfl
  go_wp2_with fail
  rw [show ((((((((((((wz.setCell ⟨w.heap.size + 1, 0, none⟩ (.int .i64 c0)).setCell ⟨w.heap.size + 1, 1, none⟩ (.bool c1)).setCell ⟨w.heap.size + 1, 2, none⟩ (.slice ya2 yn2 yc2)).setCell ⟨w.heap.size + 1, 3, none⟩ (.slice ya3 yn3 yc3)).setCell ⟨w.heap.size + 1, 4, none⟩ (.slice ya4 yn4 yc4)).setCell ⟨w.heap.size + 1, 5, none⟩ (.slice ya5 yn5 yc5)).setCell ⟨w.heap.size + 1, 6, none⟩ (.int .i64 c6)).setCell ⟨w.heap.size + 1, 7, none⟩ (.string c7)).setCell ⟨w.heap.size + 1, 8, none⟩ (.slice ya8 yn8 yc8)).setCell ⟨w.heap.size + 1, 9, none⟩ (.slice ya9 yn9 yc9)).setCell ⟨w.heap.size + 1, 10, none⟩ (.slice ya10 yn10 yc10)).setCell ⟨w.heap.size + 1, 11, none⟩ (.slice ya11 yn11 yc11)) = puts (w.heap.size + 1) 0 [.int .i64 c0, .bool c1, .slice ya2 yn2 yc2, .slice ya3 yn3 yc3, .slice ya4 yn4 yc4, .slice ya5 yn5 yc5, .int .i64 c6, .string c7, .slice ya8 yn8 yc8, .slice ya9 yn9 yc9, .slice ya10 yn10 yc10, .slice ya11 yn11 yc11] wz from rfl]
  obtain ⟨hr, hbF, hrd⟩ := H.fin [.int .i64 c0, .bool c1, .slice ya2 yn2 yc2, .slice ya3 yn3 yc3, .slice ya4 yn4 yc4, .slice ya5 yn5 yc5, .int .i64 c6, .string c7, .slice ya8 yn8 yc8, .slice ya9 yn9 yc9, .slice ya10 yn10 yc10, .slice ya11 yn11 yc11] (by simp)
  have f0 := hr 0 (.int .i64 c0) rfl
  have f1 := hr 1 (.bool c1) rfl
  have f2 := hr 2 (.slice ya2 yn2 yc2) rfl
  have f3 := hr 3 (.slice ya3 yn3 yc3) rfl
  have f4 := hr 4 (.slice ya4 yn4 yc4) rfl
  have f5 := hr 5 (.slice ya5 yn5 yc5) rfl
  have f6 := hr 6 (.int .i64 c6) rfl
  have f7 := hr 7 (.string c7) rfl
  have f8 := hr 8 (.slice ya8 yn8 yc8) rfl
  have f9 := hr 9 (.slice ya9 yn9 yc9) rfl
  have f10 := hr 10 (.slice ya10 yn10 yc10) rfl
  have f11 := hr 11 (.slice ya11 yn11 yc11) rfl
  clear hr
  have t2 := hrd s2
  have t3 := hrd s3
  have t4 := hrd s4
  have t5 := hrd s5
  have t8 := hrd s8
  have t9 := hrd s9
  have t10 := hrd s10
  have t11 := hrd s11
  clear hrd
  generalize puts (w.heap.size + 1) 0 [.int .i64 c0, .bool c1, .slice ya2 yn2 yc2, .slice ya3 yn3 yc3, .slice ya4 yn4 yc4, .slice ya5 yn5 yc5, .int .i64 c6, .string c7, .slice ya8 yn8 yc8, .slice ya9 yn9 yc9, .slice ya10 yn10 yc10, .slice ya11 yn11 yc11] wz = wf at hbF f0 f1 f2 f3 f4 f5 f6 f7 f8 f9 f10 f11 t2 t3 t4 t5 t8 t9 t10 t11 ⊢
  refine bodyPost_ret (v := .agg #[.int .i64 c0, .bool c1, .slice ya2 yn2 yc2, .slice ya3 yn3 yc3, .slice ya4 yn4 yc4, .slice ya5 yn5 yc5, .int .i64 c6, .string c7, .slice ya8 yn8 yc8, .slice ya9 yn9 yc9, .slice ya10 yn10 yc10, .slice ya11 yn11 yc11]) (by simp [results, Tryz.results6, go_sem, f0, f1, f2, f3, f4, f5, f6, f7, f8, f9, f10, f11]) rfl ?_
  exact ⟨.slice ya2 yn2 yc2, .slice ya3 yn3 yc3, .slice ya4 yn4 yc4, .slice ya5 yn5 yc5, .slice ya8 yn8 yc8, .slice ya9 yn9 yc9, .slice ya10 yn10 yc10, .slice ya11 yn11 yc11, rfl, t2, t3, t4, t5, t8, t9, t10, t11, hbF⟩
set_option maxRecDepth 100000 in
set_option maxHeartbeats 4000000 in
theorem szStmt_any (c0 : Int) (c1 : Bool) (c2 : Value) (c3 : Value) (c4 : Value) (c5 : Value) (c6 : Int) (c7 : ByteArray) (c8 : Value) (c9 : Value) (c10 : Value) (c11 : Value) (d2 : Dat) (d3 : Dat) (d4 : Dat) (d5 : Dat) (d8 : Dat) (d9 : Dat) (d10 : Dat) (d11 : Dat) (m : Int) (w : World) (h0 : 0 ≤ m) (h1 : m ≤ 1048576) (h2 : SzP d2 .items) (h3 : SzP d3 .sources) (h4 : SzP d4 .exprs) (h5 : SzP d5 .keys) (h8 : SzPF 10 d8 .rows) (h9 : SzPF 11 d9 .names) (h10 : SzP d10 .exprs) (h11 : SzP d11 .exprs) (r2 : Rd w 0 c2 d2) (q2 : Fits d2 .items) (r3 : Rd w 0 c3 d3) (q3 : Fits d3 .sources) (r4 : Rd w 0 c4 d4) (q4 : Fits d4 .exprs) (r5 : Rd w 0 c5 d5) (q5 : Fits d5 .keys) (r8 : Rd w 0 c8 d8) (q8 : Fits d8 .rows) (r9 : Rd w 0 c9 d9) (q9 : Fits d9 .names) (r10 : Rd w 0 c10 d10) (q10 : Fits d10 .exprs) (r11 : Rd w 0 c11 d11) (q11 : Fits d11 .exprs) (b7 : c7.size ≤ 9223372036854775807) :
    Calls Tryz.prog 4 #[.agg #[.int .i64 c0, .bool c1, c2, c3, c4, c5, .int .i64 c6, .string c7, c8, c9, c10, c11], .int .i64 m] w (IntE (leftOf m ((msr d2 + msr d3 + msr d4 + msr d5) + c7.size + msr d8 + msr d9 + msr d10 + msr d11)) w) := by
  have hR0 := RowAt.new w 31 #[.int .i64 c0, .bool c1, c2, c3, c4, c5, .int .i64 c6, .string c7, c8, c9, c10, c11]
  have hB0 := (Below.refl w.heap.size w).alloc (Nat.le_refl _) (.cells #[.int .i64 c0, .bool c1, c2, c3, c4, c5, .int .i64 c6, .string c7, c8, c9, c10, c11] 31)
  go_enter Tryz.func4, Tryz.ntmps4
  go_wp2_with fail
  generalize w.alloc (.cells #[.int .i64 c0, .bool c1, c2, c3, c4, c5, .int .i64 c6, .string c7, c8, c9, c10, c11] 31) = w0 at hR0 hB0 ⊢
  have y0 := fun (v : World) (hv : Below w.heap.size w v) => szQuery_any c1 c2 c3 c4 c5 c6 d2 d3 d4 d5 (m) v (by omega) (by omega) h2 h3 h4 h5 (r2.later hv) q2 (r3.later hv) q3 (r4.later hv) q4 (r5.later hv) q5 
  by_cases t0 : m - (msr d2 + msr d3 + msr d4 + msr d5 : Int) < 0
  · simp only [leftOf_no t0] at y0
    refine (y0 _ hB0).mono ?_
    rintro e w1 ⟨rfl, hb⟩
    have hB1 := hB0.trans (hb.mono hB0.size)
    go_wp2_with fail
    go_ret
    exact ⟨ret_i64 (leftOf_is1 (by omega)), hB1⟩
  obtain ⟨R1, hR1_⟩ : ∃ z : Int, z = m - (msr d2 + msr d3 + msr d4 + msr d5 : Int) := ⟨_, rfl⟩
  have l0 := (leftOf_yes t0).trans hR1_.symm
  have E1 := Lib.hid hR1_
  have k1 : 0 ≤ R1 := by omega
  have kk1 : R1 ≤ 1048576 := by omega
  clear hR1_ t0
  simp only [l0] at y0
  clear l0
  have j1 : decide (R1 < 0) = false := by simpa using k1
  refine (y0 _ hB0).mono ?_
  rintro e w1 ⟨rfl, hb⟩
  have hB1 := hB0.trans (hb.mono hB0.size)
  have hR1 := hR0.later hb
  clear hb y0
  have a7 := hR1.cell (i := 7) rfl
  have a8 := hR1.cell (i := 8) rfl
  by_cases t1 : R1 - (c7.size : Int) < 0
  · have x1 : decide (R1 - (c7.size : Int) < 0) = true := by simpa using t1
    go_wp2_with fail
    go_ret
    exact ⟨ret_i64 (leftOf_is1 (by have := E1.out; omega)), hB1⟩
  have x1 : decide (R1 - (c7.size : Int) < 0) = false := by simpa using t1
  go_wp2_with fail
  have y2 := fun (v : World) (hv : Below w.heap.size w v) => h8 c8 ((R1 - (c7.size : Int))) v (by have := E1.out; omega) (by have := E1.out; omega) (r8.later hv) q8
  by_cases t2 : (R1 - (c7.size : Int)) - (msr d8 : Int) < 0
  · simp only [leftOf_no t2] at y2
    refine (y2 _ hB1).mono ?_
    rintro e w2 ⟨rfl, hb⟩
    have hB2 := hB1.trans (hb.mono hB1.size)
    go_wp2_with fail
    go_ret
    exact ⟨ret_i64 (leftOf_is1 (by have := E1.out; omega)), hB2⟩
  obtain ⟨R2, hR2_⟩ : ∃ z : Int, z = (R1 - (c7.size : Int)) - (msr d8 : Int) := ⟨_, rfl⟩
  have l2 := (leftOf_yes t2).trans hR2_.symm
  have E2 := Lib.hid hR2_
  have k2 : 0 ≤ R2 := by omega
  have kk2 : R2 ≤ 1048576 := by have := E1.out; omega
  clear hR2_ t2
  simp only [l2] at y2
  clear l2
  have j2 : decide (R2 < 0) = false := by simpa using k2
  refine (y2 _ hB1).mono ?_
  rintro e w2 ⟨rfl, hb⟩
  have hB2 := hB1.trans (hb.mono hB1.size)
  have hR2 := hR1.later hb
  clear hb y2
  have a9 := hR2.cell (i := 9) rfl
  go_wp2_with fail
  have y3 := fun (v : World) (hv : Below w.heap.size w v) => h9 c9 (R2) v (by have := E1.out; have := E2.out; omega) (by have := E1.out; have := E2.out; omega) (r9.later hv) q9
  by_cases t3 : R2 - (msr d9 : Int) < 0
  · simp only [leftOf_no t3] at y3
    refine (y3 _ hB2).mono ?_
    rintro e w3 ⟨rfl, hb⟩
    have hB3 := hB2.trans (hb.mono hB2.size)
    go_wp2_with fail
    go_ret
    exact ⟨ret_i64 (leftOf_is1 (by have := E1.out; have := E2.out; omega)), hB3⟩
  obtain ⟨R3, hR3_⟩ : ∃ z : Int, z = R2 - (msr d9 : Int) := ⟨_, rfl⟩
  have l3 := (leftOf_yes t3).trans hR3_.symm
  have E3 := Lib.hid hR3_
  have k3 : 0 ≤ R3 := by omega
  have kk3 : R3 ≤ 1048576 := by have := E1.out; have := E2.out; omega
  clear hR3_ t3
  simp only [l3] at y3
  clear l3
  have j3 : decide (R3 < 0) = false := by simpa using k3
  refine (y3 _ hB2).mono ?_
  rintro e w3 ⟨rfl, hb⟩
  have hB3 := hB2.trans (hb.mono hB2.size)
  have hR3 := hR2.later hb
  clear hb y3
  have a10 := hR3.cell (i := 10) rfl
  go_wp2_with fail
  have y4 := fun (v : World) (hv : Below w.heap.size w v) => h10 c10 (R3) v (by have := E1.out; have := E2.out; have := E3.out; omega) (by have := E1.out; have := E2.out; have := E3.out; omega) (r10.later hv) q10
  by_cases t4 : R3 - (msr d10 : Int) < 0
  · simp only [leftOf_no t4] at y4
    refine (y4 _ hB3).mono ?_
    rintro e w4 ⟨rfl, hb⟩
    have hB4 := hB3.trans (hb.mono hB3.size)
    go_wp2_with fail
    go_ret
    exact ⟨ret_i64 (leftOf_is1 (by have := E1.out; have := E2.out; have := E3.out; omega)), hB4⟩
  obtain ⟨R4, hR4_⟩ : ∃ z : Int, z = R3 - (msr d10 : Int) := ⟨_, rfl⟩
  have l4 := (leftOf_yes t4).trans hR4_.symm
  have E4 := Lib.hid hR4_
  have k4 : 0 ≤ R4 := by omega
  have kk4 : R4 ≤ 1048576 := by have := E1.out; have := E2.out; have := E3.out; omega
  clear hR4_ t4
  simp only [l4] at y4
  clear l4
  have j4 : decide (R4 < 0) = false := by simpa using k4
  refine (y4 _ hB3).mono ?_
  rintro e w4 ⟨rfl, hb⟩
  have hB4 := hB3.trans (hb.mono hB3.size)
  have hR4 := hR3.later hb
  clear hb y4
  have a11 := hR4.cell (i := 11) rfl
  go_wp2_with fail
  have y5 := fun (v : World) (hv : Below w.heap.size w v) => h11 c11 (R4) v (by have := E1.out; have := E2.out; have := E3.out; have := E4.out; omega) (by have := E1.out; have := E2.out; have := E3.out; have := E4.out; omega) (r11.later hv) q11
  by_cases t5 : R4 - (msr d11 : Int) < 0
  · simp only [leftOf_no t5] at y5
    refine (y5 _ hB4).mono ?_
    rintro e w5 ⟨rfl, hb⟩
    have hB5 := hB4.trans (hb.mono hB4.size)
    go_wp2_with fail
    go_ret
    exact ⟨ret_i64 (leftOf_is1 (by have := E1.out; have := E2.out; have := E3.out; have := E4.out; omega)), hB5⟩
  obtain ⟨R5, hR5_⟩ : ∃ z : Int, z = R4 - (msr d11 : Int) := ⟨_, rfl⟩
  have l5 := (leftOf_yes t5).trans hR5_.symm
  have E5 := Lib.hid hR5_
  have k5 : 0 ≤ R5 := by omega
  have kk5 : R5 ≤ 1048576 := by have := E1.out; have := E2.out; have := E3.out; have := E4.out; omega
  clear hR5_ t5
  simp only [l5] at y5
  clear l5
  have j5 : decide (R5 < 0) = false := by simpa using k5
  refine (y5 _ hB4).mono ?_
  rintro e w5 ⟨rfl, hb⟩
  have hB5 := hB4.trans (hb.mono hB4.size)
  have hR5 := hR4.later hb
  clear hb y5
  go_wp2_with fail
  go_ret
  exact ⟨ret_i64 (leftOf_is (by have := E1.out; have := E2.out; have := E3.out; have := E4.out; have := E5.out; omega) (by have := E1.out; have := E2.out; have := E3.out; have := E4.out; have := E5.out; omega)), hB5⟩
set_option maxRecDepth 100000 in
set_option maxHeartbeats 4000000 in
theorem eqStmt_any (c0 : Int) (c1 : Bool) (c2 : Value) (c3 : Value) (c4 : Value) (c5 : Value) (c6 : Int) (c7 : ByteArray) (c8 : Value) (c9 : Value) (c10 : Value) (c11 : Value) (p2 : Value) (p3 : Value) (p4 : Value) (p5 : Value) (p8 : Value) (p9 : Value) (p10 : Value) (p11 : Value) (d2 : Dat) (d3 : Dat) (d4 : Dat) (d5 : Dat) (d8 : Dat) (d9 : Dat) (d10 : Dat) (d11 : Dat) (w : World) (h2 : EqP d2 .items) (h3 : EqP d3 .sources) (h4 : EqP d4 .exprs) (h5 : EqP d5 .keys) (h8 : EqPF 26 d8 .rows) (h9 : EqPF 27 d9 .names) (h10 : EqP d10 .exprs) (h11 : EqP d11 .exprs) (r2 : Rd w 0 c2 d2) (s2 : Rd w 0 p2 d2) (q2 : Fits d2 .items) (r3 : Rd w 0 c3 d3) (s3 : Rd w 0 p3 d3) (q3 : Fits d3 .sources) (r4 : Rd w 0 c4 d4) (s4 : Rd w 0 p4 d4) (q4 : Fits d4 .exprs) (r5 : Rd w 0 c5 d5) (s5 : Rd w 0 p5 d5) (q5 : Fits d5 .keys) (r8 : Rd w 0 c8 d8) (s8 : Rd w 0 p8 d8) (q8 : Fits d8 .rows) (r9 : Rd w 0 c9 d9) (s9 : Rd w 0 p9 d9) (q9 : Fits d9 .names) (r10 : Rd w 0 c10 d10) (s10 : Rd w 0 p10 d10) (q10 : Fits d10 .exprs) (r11 : Rd w 0 c11 d11) (s11 : Rd w 0 p11 d11) (q11 : Fits d11 .exprs) :
    Calls Tryz.prog 8 #[.agg #[.int .i64 c0, .bool c1, c2, c3, c4, c5, .int .i64 c6, .string c7, c8, c9, c10, c11], .agg #[.int .i64 c0, .bool c1, p2, p3, p4, p5, .int .i64 c6, .string c7, p8, p9, p10, p11]] w (BoolE true w) := by
  have hA := (RowAt.new w 42 #[.int .i64 c0, .bool c1, c2, c3, c4, c5, .int .i64 c6, .string c7, c8, c9, c10, c11]).alloc (.cells #[.int .i64 c0, .bool c1, p2, p3, p4, p5, .int .i64 c6, .string c7, p8, p9, p10, p11] 42)
  have hC := RowAt.new1 w (.cells #[.int .i64 c0, .bool c1, c2, c3, c4, c5, .int .i64 c6, .string c7, c8, c9, c10, c11] 42) 42 #[.int .i64 c0, .bool c1, p2, p3, p4, p5, .int .i64 c6, .string c7, p8, p9, p10, p11]
  have hB := ((Below.refl w.heap.size w).alloc (Nat.le_refl _) (.cells #[.int .i64 c0, .bool c1, c2, c3, c4, c5, .int .i64 c6, .string c7, c8, c9, c10, c11] 42)).alloc (by simp) (.cells #[.int .i64 c0, .bool c1, p2, p3, p4, p5, .int .i64 c6, .string c7, p8, p9, p10, p11] 42)
  go_enter Tryz.func8, Tryz.ntmps8
  go_wp2_with fail
  generalize (w.alloc (.cells #[.int .i64 c0, .bool c1, c2, c3, c4, c5, .int .i64 c6, .string c7, c8, c9, c10, c11] 42)).alloc (.cells #[.int .i64 c0, .bool c1, p2, p3, p4, p5, .int .i64 c6, .string c7, p8, p9, p10, p11] 42) = w0 at hA hC hB ⊢
  refine (eqQuery_any _ _ _ _ _ _ _ _ _ _ _ _ _ _ _ h2 h3 h4 h5 (r2.later hB) (s2.later hB) q2 (r3.later hB) (s3.later hB) q3 (r4.later hB) (s4.later hB) q4 (r5.later hB) (s5.later hB) q5).mono ?_
  rintro e w1 ⟨rfl, hb⟩
  replace hA := hA.later hb
  replace hC := hC.later hb
  replace hB := hB.trans (hb.mono hB.size)
  clear hb
  have a7 := hA.cell (i := 7) (v := .string c7) rfl
  have b7 := hC.cell (i := 7) (v := .string c7) rfl
  have a8 := hA.cell (i := 8) (v := c8) rfl
  have b8 := hC.cell (i := 8) (v := p8) rfl
  go_wp2_with fail
  clear a7 b7 a8 b8
  refine (h8 _ _ _ (r8.later hB) (s8.later hB) q8).mono ?_
  rintro e w2 ⟨rfl, hb⟩
  replace hA := hA.later hb
  replace hC := hC.later hb
  replace hB := hB.trans (hb.mono hB.size)
  clear hb
  have a9 := hA.cell (i := 9) (v := c9) rfl
  have b9 := hC.cell (i := 9) (v := p9) rfl
  go_wp2_with fail
  clear a9 b9
  refine (h9 _ _ _ (r9.later hB) (s9.later hB) q9).mono ?_
  rintro e w3 ⟨rfl, hb⟩
  replace hA := hA.later hb
  replace hC := hC.later hb
  replace hB := hB.trans (hb.mono hB.size)
  clear hb
  have a10 := hA.cell (i := 10) (v := c10) rfl
  have b10 := hC.cell (i := 10) (v := p10) rfl
  go_wp2_with fail
  clear a10 b10
  refine (h10 _ _ _ (r10.later hB) (s10.later hB) q10).mono ?_
  rintro e w4 ⟨rfl, hb⟩
  replace hA := hA.later hb
  replace hC := hC.later hb
  replace hB := hB.trans (hb.mono hB.size)
  clear hb
  have a11 := hA.cell (i := 11) (v := c11) rfl
  have b11 := hC.cell (i := 11) (v := p11) rfl
  go_wp2_with fail
  clear a11 b11
  refine (h11 _ _ _ (r11.later hB) (s11.later hB) q11).mono ?_
  rintro e w5 ⟨rfl, hb⟩
  replace hA := hA.later hb
  replace hC := hC.later hb
  replace hB := hB.trans (hb.mono hB.size)
  clear hb
  go_wp2_with fail
  go_ret
  exact ⟨rfl, hB⟩
theorem toRows_all : ∀ d : Dat, ToPF 17 d .rows
  | .v x => fun y w _ hf => hf.elim
  | .sl n k f => toExprSS_any fun i _ => toAll (f i 0) _ rfl
theorem szRows_all : ∀ d : Dat, SzPF 10 d .rows
  | .v x => fun y m w _ _ _ hf => hf.elim
  | .sl n k f => szExprSS_any fun i _ => szAll (f i 0) _ rfl
theorem eqRows_all : ∀ d : Dat, EqPF 26 d .rows
  | .v x => fun y z w _ _ hf => hf.elim
  | .sl n k f => eqExprSS_any fun i _ => eqAll (f i 0) _ rfl
theorem toNames_all : ∀ d : Dat, ToPF 18 d .names
  | .v x => fun y w _ hf => hf.elim
  | .sl n k f => toStringS_any
theorem szNames_all : ∀ d : Dat, SzPF 11 d .names
  | .v x => fun y m w _ _ _ hf => hf.elim
  | .sl n k f => szStringS_any
theorem eqNames_all : ∀ d : Dat, EqPF 27 d .names
  | .v x => fun y z w _ _ hf => hf.elim
  | .sl n k f => eqStringS_any
set_option maxRecDepth 100000 in
set_option maxHeartbeats 8000000 in
theorem ex_StmtOk (V : Bool) (c : Nat → Dat) (c0 : Int) (c1 : Bool) (c2 : Value) (c3 : Value) (c4 : Value) (c5 : Value) (c6 : Int) (c7 : ByteArray) (c8 : Value) (c9 : Value) (c10 : Value) (c11 : Value) (w : World) (r2 : Rd w 0 c2 (c 2)) (q2 : Fits (c 2) .items) (r3 : Rd w 0 c3 (c 3)) (q3 : Fits (c 3) .sources) (r4 : Rd w 0 c4 (c 4)) (q4 : Fits (c 4) .exprs) (r5 : Rd w 0 c5 (c 5)) (q5 : Fits (c 5) .keys) (r8 : Rd w 0 c8 (c 8)) (q8 : Fits (c 8) .rows) (r9 : Rd w 0 c9 (c 9)) (q9 : Fits (c 9) .names) (r10 : Rd w 0 c10 (c 10)) (q10 : Fits (c 10) .exprs) (r11 : Rd w 0 c11 (c 11)) (q11 : Fits (c 11) .exprs) (b7 : c7.size ≤ 9223372036854775807)
    (hS : msr (c 2) + msr (c 3) + msr (c 4) + msr (c 5) + msr (c 8) + msr (c 9) + msr (c 10) + msr (c 11) ≤ 1048576 → ∀ (X2 X3 X4 X5 X8 X9 X10 X11 : Value) (v : World), Rd v 0 X2 (c 2) → Rd v 0 X3 (c 3) → Rd v 0 X4 (c 4) → Rd v 0 X5 (c 5) → Rd v 0 X8 (c 8) → Rd v 0 X9 (c 9) → Rd v 0 X10 (c 10) → Rd v 0 X11 (c 11) → Calls Tryz.prog 5 #[.agg #[.int .i64 c0, .bool c1, X2, X3, X4, X5, .int .i64 c6, .string c7, X8, X9, X10, X11]] v (BoolE V v))
    (hI : msr (c 2) + msr (c 3) + msr (c 4) + msr (c 5) + msr (c 8) + msr (c 9) + msr (c 10) + msr (c 11) ≤ 1048576 → ∀ (X2 X3 X4 X5 X8 X9 X10 X11 : Value) (v : World), Rd v 0 X2 (c 2) → Rd v 0 X3 (c 3) → Rd v 0 X4 (c 4) → Rd v 0 X5 (c 5) → Rd v 0 X8 (c 8) → Rd v 0 X9 (c 9) → Rd v 0 X10 (c 10) → Rd v 0 X11 (c 11) → Calls Tryz.prog 7 #[.agg #[.int .i64 c0, .bool c1, X2, X3, X4, X5, .int .i64 c6, .string c7, X8, X9, X10, X11]] v (BoolE V v)) :
    Calls Tryz.prog 3 #[.agg #[.int .i64 c0, .bool c1, c2, c3, c4, c5, .int .i64 c6, .string c7, c8, c9, c10, c11]] w (BoolE true w) := by
  have hZ := fun w h => szStmt_any c0 c1 c2 c3 c4 c5 c6 c7 c8 c9 c10 c11 (c 2) (c 3) (c 4) (c 5) (c 8) (c 9) (c 10) (c 11) 1048576 w (by omega) (by omega) (szAll (c 2) _ rfl) (szAll (c 3) _ rfl) (szAll (c 4) _ rfl) (szAll (c 5) _ rfl) (szRows_all (c 8)) (szNames_all (c 9)) (szAll (c 10) _ rfl) (szAll (c 11) _ rfl) (Rd.later r2 h) q2 (Rd.later r3 h) q3 (Rd.later r4 h) q4 (Rd.later r5 h) q5 (Rd.later r8 h) q8 (Rd.later r9 h) q9 (Rd.later r10 h) q10 (Rd.later r11 h) q11 b7
  by_cases hbig : (1048576 : Int) - ((msr (c 2) + msr (c 3) + msr (c 4) + msr (c 5)) + c7.size + msr (c 8) + msr (c 9) + msr (c 10) + msr (c 11) : Int) < 0
  · simp only [leftOf_no hbig] at hZ
    go_enter Tryz.func3, Tryz.ntmps3
    go_wp2_with fail
    have HA := BX.new w 31 #[.int .i64 c0, .bool c1, c2, c3, c4, c5, .int .i64 c6, .string c7, c8, c9, c10, c11]
    generalize w.alloc (.cells #[.int .i64 c0, .bool c1, c2, c3, c4, c5, .int .i64 c6, .string c7, c8, c9, c10, c11] 31) = v0 at HA ⊢
    refine (hZ _ HA.b).mono ?_
    rintro e v1 ⟨rfl, hb⟩
    have hbb := HA.b.trans (hb.mono HA.b.size)
    go_wp2_with fail
    go_ret
    exact ⟨rfl, hbb⟩
  have m2 : msr (c 2) ≤ 1048576 := by omega
  have m3 : msr (c 3) ≤ 1048576 := by omega
  have m4 : msr (c 4) ≤ 1048576 := by omega
  have m5 : msr (c 5) ≤ 1048576 := by omega
  have m8 : msr (c 8) ≤ 1048576 := by omega
  have m9 : msr (c 9) ≤ 1048576 := by omega
  have m10 : msr (c 10) ≤ 1048576 := by omega
  have m11 : msr (c 11) ≤ 1048576 := by omega
  replace hS := hS (by omega)
  replace hI := hI (by omega)
  obtain ⟨z, hz⟩ : ∃ z : Int, z = 1048576 - ((msr (c 2) + msr (c 3) + msr (c 4) + msr (c 5)) + c7.size + msr (c 8) + msr (c 9) + msr (c 10) + msr (c 11) : Int) := ⟨_, rfl⟩
  have hz0 : decide (z < 0) = false := by simp; omega
  simp only [(leftOf_yes hbig).trans hz.symm] at hZ
  clear hz hbig
  have hVV : (V != V) = false := by simp
  go_enter Tryz.func3, Tryz.ntmps3
  go_wp2_with fail
  have HA := BX.new w 31 #[.int .i64 c0, .bool c1, c2, c3, c4, c5, .int .i64 c6, .string c7, c8, c9, c10, c11]
  generalize w.alloc (.cells #[.int .i64 c0, .bool c1, c2, c3, c4, c5, .int .i64 c6, .string c7, c8, c9, c10, c11] 31) = v0 at HA ⊢
  refine (hZ _ HA.b).mono ?_
  rintro e v1 ⟨rfl, hb⟩
  replace HA := HA.next hb
  clear hb hZ
  have a0 := HA.box.cell (i := 0) (v := .int .i64 c0) rfl
  have a1 := HA.box.cell (i := 1) (v := .bool c1) rfl
  have a2 := HA.box.cell (i := 2) (v := c2) rfl
  have a3 := HA.box.cell (i := 3) (v := c3) rfl
  have a4 := HA.box.cell (i := 4) (v := c4) rfl
  have a5 := HA.box.cell (i := 5) (v := c5) rfl
  have a6 := HA.box.cell (i := 6) (v := .int .i64 c6) rfl
  have a7 := HA.box.cell (i := 7) (v := .string c7) rfl
  have a8 := HA.box.cell (i := 8) (v := c8) rfl
  have a9 := HA.box.cell (i := 9) (v := c9) rfl
  have a10 := HA.box.cell (i := 10) (v := c10) rfl
  have a11 := HA.box.cell (i := 11) (v := c11) rfl
  go_wp2_with fail
  refine (toStmt_any c0 c1 c2 c3 c4 c5 c6 c7 c8 c9 c10 c11 (c 2) (c 3) (c 4) (c 5) (c 8) (c 9) (c 10) (c 11) _ (toAll (c 2) _ rfl) (toAll (c 3) _ rfl) (toAll (c 4) _ rfl) (toAll (c 5) _ rfl) (toRows_all (c 8)) (toNames_all (c 9)) (toAll (c 10) _ rfl) (toAll (c 11) _ rfl) (r2.later HA.b) q2 m2 (r3.later HA.b) q3 m3 (r4.later HA.b) q4 m4 (r5.later HA.b) q5 m5 (r8.later HA.b) q8 m8 (r9.later HA.b) q9 m9 (r10.later HA.b) q10 m10 (r11.later HA.b) q11 m11).mono ?_
  rintro e v2 ⟨yy2, yy3, yy4, yy5, yy8, yy9, yy10, yy11, rfl, ys2, ys3, ys4, ys5, ys8, ys9, ys10, ys11, hb⟩
  obtain ⟨ya2, yn2, yc2, rfl⟩ := ys2.slice_of q2 rfl
  replace ys2 := ys2.low (Nat.zero_le _)
  obtain ⟨ya3, yn3, yc3, rfl⟩ := ys3.slice_of q3 rfl
  replace ys3 := ys3.low (Nat.zero_le _)
  obtain ⟨ya4, yn4, yc4, rfl⟩ := ys4.slice_of q4 rfl
  replace ys4 := ys4.low (Nat.zero_le _)
  obtain ⟨ya5, yn5, yc5, rfl⟩ := ys5.slice_of q5 rfl
  replace ys5 := ys5.low (Nat.zero_le _)
  obtain ⟨ya8, yn8, yc8, rfl⟩ := ys8.slice_of q8 rfl
  replace ys8 := ys8.low (Nat.zero_le _)
  obtain ⟨ya9, yn9, yc9, rfl⟩ := ys9.slice_of q9 rfl
  replace ys9 := ys9.low (Nat.zero_le _)
  obtain ⟨ya10, yn10, yc10, rfl⟩ := ys10.slice_of q10 rfl
  replace ys10 := ys10.low (Nat.zero_le _)
  obtain ⟨ya11, yn11, yc11, rfl⟩ := ys11.slice_of q11 rfl
  replace ys11 := ys11.low (Nat.zero_le _)
  replace HA := HA.next hb
  clear hb a0 a1 a2 a3 a4 a5 a6 a7 a8 a9 a10 a11
  go_wp2_with fail
  refine (hS _ _ _ _ _ _ _ _ _ ys2 ys3 ys4 ys5 ys8 ys9 ys10 ys11).mono ?_
  rintro e v3 ⟨rfl, hb⟩
  replace HA := HA.next hb
  clear hb hS ys2 ys3 ys4 ys5 ys8 ys9 ys10 ys11
  have a0 := HA.box.cell (i := 0) (v := .int .i64 c0) rfl
  have a1 := HA.box.cell (i := 1) (v := .bool c1) rfl
  have a2 := HA.box.cell (i := 2) (v := c2) rfl
  have a3 := HA.box.cell (i := 3) (v := c3) rfl
  have a4 := HA.box.cell (i := 4) (v := c4) rfl
  have a5 := HA.box.cell (i := 5) (v := c5) rfl
  have a6 := HA.box.cell (i := 6) (v := .int .i64 c6) rfl
  have a7 := HA.box.cell (i := 7) (v := .string c7) rfl
  have a8 := HA.box.cell (i := 8) (v := c8) rfl
  have a9 := HA.box.cell (i := 9) (v := c9) rfl
  have a10 := HA.box.cell (i := 10) (v := c10) rfl
  have a11 := HA.box.cell (i := 11) (v := c11) rfl
  go_wp2_with fail
  refine (toStmt_any c0 c1 c2 c3 c4 c5 c6 c7 c8 c9 c10 c11 (c 2) (c 3) (c 4) (c 5) (c 8) (c 9) (c 10) (c 11) _ (toAll (c 2) _ rfl) (toAll (c 3) _ rfl) (toAll (c 4) _ rfl) (toAll (c 5) _ rfl) (toRows_all (c 8)) (toNames_all (c 9)) (toAll (c 10) _ rfl) (toAll (c 11) _ rfl) (r2.later HA.b) q2 m2 (r3.later HA.b) q3 m3 (r4.later HA.b) q4 m4 (r5.later HA.b) q5 m5 (r8.later HA.b) q8 m8 (r9.later HA.b) q9 m9 (r10.later HA.b) q10 m10 (r11.later HA.b) q11 m11).mono ?_
  rintro e v4 ⟨zy2, zy3, zy4, zy5, zy8, zy9, zy10, zy11, rfl, zs2, zs3, zs4, zs5, zs8, zs9, zs10, zs11, hb⟩
  obtain ⟨za2, zn2, zc2, rfl⟩ := zs2.slice_of q2 rfl
  replace zs2 := zs2.low (Nat.zero_le _)
  obtain ⟨za3, zn3, zc3, rfl⟩ := zs3.slice_of q3 rfl
  replace zs3 := zs3.low (Nat.zero_le _)
  obtain ⟨za4, zn4, zc4, rfl⟩ := zs4.slice_of q4 rfl
  replace zs4 := zs4.low (Nat.zero_le _)
  obtain ⟨za5, zn5, zc5, rfl⟩ := zs5.slice_of q5 rfl
  replace zs5 := zs5.low (Nat.zero_le _)
  obtain ⟨za8, zn8, zc8, rfl⟩ := zs8.slice_of q8 rfl
  replace zs8 := zs8.low (Nat.zero_le _)
  obtain ⟨za9, zn9, zc9, rfl⟩ := zs9.slice_of q9 rfl
  replace zs9 := zs9.low (Nat.zero_le _)
  obtain ⟨za10, zn10, zc10, rfl⟩ := zs10.slice_of q10 rfl
  replace zs10 := zs10.low (Nat.zero_le _)
  obtain ⟨za11, zn11, zc11, rfl⟩ := zs11.slice_of q11 rfl
  replace zs11 := zs11.low (Nat.zero_le _)
  replace HA := HA.next hb
  clear hb a0 a1 a2 a3 a4 a5 a6 a7 a8 a9 a10 a11
  have HX := RowAt.new v4 42 #[.int .i64 c0, .bool c1, .slice za2 zn2 zc2, .slice za3 zn3 zc3, .slice za4 zn4 zc4, .slice za5 zn5 zc5, .int .i64 c6, .string c7, .slice za8 zn8 zc8, .slice za9 zn9 zc9, .slice za10 zn10 zc10, .slice za11 zn11 zc11]
  have hbx : Below v4.heap.size v4 (v4.alloc (.cells #[.int .i64 c0, .bool c1, .slice za2 zn2 zc2, .slice za3 zn3 zc3, .slice za4 zn4 zc4, .slice za5 zn5 zc5, .int .i64 c6, .string c7, .slice za8 zn8 zc8, .slice za9 zn9 zc9, .slice za10 zn10 zc10, .slice za11 zn11 zc11] 42)) := (Below.refl _ _).alloc (Nat.le_refl _) _
  have hxl : v4.heap.size = v4.heap.size := rfl
  go_wp2_with fail
  replace HA := HA.next hbx
  replace zs2 := zs2.later hbx
  replace zs3 := zs3.later hbx
  replace zs4 := zs4.later hbx
  replace zs5 := zs5.later hbx
  replace zs8 := zs8.later hbx
  replace zs9 := zs9.later hbx
  replace zs10 := zs10.later hbx
  replace zs11 := zs11.later hbx
  clear hbx hxl
  generalize v4.alloc (.cells #[.int .i64 c0, .bool c1, .slice za2 zn2 zc2, .slice za3 zn3 zc3, .slice za4 zn4 zc4, .slice za5 zn5 zc5, .int .i64 c6, .string c7, .slice za8 zn8 zc8, .slice za9 zn9 zc9, .slice za10 zn10 zc10, .slice za11 zn11 zc11] 42) = v5 at HX HA zs2 zs3 zs4 zs5 zs8 zs9 zs10 zs11 ⊢
  generalize v4.heap.size = X at HX ⊢
  refine (hI _ _ _ _ _ _ _ _ _ zs2 zs3 zs4 zs5 zs8 zs9 zs10 zs11).mono ?_
  rintro e v6 ⟨rfl, hb⟩
  replace HA := HA.next hb
  replace HX := HX.later hb
  replace zs2 := zs2.later hb
  replace zs3 := zs3.later hb
  replace zs4 := zs4.later hb
  replace zs5 := zs5.later hb
  replace zs8 := zs8.later hb
  replace zs9 := zs9.later hb
  replace zs10 := zs10.later hb
  replace zs11 := zs11.later hb
  clear hb hI
  have a0 := HA.box.cell (i := 0) (v := .int .i64 c0) rfl
  have a1 := HA.box.cell (i := 1) (v := .bool c1) rfl
  have a2 := HA.box.cell (i := 2) (v := c2) rfl
  have a3 := HA.box.cell (i := 3) (v := c3) rfl
  have a4 := HA.box.cell (i := 4) (v := c4) rfl
  have a5 := HA.box.cell (i := 5) (v := c5) rfl
  have a6 := HA.box.cell (i := 6) (v := .int .i64 c6) rfl
  have a7 := HA.box.cell (i := 7) (v := .string c7) rfl
  have a8 := HA.box.cell (i := 8) (v := c8) rfl
  have a9 := HA.box.cell (i := 9) (v := c9) rfl
  have a10 := HA.box.cell (i := 10) (v := c10) rfl
  have a11 := HA.box.cell (i := 11) (v := c11) rfl
  have x0 := HX.cell (i := 0) (v := .int .i64 c0) rfl
  have x1 := HX.cell (i := 1) (v := .bool c1) rfl
  have x2 := HX.cell (i := 2) (v := .slice za2 zn2 zc2) rfl
  have x3 := HX.cell (i := 3) (v := .slice za3 zn3 zc3) rfl
  have x4 := HX.cell (i := 4) (v := .slice za4 zn4 zc4) rfl
  have x5 := HX.cell (i := 5) (v := .slice za5 zn5 zc5) rfl
  have x6 := HX.cell (i := 6) (v := .int .i64 c6) rfl
  have x7 := HX.cell (i := 7) (v := .string c7) rfl
  have x8 := HX.cell (i := 8) (v := .slice za8 zn8 zc8) rfl
  have x9 := HX.cell (i := 9) (v := .slice za9 zn9 zc9) rfl
  have x10 := HX.cell (i := 10) (v := .slice za10 zn10 zc10) rfl
  have x11 := HX.cell (i := 11) (v := .slice za11 zn11 zc11) rfl
  go_wp2_with fail
  have hT := fun v (h : Below v6.heap.size v6 v) => toStmt_any c0 c1 c2 c3 c4 c5 c6 c7 c8 c9 c10 c11 (c 2) (c 3) (c 4) (c 5) (c 8) (c 9) (c 10) (c 11) v (toAll (c 2) _ rfl) (toAll (c 3) _ rfl) (toAll (c 4) _ rfl) (toAll (c 5) _ rfl) (toRows_all (c 8)) (toNames_all (c 9)) (toAll (c 10) _ rfl) (toAll (c 11) _ rfl) (r2.later (HA.b.trans (h.mono HA.b.size))) q2 m2 (r3.later (HA.b.trans (h.mono HA.b.size))) q3 m3 (r4.later (HA.b.trans (h.mono HA.b.size))) q4 m4 (r5.later (HA.b.trans (h.mono HA.b.size))) q5 m5 (r8.later (HA.b.trans (h.mono HA.b.size))) q8 m8 (r9.later (HA.b.trans (h.mono HA.b.size))) q9 m9 (r10.later (HA.b.trans (h.mono HA.b.size))) q10 m10 (r11.later (HA.b.trans (h.mono HA.b.size))) q11 m11
  have hE := fun (k2 : Value) (k3 : Value) (k4 : Value) (k5 : Value) (k8 : Value) (k9 : Value) (k10 : Value) (k11 : Value) v (h : Below v6.heap.size v6 v) (hk2 : Rd v 0 k2 (c 2)) (hk3 : Rd v 0 k3 (c 3)) (hk4 : Rd v 0 k4 (c 4)) (hk5 : Rd v 0 k5 (c 5)) (hk8 : Rd v 0 k8 (c 8)) (hk9 : Rd v 0 k9 (c 9)) (hk10 : Rd v 0 k10 (c 10)) (hk11 : Rd v 0 k11 (c 11)) => eqStmt_any c0 c1 (.slice za2 zn2 zc2) (.slice za3 zn3 zc3) (.slice za4 zn4 zc4) (.slice za5 zn5 zc5) c6 c7 (.slice za8 zn8 zc8) (.slice za9 zn9 zc9) (.slice za10 zn10 zc10) (.slice za11 zn11 zc11) k2 k3 k4 k5 k8 k9 k10 k11 (c 2) (c 3) (c 4) (c 5) (c 8) (c 9) (c 10) (c 11) v (eqAll (c 2) _ rfl) (eqAll (c 3) _ rfl) (eqAll (c 4) _ rfl) (eqAll (c 5) _ rfl) (eqRows_all (c 8)) (eqNames_all (c 9)) (eqAll (c 10) _ rfl) (eqAll (c 11) _ rfl) (zs2.later h) hk2 q2 (zs3.later h) hk3 q3 (zs4.later h) hk4 q4 (zs5.later h) hk5 q5 (zs8.later h) hk8 q8 (zs9.later h) hk9 q9 (zs10.later h) hk10 q10 (zs11.later h) hk11 q11
  go_region_with (first
    | (go_at_call 6; refine (hT _ (Below.refl _ _).drew).mono ?_; rintro e v7 ⟨u2, u3, u4, u5, u8, u9, u10, u11, rfl, us2, us3, us4, us5, us8, us9, us10, us11, hb7⟩; have hX7 := RowAt.later (W := v6.drew) HX hb7; have xx0 := hX7.cell (i := 0) (v := .int .i64 c0) rfl; have xx1 := hX7.cell (i := 1) (v := .bool c1) rfl; have xx2 := hX7.cell (i := 2) (v := .slice za2 zn2 zc2) rfl; have xx3 := hX7.cell (i := 3) (v := .slice za3 zn3 zc3) rfl; have xx4 := hX7.cell (i := 4) (v := .slice za4 zn4 zc4) rfl; have xx5 := hX7.cell (i := 5) (v := .slice za5 zn5 zc5) rfl; have xx6 := hX7.cell (i := 6) (v := .int .i64 c6) rfl; have xx7 := hX7.cell (i := 7) (v := .string c7) rfl; have xx8 := hX7.cell (i := 8) (v := .slice za8 zn8 zc8) rfl; have xx9 := hX7.cell (i := 9) (v := .slice za9 zn9 zc9) rfl; have xx10 := hX7.cell (i := 10) (v := .slice za10 zn10 zc10) rfl; have xx11 := hX7.cell (i := 11) (v := .slice za11 zn11 zc11) rfl)
    | (go_at_call 8; refine (hE _ _ _ _ _ _ _ _ _ ((Below.refl _ _).drew.trans (hb7.mono (Nat.le_refl _))) (us2.low (Nat.zero_le _)) (us3.low (Nat.zero_le _)) (us4.low (Nat.zero_le _)) (us5.low (Nat.zero_le _)) (us8.low (Nat.zero_le _)) (us9.low (Nat.zero_le _)) (us10.low (Nat.zero_le _)) (us11.low (Nat.zero_le _))).mono ?_; rintro e v8 ⟨rfl, hb8⟩))
  all_goals
    have hbb := (HA.b.trans ((Below.refl v6.heap.size v6).drew.mono HA.b.size)).trans ((hb7.trans (hb8.mono hb7.size)).mono (by have := HA.b.size; exact this))
    go_wp2_with fail
    go_ret
    exact ⟨rfl, hbb⟩
abbrev Nd := Nat → Dat
def shift (d : Nat) (p : Nat × Nd) : Nat × Nd := (p.1 + d, p.2)
def preA : Alg (List (Nat × Nd)) := ⟨(· ++ ·), [], fun c l => (0, c) :: l.map (shift 1), fun _ l => l⟩
theorem preA_good : preA.Good := ⟨fun a b c => List.append_assoc a b c, fun _ => rfl, fun a => List.append_nil a⟩
theorem preA_of {β : Type} (g : β → List (Nat × Nd)) : ∀ l : List β, preA.of (l.map g) = l.flatMap g
  | [] => rfl
  | a :: l => by rw [List.map_cons, preA_good.of_cons, preA_of g l]; rfl
def pre (d : Nat) (c : Nd) : List (Nat × Nd) := (foldE preA c).map (shift d)
def parts (c : Nd) : List Nd := (c 8).els ++ (c 9).els.flatMap exprsOf
theorem els_fits {d : Dat} {ty : Ty} (h : Fits d ty) {c : Nd} (hc : c ∈ d.els) : ∀ j (hj : j < (rowTy ty).length), Fits (c j) ((rowTy ty)[j]) := by
  cases d with
  | v x => simp [Dat.els, Dat.len] at hc
  | sl n k f =>
    obtain ⟨_, _, _, hfit⟩ := h
    simp only [Dat.els, Dat.len, Dat.el, List.mem_map, List.mem_range] at hc
    obtain ⟨i, hi, rfl⟩ := hc
    exact fun j hj => hfit i hi j hj
theorem fold_flatQ {α : Type} {G : Alg α} {d : Dat} (h : Fits d .queries) : fold G d .queries = G.of (d.els.map (foldQ G)) := by
  cases d with
  | v x => exact h.elim
  | sl n k f => exact fold_queries G
theorem preQ {q : Nd} (h : ∀ j (hj : j < (rowTy .queries).length), Fits (q j) ((rowTy .queries)[j])) : foldQ preA q = (exprsOf q).flatMap (foldE preA) := by
  rw [foldQ_is preA_good (h 1 (by decide)) (h 2 (by decide)) (h 3 (by decide)) (h 4 (by decide)), preA_of]
  rfl
theorem flatMap_congr' {α β : Type} {f g : α → List β} : ∀ {l : List α}, (∀ a ∈ l, f a = g a) → l.flatMap f = l.flatMap g
  | [], _ => rfl
  | a :: l, h => by
    rw [List.flatMap_cons, List.flatMap_cons, h a (List.mem_cons_self ..), flatMap_congr' fun b hb => h b (List.mem_cons_of_mem _ hb)]
theorem pre_eq (d : Nat) {c : Nd} (h8 : Fits (c 8) .exprs) (h9 : Fits (c 9) .queries) : pre d c = (d, c) :: (parts c).flatMap (pre (d + 1)) := by
  have e : foldE preA c = (0, c) :: ((parts c).flatMap (foldE preA)).map (shift 1) := by
    have e8 := fold_flat preA h8
    have e9 := fold_flatQ (G := preA) h9
    rw [preA_of] at e8 e9
    rw [flatMap_congr' fun q hq => preQ (els_fits h9 hq)] at e9
    unfold foldE parts
    rw [e8, e9, List.flatMap_append, List.flatMap_assoc]
    rfl
  unfold pre
  rw [e, List.map_cons, List.map_map, List.map_flatMap]
  have hs : shift d ∘ shift 1 = shift (d + 1) := by funext p; show (p.1 + 1 + d, p.2) = _; rw [Nat.add_assoc, Nat.add_comm 1 d]; rfl
  rw [hs]
  show (0 + d, c) :: _ = _
  rw [Nat.zero_add]
theorem fold_hom {α β : Type} {G : Alg α} {H : Alg β} (h : α → β) (hu : ∀ a b, h (G.up a b) = H.up (h a) (h b)) (hz : h G.z = H.z)
    (hn : ∀ c a, h (G.node c a) = H.node c (h a)) (hq : ∀ c a, h (G.qn c a) = H.qn c (h a)) : ∀ (d : Dat) (ty : Ty), h (fold G d ty) = fold H d ty
  | .v _, ty => by cases ty <;> exact hz
  | .sl n k f, ty => by
    have IH : ∀ i j ty, h (fold G (f i j) ty) = fold H (f i j) ty := fun i j ty => fold_hom h hu hz hn hq (f i j) ty
    have hof : ∀ (l : List α) (a : α), h (l.foldl G.up a) = (l.map h).foldl H.up (h a) := fun l => by
      induction l with
      | nil => intro a; rfl
      | cons b l ih => intro a; rw [List.foldl_cons, ih, hu]; rfl
    have hof' : ∀ l : List α, h (G.of l) = H.of (l.map h) := fun l => by unfold Alg.of; rw [hof, hz]
    cases ty
    case int => exact hz
    case bool => exact hz
    case str => exact hz
    case names => exact hz
    case rows => rw [fold, fold, hof', List.map_map]; congr 2; funext i; exact IH _ _ _
    case exprs => rw [fold, fold, hof', List.map_map]; congr 2; funext i; show h (G.node _ _) = _; rw [hn, hu, IH, IH]
    case items =>
      rw [fold, fold, hof', List.map_map]; congr 2; funext i
      show h (if (f i 0).tru then G.z else _) = _
      by_cases ht : (f i 0).tru
      · rw [if_pos ht, if_pos ht]; exact hz
      · rw [if_neg ht, if_neg ht, hn, hu, IH, IH]
    case sources => rw [fold, fold, hof', List.map_map]; congr 2; funext i; exact IH _ _ _
    case keys => rw [fold, fold, hof', List.map_map]; congr 2; funext i; show h (G.node _ _) = _; rw [hn, hu, IH, IH]
    case queries => rw [fold, fold, hof', List.map_map]; congr 2; funext i; show h (G.qn _ _) = _; rw [hq, hu, hu, hu, IH, IH, IH, IH]
theorem fold_homE {α β : Type} {G : Alg α} {H : Alg β} (h : α → β) (hu : ∀ a b, h (G.up a b) = H.up (h a) (h b)) (hz : h G.z = H.z)
    (hn : ∀ c a, h (G.node c a) = H.node c (h a)) (hq : ∀ c a, h (G.qn c a) = H.qn c (h a)) (c : Nd) : h (foldE G c) = foldE H c := by
  unfold foldE; rw [hn, hu, fold_hom h hu hz hn hq, fold_hom h hu hz hn hq]
def mx (l : List (Nat × Nd)) : Nat := l.foldr (fun p m => max p.1 m) 0
theorem mx_append (l r : List (Nat × Nd)) : mx (l ++ r) = max (mx l) (mx r) := by
  induction l with
  | nil => show mx r = max 0 (mx r); omega
  | cons a l ih => show max a.1 (mx (l ++ r)) = max (max a.1 (mx l)) (mx r); rw [ih]; omega
theorem mx_up (d : Nat) (l : List (Nat × Nd)) : max (d + 1) (mx (l.map (shift (d + 1 + 1)))) = max d (mx (l.map (shift (d + 1)))) + 1 := by
  induction l with
  | nil => show max (d + 1) 0 = max d 0 + 1; omega
  | cons a l ih =>
    show max (d + 1) (max (a.1 + (d + 1 + 1)) (mx (l.map (shift (d + 1 + 1))))) = max d (max (a.1 + (d + 1)) (mx (l.map (shift (d + 1))))) + 1
    omega
theorem mx_pre (c : Nd) : mx (pre 1 c) = foldE depA c := by
  refine fold_homE (G := preA) (H := depA) (fun l => mx (l.map (shift 1))) (fun a b => ?_) rfl (fun c l => ?_) (fun _ _ => rfl) c
  · show mx ((a ++ b).map _) = max _ _
    rw [List.map_append, mx_append]
  · have h := mx_up 0 l
    show max (0 + 1) (mx ((l.map (shift 1)).map (shift 1))) = mx (l.map (shift 1)) + 1
    rw [List.map_map]
    have hs : shift 1 ∘ shift 1 = shift (0 + 1 + 1) := by funext p; rfl
    rw [hs, h]
    show max 0 (mx (l.map (shift (0 + 1)))) + 1 = mx (l.map (shift 1)) + 1
    rw [Nat.zero_max]
theorem len_pre (d : Nat) (c : Nd) : (pre d c).length = foldE sizA c := by
  unfold pre
  rw [List.length_map]
  exact fold_homE (G := preA) (H := sizA) List.length (fun a b => List.length_append) rfl (fun c l => by show ((0, c) :: l.map _).length = l.length + 1; simp) (fun _ _ => rfl) c
theorem mx_flat (l : List Nd) : mx (l.flatMap (pre 1)) = depA.of (l.map (foldE depA)) := by
  induction l with
  | nil => rfl
  | cons c l ih => rw [List.flatMap_cons, mx_append, ih, mx_pre, List.map_cons, depA_good.of_cons]; rfl
theorem len_flat (d : Nat) (l : List Nd) : (l.flatMap (pre d)).length = sizA.of (l.map (foldE sizA)) := by
  induction l with
  | nil => rfl
  | cons c l ih => rw [List.flatMap_cons, List.length_append, ih, len_pre, List.map_cons, sizA_good.of_cons]; rfl
theorem take_next {α : Type} {l : List α} {i : Nat} {x : α} (h : l[i]? = some x) : l.take (i + 1) = l.take i ++ [x] := by
  rw [List.take_add_one, h]; rfl
structure But (E : Nat → Prop) (W W' : World) : Prop where
  os : W'.os = W.os
  tape : W'.tape = W.tape
  output : W'.output = W.output
  size : W.heap.size ≤ W'.heap.size
  block : ∀ k, k < W.heap.size → ¬ E k → W'.heap[k]? = W.heap[k]?
theorem But.refl (E : Nat → Prop) (W : World) : But E W W := ⟨rfl, rfl, rfl, Nat.le_refl _, fun _ _ _ => rfl⟩
theorem But.trans {E : Nat → Prop} {a b c : World} (h : But E a b) (k : But E b c) : But E a c :=
  ⟨k.os.trans h.os, k.tape.trans h.tape, k.output.trans h.output, Nat.le_trans h.size k.size, fun i hi hn => (k.block i (Nat.lt_of_lt_of_le hi h.size) hn).trans (h.block i hi hn)⟩
theorem But.wide {E E' : Nat → Prop} {a b : World} (h : But E a b) (hE : ∀ k, E k → E' k) : But E' a b := ⟨h.os, h.tape, h.output, h.size, fun k hk hn => h.block k hk fun he => hn (hE k he)⟩
theorem But.below {E : Nat → Prop} {a b : World} (h : Below a.heap.size a b) : But E a b := ⟨h.os, h.tape, h.output, h.size, fun k hk _ => h.block k hk⟩
theorem But.setCell {E : Nat → Prop} (W : World) (p : Addr) (u : Value) (hE : E p.block) : But E W (W.setCell p u) :=
  ⟨rfl, rfl, rfl, by simp [World.setCell], fun k _ hn => Below.heap_setCell _ _ _ _ (fun e => hn (e ▸ hE))⟩
theorem But.alloc {E : Nat → Prop} (W : World) (o : Obj) : But E W (W.alloc o) := .below ((Below.refl _ W).alloc (Nat.le_refl _) o)
theorem But.drew {E : Nat → Prop} (W : World) : But E W W.drew := ⟨rfl, rfl, rfl, Nat.le_refl _, fun _ _ _ => rfl⟩
theorem But.put {E : Nat → Prop} (W : World) (l : Nat) (o : Obj) (hE : E l) : But E W (W.putObj l o) :=
  ⟨rfl, rfl, rfl, by simp [World.putObj], fun k _ hn => World.putObj_heap_other (fun e => hn (e ▸ hE))⟩
theorem But.low {E : Nat → Prop} {a b : World} (h : But E a b) {B : Nat} (hB : B ≤ a.heap.size) (hE : ∀ k, k < B → ¬ E k) : Below B a b :=
  ⟨h.os, h.tape, h.output, h.size, fun k hk => h.block k (Nat.lt_of_lt_of_le hk hB) (hE k hk)⟩
theorem below_put {B : Nat} (W : World) (l : Nat) (o : Obj) (hB : B ≤ l) : Below B W (W.putObj l o) :=
  ⟨rfl, rfl, rfl, by simp [World.putObj], fun k hk => World.putObj_heap_other (by omega)⟩
def SeqV {α : Type} (F : Fence) (n : Nat) (P : Program) (g : Nat) (lb : Array Value) (xs : List α) (ok : α → Array Value → Prop) (go : α → Prop) (E : Nat → Prop) (w : World) : Prop :=
  ∀ (l : Nat) (J Jx : Nat → World → Prop) (Ew : Nat → Prop) (W : World), Below w.heap.size w W → (∀ k, Ew k → E k ∨ (w.heap.size ≤ k ∧ k < W.heap.size)) →
    (∀ i A B, J i A → Below W.heap.size A B → J i B) → (∀ i A B, Jx i A → Below W.heap.size A B → Jx i B) →
    (∀ i x v W1, xs[i]? = some x → ok x v → J i W1 → YieldAt F (n - 1) P l v W1 fun e W' =>
      (e = .returned (.bool true) ∧ go x ∧ J (i + 1) W' ∧ But Ew W1 W') ∨ (e = .returned (.bool false) ∧ Jx (i + 1) W')) →
    J 0 W →
    CallsIn F n P g (#[.func (.yield l) #[] #[]] ++ lb) W fun e W' => (∃ v, e = .returned v) ∧ (J xs.length W' ∨ ∃ i, i ≤ xs.length ∧ Jx i W')
def postV (E : Nat → Prop) (gx : Prop) (I : Nat → World → Prop) (Ix : Code → Nat → World → Prop) (i : Nat) (W : World) : Exit → Act → World → Prop
  | .normal, _, W' => But E W W' ∧ gx ∧ I i W'
  | .ret, _, W' => But E W W' ∧ Ix .ret i W'
  | .exit id, _, W' => But E W W' ∧ Ix (.exit id) i W'
  | .goto t, _, W' => But E W W' ∧ Ix (.goto t) i W'
  | .panic _, _, _ => False
  | .outgrown, _, _ => False
theorem wpIn_rangeV {F : Fence} {n : Nat} {P : Program} {α : Type} {g : Operand} {ps : Array Tmp} {assign body : Code} {Q : Exit → Act → World → Prop} {a : Act} {w : World}
    (hro : F.round = none) (h1 : 1 ≤ n) {gf : Nat} {lb : Array Value} (hg : a.eval g = .func (.func gf) #[] lb) (hFg : F.fn gf) (eg : ∀ args w, (callFunc gf args).run P w = .ok (.enter gf args) w)
    {xs : List α} {ok : α → Array Value → Prop} {go : α → Prop} {E : Nat → Prop} (hseq : SeqV F (n - 1) P gf lb xs ok go E w) (hE : ∀ k, E k → k < w.heap.size) (hps : ∀ x v, ok x v → v.size = ps.size)
    (I : Nat → World → Prop) (Ix : Code → Nat → World → Prop) (hI : ∀ i A B, I i A → Below w.heap.size A B → I i B) (hIx : ∀ c i A B, Ix c i A → Below w.heap.size A B → Ix c i B) (h0 : I 0 w)
    (Ax : α → Act → World → Prop) (hAx : ∀ x a₁ (A B : World), Ax x a₁ A → (∀ k, w.heap.size + 1 < k → B.heap[k]? = A.heap[k]?) → Ax x a₁ B)
    (hassign : ∀ (l : Nat) (x : α) (v : Array Value) (W : World) (K : Act → World → Prop), ok x v → w.heap.size + 1 < W.heap.size → (∀ a₁ W', Ax x a₁ W' → Below W.heap.size W W' → K a₁ W') →
      assign.wpIn (F.inRound l) (n - 1 - 1) P (Exit.then K (fun _ _ _ => False)) { tmps := (ps.zip v).foldl (fun t (p, v) => t.setIfInBounds p v) a.tmps, defers := [] } W)
    (hbody : ∀ (l : Nat) (i : Nat) (x : α) (a₁ : Act) (W : World), xs[i]? = some x → I i W → w.heap.size < W.heap.size → Ax x a₁ W → body.wpIn (F.inRound l) (n - 1 - 1) P (postV E (go x) I Ix (i + 1) W) a₁ W)
    (hdone : ∀ (D : Nat) (W : World), w.heap.size ≤ D → I xs.length W → W.heap[D]? = some (.deferred (some [])) → Q .normal { a with defers := { target := .collected D, args := #[] } :: a.defers } W)
    (hstop : ∀ (D : Nat) (c : Code) (i : Nat) (W : World), w.heap.size ≤ D → i ≤ xs.length → Ix c i W → W.heap[D]? = some (.deferred (some [])) → c.wpIn F n P Q { a with defers := { target := .collected D, args := #[] } :: a.defers } W) :
    (Code.rangeFunc g ps assign body).wpIn F n P Q a w := by
  refine wpIn_rangeFunc ?_
  intro fn hfn
  rw [hro]
  obtain ⟨rec, hrec⟩ : ∃ rec : LoopState → Option Code → Loop, rec = fun st pe => { state := st, pending := pe, fn, tmps := a.tmps, params := ps, assign, body, defers := w.heap.size } := ⟨_, rfl⟩
  obtain ⟨W1, hW1⟩ : ∃ W1, (w.alloc (.deferred (some []))).alloc (.loop (rec .ready none)) = W1 := ⟨_, rfl⟩
  have hL1 : W1.heap[w.heap.size + 1]? = some (.loop (rec .ready none)) := by
    rw [← hW1]; have := World.alloc_heap_new (w.alloc (.deferred (some []))) (.loop (rec .ready none)); rwa [World.size_alloc] at this
  have hK1 : W1.heap[w.heap.size]? = some (.deferred (some [])) := by
    rw [← hW1]; exact (Below.heap_alloc _ _ _ (by simp)).trans (World.alloc_heap_new w _)
  have hb1 : Below w.heap.size w W1 := by
    rw [← hW1]; exact ((Below.refl _ w).alloc (Nat.le_refl _) _).alloc (by simp) _
  have hI1 : I 0 W1 := hI _ _ _ h0 hb1
  have hs1 : W1.heap.size = w.heap.size + 2 := by rw [← hW1]; simp
  refine ⟨w.heap.size + 1, [{ target := .collected w.heap.size, args := #[] }], W1, { target := .fn (.func gf) lb, args := #[.func (.yield (w.heap.size + 1)) #[] #[]] }, W1, gf,
    #[.func (.yield (w.heap.size + 1)) #[] #[]] ++ lb, W1, ?_, ?_, ?_, ?_, fun _ => h1, ?_⟩
  · rw [← hW1, hrec]; exact run_enterLoop_outer _ _ _ _ _
  · simp only [resolve, hg]
    simp [go_sem]
  · intro f' hf'; simp [Target.leads] at hf'; subst hf'; exact hFg
  · simp [invoke, go_sem, eg]
  · refine (hseq (w.heap.size + 1)
      (fun i W => I i W ∧ W.heap[w.heap.size + 1]? = some (.loop (rec .ready none)) ∧ W.heap[w.heap.size]? = some (.deferred (some [])))
      (fun i W => ∃ c, i ≤ xs.length ∧ Ix c i W ∧ W.heap[w.heap.size + 1]? = some (.loop (rec .done (some c))) ∧ W.heap[w.heap.size]? = some (.deferred (some [])))
      (fun k => E k ∨ k = w.heap.size + 1) W1 hb1 (fun k hk => hk.imp id fun e => ⟨by omega, by omega⟩)
      (fun i A B hs hg' => ⟨hI i A B hs.1 (hg'.mono (by omega)), (hg'.block _ (by omega)).trans hs.2.1, (hg'.block _ (by omega)).trans hs.2.2⟩)
      (fun i A B hs hg' => by
        obtain ⟨c, hle, hc, hl, hk⟩ := hs
        exact ⟨c, hle, hIx c i A B hc (hg'.mono (by omega)), (hg'.block _ (by omega)).trans hl, (hg'.block _ (by omega)).trans hk⟩)
      ?_ ⟨hI1, hL1, hK1⟩).mono ?_
    · -- one round
      rintro i x v W hx hok ⟨hi, hl, hk⟩
      have hlt : w.heap.size + 1 < W.heap.size := (Array.getElem?_eq_some_iff.1 hl).1
      have hy := run_yield (P := P) (args := v) hl (by rw [hrec]; exact hps x v hok)
      rw [hrec] at hy
      have hilen : i + 1 ≤ xs.length := (List.getElem?_eq_some_iff.1 hx).1
      refine ⟨fn, _, assign, body, hy, roundIn_of_wpIn hfn (hassign _ x v W _ hok hlt fun a₁ W' ha₁ hbW => ⟨_, run_beginRound ((hbW.block _ hlt).trans hl) (by rw [hrec]), ?_⟩)⟩
      have hl' := (hbW.block _ hlt).trans hl
      have hk' := (hbW.block w.heap.size (by omega)).trans hk
      have hlt' : w.heap.size + 1 < W'.heap.size := Nat.lt_of_lt_of_le hlt hbW.size
      have bW : But (fun k => E k ∨ k = w.heap.size + 1) W W' := But.below hbW
      replace hi : I i W' := hI i _ _ hi (hbW.mono (by omega))
      have hl2 : (W'.putObj (w.heap.size + 1) (.loop { rec .ready none with state := .busy })).heap[w.heap.size + 1]? = some (.loop { rec .ready none with state := .busy }) := World.putObj_heap_same hlt'
      have hk2 : (W'.putObj (w.heap.size + 1) (.loop { rec .ready none with state := .busy })).heap[w.heap.size]? = some (.deferred (some [])) := (World.putObj_heap_other (by omega)).trans hk'
      refine wpIn_mono (hbody _ i x a₁ _ hx (hI i _ _ hi (below_put W' _ _ (by omega))) (by simp [World.putObj]; omega) (hAx _ _ _ _ ha₁ fun k hk => World.putObj_heap_other (by omega))) ?_
      have fin : ∀ (jump : Option Code) (W3 : World), But E (W'.putObj (w.heap.size + 1) (.loop { rec .ready none with state := .busy })) W3 →
          (Instr.endRound (w.heap.size + 1) jump).run P W3 = .ok (.bool jump.isNone) (W3.putObj (w.heap.size + 1) (.loop (rec (if jump.isNone then .ready else .done) jump))) ∧
          (W3.putObj (w.heap.size + 1) (.loop (rec (if jump.isNone then .ready else .done) jump))).heap[w.heap.size + 1]? = some (.loop (rec (if jump.isNone then .ready else .done) jump)) ∧
          (W3.putObj (w.heap.size + 1) (.loop (rec (if jump.isNone then .ready else .done) jump))).heap[w.heap.size]? = some (.deferred (some [])) := fun jump W3 hk3 => by
        have hl3 := (hk3.block (w.heap.size + 1) (by simpa [World.putObj] using hlt') (fun he => by have := hE _ he; omega)).trans hl2
        have hd3 := (hk3.block w.heap.size (by simp [World.putObj]; omega) (fun he => by have := hE _ he; omega)).trans hk2
        have := run_endRound (P := P) jump hl3
        rw [hrec] at this ⊢
        exact ⟨this, World.putObj_heap_same (Array.getElem?_eq_some_iff.1 hl3).1, (World.putObj_heap_other (by omega)).trans hd3⟩
      have bw : But (fun k => E k ∨ k = w.heap.size + 1) W (W'.putObj (w.heap.size + 1) (.loop { rec .ready none with state := .busy })) := bW.trans (But.put _ _ _ (.inr rfl))
      rintro e a3 W3 hp
      cases e with
      | normal =>
        obtain ⟨hk3, hgx, hi3⟩ := hp
        obtain ⟨hr, hl4, hk4⟩ := fin none W3 hk3
        exact ⟨_, _, hr, .inl ⟨rfl, hgx, ⟨hI _ _ _ hi3 (below_put W3 _ _ (by omega)), hl4, hk4⟩, (bw.trans (hk3.wide fun k hk => .inl hk)).trans (But.put _ _ _ (.inr rfl))⟩⟩
      | ret =>
        obtain ⟨hk3, hi3⟩ := hp
        obtain ⟨hr, hl4, hk4⟩ := fin (some .ret) W3 hk3
        exact ⟨_, _, hr, .inr ⟨rfl, .ret, hilen, hIx _ _ _ _ hi3 (below_put W3 _ _ (by omega)), hl4, hk4⟩⟩
      | exit id =>
        obtain ⟨hk3, hi3⟩ := hp
        obtain ⟨hr, hl4, hk4⟩ := fin (some (.exit id)) W3 hk3
        exact ⟨_, _, hr, .inr ⟨rfl, .exit id, hilen, hIx _ _ _ _ hi3 (below_put W3 _ _ (by omega)), hl4, hk4⟩⟩
      | goto t =>
        obtain ⟨hk3, hi3⟩ := hp
        obtain ⟨hr, hl4, hk4⟩ := fin (some (.goto t)) W3 hk3
        exact ⟨_, _, hr, .inr ⟨rfl, .goto t, hilen, hIx _ _ _ _ hi3 (below_put W3 _ _ (by omega)), hl4, hk4⟩⟩
      | panic ch => exact hp.elim
      | outgrown => exact hp.elim
    · -- behind the iterator
      rintro e W2 ⟨⟨v, rfl⟩, (⟨hi, hl, hk⟩ | ⟨i, hile, c, hile', hi, hl, hk⟩)⟩
      · exact ⟨none, _, by have := run_endLoop (P := P) hl (by rw [hrec]; simp); rw [hrec] at this; exact this, hdone _ _ (Nat.le_refl _) (hI _ _ _ hi (below_put W2 _ _ (by omega))) ((World.putObj_heap_other (by omega)).trans hk)⟩
      · exact ⟨some c, _, by have := run_endLoop (P := P) hl (by rw [hrec]; simp); rw [hrec] at this; exact this, hstop _ c i _ (Nat.le_refl _) hile (hIx _ _ _ _ hi (below_put W2 _ _ (by omega))) ((World.putObj_heap_other (by omega)).trans hk)⟩
end Go.Proofs.YtcliijfdlcagoaaGreat
