/- Joined texts: ToS. -/
import Derived.Test.YtcliijfdlcagoaaGreatQHToTree
namespace Go.Proofs.YtcliijfdlcagoaaGreat
set_option linter.unusedVariables false
set_option linter.unusedSimpArgs false
open Go.RowKit
theorem Tryz.infoExpr : (Tryz.prog.info? 79).map (fun i => (i.zero, i.size, i.bytes)) = some (some (.agg #[.int .i64 0, .int .i64 0, .bool false, .int .i64 0, .int .i64 0, .string ByteArray.empty, .string ByteArray.empty, .string ByteArray.empty, .slice none 0 0, .slice none 0 0]), 10, 136) := by kernel_rfl
theorem make_Expr (w : World) (n : Nat) (hn : n ≤ 1048576) : (Instr.makeSlice 36 (.int .i64 (n : Int)) (.int .i64 (n : Int))).run Tryz.prog w = .ok (.slice (some ⟨w.heap.size, 0, none⟩) n n) (w.alloc (.cells (madeCells #[.int .i64 0, .int .i64 0, .bool false, .int .i64 0, .int .i64 0, .string ⟨#[]⟩, .string ⟨#[]⟩, .string ⟨#[]⟩, .slice none 0 0, .slice none 0 0] (n * 10)) 79)) := by
  obtain ⟨i, hi, hz, hsize, hby⟩ := info_parts Tryz.infoExpr
  have h := run_make (P := Tryz.prog) w 36 79 i _ Tryz.underlying36 hi hz .i64 .i64 (n : Int) (n : Int) (by omega) (by omega) (by rw [hby]; omega) (by omega)
  rw [hsize, Int.toNat_natCast] at h
  exact h
set_option maxRecDepth 100000 in
set_option maxHeartbeats 4000000 in
theorem toExprS_any {n k : Nat} {f : Nat → Nat → Dat} (IH : ∀ i j, ToAll (f i j)) : ToP (.sl n k f) .exprs := by
  intro x w hr hf hm
  obtain ⟨a, cap, rfl⟩ := hr.slice
  obtain rfl : k = 10 := hf.2.2.1
  have hn : n ≤ 1048576 := Nat.le_trans (msr_n n 10 f) hm
  have hms := fun i j hi hj => Nat.le_trans (msr_el (n := n) (k := 10) (f := f) (i := i) (j := j) hi hj) hm
  show Calls Tryz.prog 19 #[.slice a n cap] w (ToE (.sl n 10 f) w)
  have hmk := make_Expr w n hn
  have hF0 := Fill.new w 79 n 10 f (madeCells #[.int .i64 0, .int .i64 0, .bool false, .int .i64 0, .int .i64 0, .string ⟨#[]⟩, .string ⟨#[]⟩, .string ⟨#[]⟩, .slice none 0 0, .slice none 0 0] (n * 10)) (by simp [madeCells])
  have hB0 := (Below.refl w.heap.size w).alloc (Nat.le_refl _) (.cells (madeCells #[.int .i64 0, .int .i64 0, .bool false, .int .i64 0, .int .i64 0, .string ⟨#[]⟩, .string ⟨#[]⟩, .string ⟨#[]⟩, .slice none 0 0, .slice none 0 0] (n * 10)) 79)
  go_enter Tryz.func19, Tryz.ntmps19
  go_wp2_with fail
  clear hmk
  generalize w.alloc (.cells (madeCells #[.int .i64 0, .int .i64 0, .bool false, .int .i64 0, .int .i64 0, .string ⟨#[]⟩, .string ⟨#[]⟩, .string ⟨#[]⟩, .slice none 0 0, .slice none 0 0] (n * 10)) 79) = w0 at hF0 hB0 ⊢
  go_loopw [4] (fun i wr => ∃ j : Nat, j ≤ n ∧ i = .int .i64 (j : Int) ∧ Fill wr w.heap.size 79 n 10 f j ∧ Below w.heap.size w wr) (fun i _ => n - (intOf i).toNat)
  case atStart => exact ⟨0, by omega, rfl, hF0, hB0⟩
  case round =>
    obtain ⟨j, hj, rfl, hF, hB⟩ := hrel
    by_cases hlt : j < n
    · have hlt2 : (j : Int) < (n : Int) := by omega
      have hr2 := hr.later hB
      obtain ⟨g, o, rfl, -, hg, c0, c1, c2, c3, c4, c5, c6, c7, c8, c9, ⟨z0, z1, z2, z3, z4, z5, z6, z7, z8, z9⟩, ⟨⟨e0, b0⟩, ⟨e1, b1⟩, e2, ⟨e3, b3⟩, ⟨e4, b4⟩, ⟨e5, b5⟩, ⟨e6, b6⟩, ⟨e7, b7⟩, ⟨r8, q8⟩, ⟨r9, q9⟩⟩⟩ := row_exprs hr2 hf hlt
      have m8 := hms j 8 hlt (by decide)
      have m9 := hms j 9 hlt (by decide)
      clear hms
      go_wp2_with fail
      refine (toExpr_any c0 c1 c2 c3 c4 c5 c6 c7 c8 c9 (f j 8) (f j 9) _ (IH j 8 .exprs rfl) (IH j 9 .queries rfl) r8 q8 m8 r9 q9 m9).mono ?_
      rintro e w1 ⟨y8, y9, rfl, s8, s9, hb⟩
      obtain ⟨ya8, yn8, yc8, rfl⟩ := s8.slice_of q8 rfl
      obtain ⟨ya9, yn9, yc9, rfl⟩ := s9.slice_of q9 rfl
      have hF1 := hF.later hb
      have hB1 := hB.trans (hb.mono hB.size)
      have hsz : w.heap.size + 1 ≤ wr.heap.size := by obtain ⟨cs, h1, _⟩ := hF; exact h1.lt
      replace s8 := s8.low hsz
      replace s9 := s9.low hsz
      obtain ⟨u0, p0, v0⟩ := hF1.at (m := 0) hlt (by decide)
      rw [Nat.add_zero] at p0 v0
      obtain ⟨u1, p1, v1⟩ := hF1.at (m := 1) hlt (by decide)
      obtain ⟨u2, p2, v2⟩ := hF1.at (m := 2) hlt (by decide)
      obtain ⟨u3, p3, v3⟩ := hF1.at (m := 3) hlt (by decide)
      obtain ⟨u4, p4, v4⟩ := hF1.at (m := 4) hlt (by decide)
      obtain ⟨u5, p5, v5⟩ := hF1.at (m := 5) hlt (by decide)
      obtain ⟨u6, p6, v6⟩ := hF1.at (m := 6) hlt (by decide)
      obtain ⟨u7, p7, v7⟩ := hF1.at (m := 7) hlt (by decide)
      obtain ⟨u8, p8, v8⟩ := hF1.at (m := 8) hlt (by decide)
      obtain ⟨u9, p9, v9⟩ := hF1.at (m := 9) hlt (by decide)
      have hF2 := hF1.step hlt [.int .i64 c0, .int .i64 c1, .bool c2, .int .i64 c3, .int .i64 c4, .string c5, .string c6, .string c7, .slice ya8 yn8 yc8, .slice ya9 yn9 yc9] rfl (fun m hm => match m, hm with
        | 0, _ => ⟨.int .i64 c0, rfl, by rw [e0]; rfl⟩
        | 1, _ => ⟨.int .i64 c1, rfl, by rw [e1]; rfl⟩
        | 2, _ => ⟨.bool c2, rfl, by rw [e2]; rfl⟩
        | 3, _ => ⟨.int .i64 c3, rfl, by rw [e3]; rfl⟩
        | 4, _ => ⟨.int .i64 c4, rfl, by rw [e4]; rfl⟩
        | 5, _ => ⟨.string c5, rfl, by rw [e5]; rfl⟩
        | 6, _ => ⟨.string c6, rfl, by rw [e6]; rfl⟩
        | 7, _ => ⟨.string c7, rfl, by rw [e7]; rfl⟩
        | 8, _ => ⟨.slice ya8 yn8 yc8, rfl, s8⟩
        | 9, _ => ⟨.slice ya9 yn9 yc9, rfl, s9⟩
        | m + 10, hm => absurd hm (by simp))
      have hB2 := puts_below (B := w.heap.size) (Nat.le_refl _) [.int .i64 c0, .int .i64 c1, .bool c2, .int .i64 c3, .int .i64 c4, .string c5, .string c6, .string c7, .slice ya8 yn8 yc8, .slice ya9 yn9 yc9] (j * 10) hB1
      clear hF hF1 hr2 hb hB hB1 hsz z0 z1 z2 z3 z4 z5 z6 z7 z8 z9 e0 e1 e2 e3 e4 e5 e6 e7 s8 r8 s9 r9
      go_wp2_with fail
      rw [show ((((((((((w1.setCell ⟨w.heap.size, j * 10, none⟩ (.int .i64 c0)).setCell ⟨w.heap.size, j * 10 + 1, none⟩ (.int .i64 c1)).setCell ⟨w.heap.size, j * 10 + 2, none⟩ (.bool c2)).setCell ⟨w.heap.size, j * 10 + 3, none⟩ (.int .i64 c3)).setCell ⟨w.heap.size, j * 10 + 4, none⟩ (.int .i64 c4)).setCell ⟨w.heap.size, j * 10 + 5, none⟩ (.string c5)).setCell ⟨w.heap.size, j * 10 + 6, none⟩ (.string c6)).setCell ⟨w.heap.size, j * 10 + 7, none⟩ (.string c7)).setCell ⟨w.heap.size, j * 10 + 8, none⟩ (.slice ya8 yn8 yc8)).setCell ⟨w.heap.size, j * 10 + 9, none⟩ (.slice ya9 yn9 yc9)) = puts w.heap.size (j * 10) [.int .i64 c0, .int .i64 c1, .bool c2, .int .i64 c3, .int .i64 c4, .string c5, .string c6, .string c7, .slice ya8 yn8 yc8, .slice ya9 yn9 yc9] w1 from rfl]
      generalize puts w.heap.size (j * 10) [.int .i64 c0, .int .i64 c1, .bool c2, .int .i64 c3, .int .i64 c4, .string c5, .string c6, .string c7, .slice ya8 yn8 yc8, .slice ya9 yn9 yc9] w1 = w2 at hF2 hB2 ⊢
      go_roundw
      case rel => exact ⟨j + 1, by omega, by go_num, hF2, hB2⟩
      case measure => simp [intOf]; omega
    · obtain rfl : j = n := by omega
      go_wp2_with fail
      go_ret
      exact ⟨_, rfl, hF.rd, hB⟩
theorem Tryz.infoItem : (Tryz.prog.info? 111).map (fun i => (i.zero, i.size, i.bytes)) = some (some (.agg #[.bool false, .string ByteArray.empty, .int .i64 0, .int .i64 0, .bool false, .int .i64 0, .int .i64 0, .string ByteArray.empty, .string ByteArray.empty, .string ByteArray.empty, .slice none 0 0, .slice none 0 0, .string ByteArray.empty]), 13, 176) := by kernel_rfl
theorem make_Item (w : World) (n : Nat) (hn : n ≤ 1048576) : (Instr.makeSlice 34 (.int .i64 (n : Int)) (.int .i64 (n : Int))).run Tryz.prog w = .ok (.slice (some ⟨w.heap.size, 0, none⟩) n n) (w.alloc (.cells (madeCells #[.bool false, .string ⟨#[]⟩, .int .i64 0, .int .i64 0, .bool false, .int .i64 0, .int .i64 0, .string ⟨#[]⟩, .string ⟨#[]⟩, .string ⟨#[]⟩, .slice none 0 0, .slice none 0 0, .string ⟨#[]⟩] (n * 13)) 111)) := by
  obtain ⟨i, hi, hz, hsize, hby⟩ := info_parts Tryz.infoItem
  have h := run_make (P := Tryz.prog) w 34 111 i _ Tryz.underlying34 hi hz .i64 .i64 (n : Int) (n : Int) (by omega) (by omega) (by rw [hby]; omega) (by omega)
  rw [hsize, Int.toNat_natCast] at h
  exact h
set_option maxRecDepth 100000 in
set_option maxHeartbeats 4000000 in
theorem toItemS_any {n k : Nat} {f : Nat → Nat → Dat} (IH : ∀ i j, ToAll (f i j)) : ToP (.sl n k f) .items := by
  intro x w hr hf hm
  obtain ⟨a, cap, rfl⟩ := hr.slice
  obtain rfl : k = 13 := hf.2.2.1
  have hn : n ≤ 1048576 := Nat.le_trans (msr_n n 13 f) hm
  have hms := fun i j hi hj => Nat.le_trans (msr_el (n := n) (k := 13) (f := f) (i := i) (j := j) hi hj) hm
  show Calls Tryz.prog 42 #[.slice a n cap] w (ToE (.sl n 13 f) w)
  have hmk := make_Item w n hn
  have hF0 := Fill.new w 111 n 13 f (madeCells #[.bool false, .string ⟨#[]⟩, .int .i64 0, .int .i64 0, .bool false, .int .i64 0, .int .i64 0, .string ⟨#[]⟩, .string ⟨#[]⟩, .string ⟨#[]⟩, .slice none 0 0, .slice none 0 0, .string ⟨#[]⟩] (n * 13)) (by simp [madeCells])
  have hB0 := (Below.refl w.heap.size w).alloc (Nat.le_refl _) (.cells (madeCells #[.bool false, .string ⟨#[]⟩, .int .i64 0, .int .i64 0, .bool false, .int .i64 0, .int .i64 0, .string ⟨#[]⟩, .string ⟨#[]⟩, .string ⟨#[]⟩, .slice none 0 0, .slice none 0 0, .string ⟨#[]⟩] (n * 13)) 111)
  go_enter Tryz.func42, Tryz.ntmps42
  go_wp2_with fail
  clear hmk
  generalize w.alloc (.cells (madeCells #[.bool false, .string ⟨#[]⟩, .int .i64 0, .int .i64 0, .bool false, .int .i64 0, .int .i64 0, .string ⟨#[]⟩, .string ⟨#[]⟩, .string ⟨#[]⟩, .slice none 0 0, .slice none 0 0, .string ⟨#[]⟩] (n * 13)) 111) = w0 at hF0 hB0 ⊢
  go_loopw [4] (fun i wr => ∃ j : Nat, j ≤ n ∧ i = .int .i64 (j : Int) ∧ Fill wr w.heap.size 111 n 13 f j ∧ Below w.heap.size w wr) (fun i _ => n - (intOf i).toNat)
  case atStart => exact ⟨0, by omega, rfl, hF0, hB0⟩
  case round =>
    obtain ⟨j, hj, rfl, hF, hB⟩ := hrel
    by_cases hlt : j < n
    · have hlt2 : (j : Int) < (n : Int) := by omega
      have hr2 := hr.later hB
      obtain ⟨g, o, rfl, -, hg, c0, c1, c2, c3, c4, c5, c6, c7, c8, c9, c10, c11, c12, ⟨z0, z1, z2, z3, z4, z5, z6, z7, z8, z9, z10, z11, z12⟩, ⟨e0, ⟨e1, b1⟩, ⟨e2, b2⟩, ⟨e3, b3⟩, e4, ⟨e5, b5⟩, ⟨e6, b6⟩, ⟨e7, b7⟩, ⟨e8, b8⟩, ⟨e9, b9⟩, ⟨r10, q10⟩, ⟨r11, q11⟩, ⟨e12, b12⟩⟩⟩ := row_items hr2 hf hlt
      have m10 := hms j 10 hlt (by decide)
      have m11 := hms j 11 hlt (by decide)
      clear hms
      go_wp2_with fail
      refine (toItem_any c0 c1 c2 c3 c4 c5 c6 c7 c8 c9 c10 c11 c12 (f j 10) (f j 11) _ (IH j 10 .exprs rfl) (IH j 11 .queries rfl) r10 q10 m10 r11 q11 m11).mono ?_
      rintro e w1 ⟨y10, y11, rfl, s10, s11, hb⟩
      obtain ⟨ya10, yn10, yc10, rfl⟩ := s10.slice_of q10 rfl
      obtain ⟨ya11, yn11, yc11, rfl⟩ := s11.slice_of q11 rfl
      have hF1 := hF.later hb
      have hB1 := hB.trans (hb.mono hB.size)
      have hsz : w.heap.size + 1 ≤ wr.heap.size := by obtain ⟨cs, h1, _⟩ := hF; exact h1.lt
      replace s10 := s10.low hsz
      replace s11 := s11.low hsz
      obtain ⟨u0, p0, v0⟩ := hF1.at (m := 0) hlt (by decide)
      rw [Nat.add_zero] at p0 v0
      obtain ⟨u1, p1, v1⟩ := hF1.at (m := 1) hlt (by decide)
      obtain ⟨u2, p2, v2⟩ := hF1.at (m := 2) hlt (by decide)
      obtain ⟨u3, p3, v3⟩ := hF1.at (m := 3) hlt (by decide)
      obtain ⟨u4, p4, v4⟩ := hF1.at (m := 4) hlt (by decide)
      obtain ⟨u5, p5, v5⟩ := hF1.at (m := 5) hlt (by decide)
      obtain ⟨u6, p6, v6⟩ := hF1.at (m := 6) hlt (by decide)
      obtain ⟨u7, p7, v7⟩ := hF1.at (m := 7) hlt (by decide)
      obtain ⟨u8, p8, v8⟩ := hF1.at (m := 8) hlt (by decide)
      obtain ⟨u9, p9, v9⟩ := hF1.at (m := 9) hlt (by decide)
      obtain ⟨u10, p10, v10⟩ := hF1.at (m := 10) hlt (by decide)
      obtain ⟨u11, p11, v11⟩ := hF1.at (m := 11) hlt (by decide)
      obtain ⟨u12, p12, v12⟩ := hF1.at (m := 12) hlt (by decide)
      have hF2 := hF1.step hlt [.bool c0, .string c1, .int .i64 c2, .int .i64 c3, .bool c4, .int .i64 c5, .int .i64 c6, .string c7, .string c8, .string c9, .slice ya10 yn10 yc10, .slice ya11 yn11 yc11, .string c12] rfl (fun m hm => match m, hm with
        | 0, _ => ⟨.bool c0, rfl, by rw [e0]; rfl⟩
        | 1, _ => ⟨.string c1, rfl, by rw [e1]; rfl⟩
        | 2, _ => ⟨.int .i64 c2, rfl, by rw [e2]; rfl⟩
        | 3, _ => ⟨.int .i64 c3, rfl, by rw [e3]; rfl⟩
        | 4, _ => ⟨.bool c4, rfl, by rw [e4]; rfl⟩
        | 5, _ => ⟨.int .i64 c5, rfl, by rw [e5]; rfl⟩
        | 6, _ => ⟨.int .i64 c6, rfl, by rw [e6]; rfl⟩
        | 7, _ => ⟨.string c7, rfl, by rw [e7]; rfl⟩
        | 8, _ => ⟨.string c8, rfl, by rw [e8]; rfl⟩
        | 9, _ => ⟨.string c9, rfl, by rw [e9]; rfl⟩
        | 10, _ => ⟨.slice ya10 yn10 yc10, rfl, s10⟩
        | 11, _ => ⟨.slice ya11 yn11 yc11, rfl, s11⟩
        | 12, _ => ⟨.string c12, rfl, by rw [e12]; rfl⟩
        | m + 13, hm => absurd hm (by simp))
      have hB2 := puts_below (B := w.heap.size) (Nat.le_refl _) [.bool c0, .string c1, .int .i64 c2, .int .i64 c3, .bool c4, .int .i64 c5, .int .i64 c6, .string c7, .string c8, .string c9, .slice ya10 yn10 yc10, .slice ya11 yn11 yc11, .string c12] (j * 13) hB1
      clear hF hF1 hr2 hb hB hB1 hsz z0 z1 z2 z3 z4 z5 z6 z7 z8 z9 z10 z11 z12 e0 e1 e2 e3 e4 e5 e6 e7 e8 e9 e12 s10 r10 s11 r11
      go_wp2_with fail
      rw [show (((((((((((((w1.setCell ⟨w.heap.size, j * 13, none⟩ (.bool c0)).setCell ⟨w.heap.size, j * 13 + 1, none⟩ (.string c1)).setCell ⟨w.heap.size, j * 13 + 2, none⟩ (.int .i64 c2)).setCell ⟨w.heap.size, j * 13 + 3, none⟩ (.int .i64 c3)).setCell ⟨w.heap.size, j * 13 + 4, none⟩ (.bool c4)).setCell ⟨w.heap.size, j * 13 + 5, none⟩ (.int .i64 c5)).setCell ⟨w.heap.size, j * 13 + 6, none⟩ (.int .i64 c6)).setCell ⟨w.heap.size, j * 13 + 7, none⟩ (.string c7)).setCell ⟨w.heap.size, j * 13 + 8, none⟩ (.string c8)).setCell ⟨w.heap.size, j * 13 + 9, none⟩ (.string c9)).setCell ⟨w.heap.size, j * 13 + 10, none⟩ (.slice ya10 yn10 yc10)).setCell ⟨w.heap.size, j * 13 + 11, none⟩ (.slice ya11 yn11 yc11)).setCell ⟨w.heap.size, j * 13 + 12, none⟩ (.string c12)) = puts w.heap.size (j * 13) [.bool c0, .string c1, .int .i64 c2, .int .i64 c3, .bool c4, .int .i64 c5, .int .i64 c6, .string c7, .string c8, .string c9, .slice ya10 yn10 yc10, .slice ya11 yn11 yc11, .string c12] w1 from rfl]
      generalize puts w.heap.size (j * 13) [.bool c0, .string c1, .int .i64 c2, .int .i64 c3, .bool c4, .int .i64 c5, .int .i64 c6, .string c7, .string c8, .string c9, .slice ya10 yn10 yc10, .slice ya11 yn11 yc11, .string c12] w1 = w2 at hF2 hB2 ⊢
      go_roundw
      case rel => exact ⟨j + 1, by omega, by go_num, hF2, hB2⟩
      case measure => simp [intOf]; omega
    · obtain rfl : j = n := by omega
      go_wp2_with fail
      go_ret
      exact ⟨_, rfl, hF.rd, hB⟩
theorem Tryz.infoSource : (Tryz.prog.info? 113).map (fun i => (i.zero, i.size, i.bytes)) = some (some (.agg #[.string ByteArray.empty, .string ByteArray.empty, .slice none 0 0]), 3, 56) := by kernel_rfl
theorem make_Source (w : World) (n : Nat) (hn : n ≤ 1048576) : (Instr.makeSlice 35 (.int .i64 (n : Int)) (.int .i64 (n : Int))).run Tryz.prog w = .ok (.slice (some ⟨w.heap.size, 0, none⟩) n n) (w.alloc (.cells (madeCells #[.string ⟨#[]⟩, .string ⟨#[]⟩, .slice none 0 0] (n * 3)) 113)) := by
  obtain ⟨i, hi, hz, hsize, hby⟩ := info_parts Tryz.infoSource
  have h := run_make (P := Tryz.prog) w 35 113 i _ Tryz.underlying35 hi hz .i64 .i64 (n : Int) (n : Int) (by omega) (by omega) (by rw [hby]; omega) (by omega)
  rw [hsize, Int.toNat_natCast] at h
  exact h
set_option maxRecDepth 100000 in
set_option maxHeartbeats 4000000 in
theorem toSourceS_any {n k : Nat} {f : Nat → Nat → Dat} (IH : ∀ i j, ToAll (f i j)) : ToP (.sl n k f) .sources := by
  intro x w hr hf hm
  obtain ⟨a, cap, rfl⟩ := hr.slice
  obtain rfl : k = 3 := hf.2.2.1
  have hn : n ≤ 1048576 := Nat.le_trans (msr_n n 3 f) hm
  have hms := fun i j hi hj => Nat.le_trans (msr_el (n := n) (k := 3) (f := f) (i := i) (j := j) hi hj) hm
  show Calls Tryz.prog 43 #[.slice a n cap] w (ToE (.sl n 3 f) w)
  have hmk := make_Source w n hn
  have hF0 := Fill.new w 113 n 3 f (madeCells #[.string ⟨#[]⟩, .string ⟨#[]⟩, .slice none 0 0] (n * 3)) (by simp [madeCells])
  have hB0 := (Below.refl w.heap.size w).alloc (Nat.le_refl _) (.cells (madeCells #[.string ⟨#[]⟩, .string ⟨#[]⟩, .slice none 0 0] (n * 3)) 113)
  go_enter Tryz.func43, Tryz.ntmps43
  go_wp2_with fail
  clear hmk
  generalize w.alloc (.cells (madeCells #[.string ⟨#[]⟩, .string ⟨#[]⟩, .slice none 0 0] (n * 3)) 113) = w0 at hF0 hB0 ⊢
  go_loopw [4] (fun i wr => ∃ j : Nat, j ≤ n ∧ i = .int .i64 (j : Int) ∧ Fill wr w.heap.size 113 n 3 f j ∧ Below w.heap.size w wr) (fun i _ => n - (intOf i).toNat)
  case atStart => exact ⟨0, by omega, rfl, hF0, hB0⟩
  case round =>
    obtain ⟨j, hj, rfl, hF, hB⟩ := hrel
    by_cases hlt : j < n
    · have hlt2 : (j : Int) < (n : Int) := by omega
      have hr2 := hr.later hB
      obtain ⟨g, o, rfl, -, hg, c0, c1, c2, ⟨z0, z1, z2⟩, ⟨⟨e0, b0⟩, ⟨e1, b1⟩, ⟨r2, q2⟩⟩⟩ := row_sources hr2 hf hlt
      have m2 := hms j 2 hlt (by decide)
      clear hms
      go_wp2_with fail
      refine (toSource_any c0 c1 c2 (f j 2) _ (IH j 2 .exprs rfl) r2 q2 m2).mono ?_
      rintro e w1 ⟨y2, rfl, s2, hb⟩
      obtain ⟨ya2, yn2, yc2, rfl⟩ := s2.slice_of q2 rfl
      have hF1 := hF.later hb
      have hB1 := hB.trans (hb.mono hB.size)
      have hsz : w.heap.size + 1 ≤ wr.heap.size := by obtain ⟨cs, h1, _⟩ := hF; exact h1.lt
      replace s2 := s2.low hsz
      obtain ⟨u0, p0, v0⟩ := hF1.at (m := 0) hlt (by decide)
      rw [Nat.add_zero] at p0 v0
      obtain ⟨u1, p1, v1⟩ := hF1.at (m := 1) hlt (by decide)
      obtain ⟨u2, p2, v2⟩ := hF1.at (m := 2) hlt (by decide)
      have hF2 := hF1.step hlt [.string c0, .string c1, .slice ya2 yn2 yc2] rfl (fun m hm => match m, hm with
        | 0, _ => ⟨.string c0, rfl, by rw [e0]; rfl⟩
        | 1, _ => ⟨.string c1, rfl, by rw [e1]; rfl⟩
        | 2, _ => ⟨.slice ya2 yn2 yc2, rfl, s2⟩
        | m + 3, hm => absurd hm (by simp))
      have hB2 := puts_below (B := w.heap.size) (Nat.le_refl _) [.string c0, .string c1, .slice ya2 yn2 yc2] (j * 3) hB1
      clear hF hF1 hr2 hb hB hB1 hsz z0 z1 z2 e0 e1 s2 r2
      go_wp2_with fail
      rw [show (((w1.setCell ⟨w.heap.size, j * 3, none⟩ (.string c0)).setCell ⟨w.heap.size, j * 3 + 1, none⟩ (.string c1)).setCell ⟨w.heap.size, j * 3 + 2, none⟩ (.slice ya2 yn2 yc2)) = puts w.heap.size (j * 3) [.string c0, .string c1, .slice ya2 yn2 yc2] w1 from rfl]
      generalize puts w.heap.size (j * 3) [.string c0, .string c1, .slice ya2 yn2 yc2] w1 = w2 at hF2 hB2 ⊢
      go_roundw
      case rel => exact ⟨j + 1, by omega, by go_num, hF2, hB2⟩
      case measure => simp [intOf]; omega
    · obtain rfl : j = n := by omega
      go_wp2_with fail
      go_ret
      exact ⟨_, rfl, hF.rd, hB⟩
theorem Tryz.infoSortKey : (Tryz.prog.info? 115).map (fun i => (i.zero, i.size, i.bytes)) = some (some (.agg #[.int .i64 0, .int .i64 0, .bool false, .int .i64 0, .int .i64 0, .string ByteArray.empty, .string ByteArray.empty, .string ByteArray.empty, .slice none 0 0, .slice none 0 0, .bool false]), 11, 144) := by kernel_rfl
theorem make_SortKey (w : World) (n : Nat) (hn : n ≤ 1048576) : (Instr.makeSlice 37 (.int .i64 (n : Int)) (.int .i64 (n : Int))).run Tryz.prog w = .ok (.slice (some ⟨w.heap.size, 0, none⟩) n n) (w.alloc (.cells (madeCells #[.int .i64 0, .int .i64 0, .bool false, .int .i64 0, .int .i64 0, .string ⟨#[]⟩, .string ⟨#[]⟩, .string ⟨#[]⟩, .slice none 0 0, .slice none 0 0, .bool false] (n * 11)) 115)) := by
  obtain ⟨i, hi, hz, hsize, hby⟩ := info_parts Tryz.infoSortKey
  have h := run_make (P := Tryz.prog) w 37 115 i _ Tryz.underlying37 hi hz .i64 .i64 (n : Int) (n : Int) (by omega) (by omega) (by rw [hby]; omega) (by omega)
  rw [hsize, Int.toNat_natCast] at h
  exact h
set_option maxRecDepth 100000 in
set_option maxHeartbeats 4000000 in
theorem toSortKeyS_any {n k : Nat} {f : Nat → Nat → Dat} (IH : ∀ i j, ToAll (f i j)) : ToP (.sl n k f) .keys := by
  intro x w hr hf hm
  obtain ⟨a, cap, rfl⟩ := hr.slice
  obtain rfl : k = 11 := hf.2.2.1
  have hn : n ≤ 1048576 := Nat.le_trans (msr_n n 11 f) hm
  have hms := fun i j hi hj => Nat.le_trans (msr_el (n := n) (k := 11) (f := f) (i := i) (j := j) hi hj) hm
  show Calls Tryz.prog 44 #[.slice a n cap] w (ToE (.sl n 11 f) w)
  have hmk := make_SortKey w n hn
  have hF0 := Fill.new w 115 n 11 f (madeCells #[.int .i64 0, .int .i64 0, .bool false, .int .i64 0, .int .i64 0, .string ⟨#[]⟩, .string ⟨#[]⟩, .string ⟨#[]⟩, .slice none 0 0, .slice none 0 0, .bool false] (n * 11)) (by simp [madeCells])
  have hB0 := (Below.refl w.heap.size w).alloc (Nat.le_refl _) (.cells (madeCells #[.int .i64 0, .int .i64 0, .bool false, .int .i64 0, .int .i64 0, .string ⟨#[]⟩, .string ⟨#[]⟩, .string ⟨#[]⟩, .slice none 0 0, .slice none 0 0, .bool false] (n * 11)) 115)
  go_enter Tryz.func44, Tryz.ntmps44
  go_wp2_with fail
  clear hmk
  generalize w.alloc (.cells (madeCells #[.int .i64 0, .int .i64 0, .bool false, .int .i64 0, .int .i64 0, .string ⟨#[]⟩, .string ⟨#[]⟩, .string ⟨#[]⟩, .slice none 0 0, .slice none 0 0, .bool false] (n * 11)) 115) = w0 at hF0 hB0 ⊢
  go_loopw [4] (fun i wr => ∃ j : Nat, j ≤ n ∧ i = .int .i64 (j : Int) ∧ Fill wr w.heap.size 115 n 11 f j ∧ Below w.heap.size w wr) (fun i _ => n - (intOf i).toNat)
  case atStart => exact ⟨0, by omega, rfl, hF0, hB0⟩
  case round =>
    obtain ⟨j, hj, rfl, hF, hB⟩ := hrel
    by_cases hlt : j < n
    · have hlt2 : (j : Int) < (n : Int) := by omega
      have hr2 := hr.later hB
      obtain ⟨g, o, rfl, -, hg, c0, c1, c2, c3, c4, c5, c6, c7, c8, c9, c10, ⟨z0, z1, z2, z3, z4, z5, z6, z7, z8, z9, z10⟩, ⟨⟨e0, b0⟩, ⟨e1, b1⟩, e2, ⟨e3, b3⟩, ⟨e4, b4⟩, ⟨e5, b5⟩, ⟨e6, b6⟩, ⟨e7, b7⟩, ⟨r8, q8⟩, ⟨r9, q9⟩, e10⟩⟩ := row_keys hr2 hf hlt
      have m8 := hms j 8 hlt (by decide)
      have m9 := hms j 9 hlt (by decide)
      clear hms
      go_wp2_with fail
      refine (toSortKey_any c0 c1 c2 c3 c4 c5 c6 c7 c8 c9 c10 (f j 8) (f j 9) _ (IH j 8 .exprs rfl) (IH j 9 .queries rfl) r8 q8 m8 r9 q9 m9).mono ?_
      rintro e w1 ⟨y8, y9, rfl, s8, s9, hb⟩
      obtain ⟨ya8, yn8, yc8, rfl⟩ := s8.slice_of q8 rfl
      obtain ⟨ya9, yn9, yc9, rfl⟩ := s9.slice_of q9 rfl
      have hF1 := hF.later hb
      have hB1 := hB.trans (hb.mono hB.size)
      have hsz : w.heap.size + 1 ≤ wr.heap.size := by obtain ⟨cs, h1, _⟩ := hF; exact h1.lt
      replace s8 := s8.low hsz
      replace s9 := s9.low hsz
      obtain ⟨u0, p0, v0⟩ := hF1.at (m := 0) hlt (by decide)
      rw [Nat.add_zero] at p0 v0
      obtain ⟨u1, p1, v1⟩ := hF1.at (m := 1) hlt (by decide)
      obtain ⟨u2, p2, v2⟩ := hF1.at (m := 2) hlt (by decide)
      obtain ⟨u3, p3, v3⟩ := hF1.at (m := 3) hlt (by decide)
      obtain ⟨u4, p4, v4⟩ := hF1.at (m := 4) hlt (by decide)
      obtain ⟨u5, p5, v5⟩ := hF1.at (m := 5) hlt (by decide)
      obtain ⟨u6, p6, v6⟩ := hF1.at (m := 6) hlt (by decide)
      obtain ⟨u7, p7, v7⟩ := hF1.at (m := 7) hlt (by decide)
      obtain ⟨u8, p8, v8⟩ := hF1.at (m := 8) hlt (by decide)
      obtain ⟨u9, p9, v9⟩ := hF1.at (m := 9) hlt (by decide)
      obtain ⟨u10, p10, v10⟩ := hF1.at (m := 10) hlt (by decide)
      have hF2 := hF1.step hlt [.int .i64 c0, .int .i64 c1, .bool c2, .int .i64 c3, .int .i64 c4, .string c5, .string c6, .string c7, .slice ya8 yn8 yc8, .slice ya9 yn9 yc9, .bool c10] rfl (fun m hm => match m, hm with
        | 0, _ => ⟨.int .i64 c0, rfl, by rw [e0]; rfl⟩
        | 1, _ => ⟨.int .i64 c1, rfl, by rw [e1]; rfl⟩
        | 2, _ => ⟨.bool c2, rfl, by rw [e2]; rfl⟩
        | 3, _ => ⟨.int .i64 c3, rfl, by rw [e3]; rfl⟩
        | 4, _ => ⟨.int .i64 c4, rfl, by rw [e4]; rfl⟩
        | 5, _ => ⟨.string c5, rfl, by rw [e5]; rfl⟩
        | 6, _ => ⟨.string c6, rfl, by rw [e6]; rfl⟩
        | 7, _ => ⟨.string c7, rfl, by rw [e7]; rfl⟩
        | 8, _ => ⟨.slice ya8 yn8 yc8, rfl, s8⟩
        | 9, _ => ⟨.slice ya9 yn9 yc9, rfl, s9⟩
        | 10, _ => ⟨.bool c10, rfl, by rw [e10]; rfl⟩
        | m + 11, hm => absurd hm (by simp))
      have hB2 := puts_below (B := w.heap.size) (Nat.le_refl _) [.int .i64 c0, .int .i64 c1, .bool c2, .int .i64 c3, .int .i64 c4, .string c5, .string c6, .string c7, .slice ya8 yn8 yc8, .slice ya9 yn9 yc9, .bool c10] (j * 11) hB1
      clear hF hF1 hr2 hb hB hB1 hsz z0 z1 z2 z3 z4 z5 z6 z7 z8 z9 z10 e0 e1 e2 e3 e4 e5 e6 e7 e10 s8 r8 s9 r9
      go_wp2_with fail
      rw [show (((((((((((w1.setCell ⟨w.heap.size, j * 11, none⟩ (.int .i64 c0)).setCell ⟨w.heap.size, j * 11 + 1, none⟩ (.int .i64 c1)).setCell ⟨w.heap.size, j * 11 + 2, none⟩ (.bool c2)).setCell ⟨w.heap.size, j * 11 + 3, none⟩ (.int .i64 c3)).setCell ⟨w.heap.size, j * 11 + 4, none⟩ (.int .i64 c4)).setCell ⟨w.heap.size, j * 11 + 5, none⟩ (.string c5)).setCell ⟨w.heap.size, j * 11 + 6, none⟩ (.string c6)).setCell ⟨w.heap.size, j * 11 + 7, none⟩ (.string c7)).setCell ⟨w.heap.size, j * 11 + 8, none⟩ (.slice ya8 yn8 yc8)).setCell ⟨w.heap.size, j * 11 + 9, none⟩ (.slice ya9 yn9 yc9)).setCell ⟨w.heap.size, j * 11 + 10, none⟩ (.bool c10)) = puts w.heap.size (j * 11) [.int .i64 c0, .int .i64 c1, .bool c2, .int .i64 c3, .int .i64 c4, .string c5, .string c6, .string c7, .slice ya8 yn8 yc8, .slice ya9 yn9 yc9, .bool c10] w1 from rfl]
      generalize puts w.heap.size (j * 11) [.int .i64 c0, .int .i64 c1, .bool c2, .int .i64 c3, .int .i64 c4, .string c5, .string c6, .string c7, .slice ya8 yn8 yc8, .slice ya9 yn9 yc9, .bool c10] w1 = w2 at hF2 hB2 ⊢
      go_roundw
      case rel => exact ⟨j + 1, by omega, by go_num, hF2, hB2⟩
      case measure => simp [intOf]; omega
    · obtain rfl : j = n := by omega
      go_wp2_with fail
      go_ret
      exact ⟨_, rfl, hF.rd, hB⟩
theorem Tryz.infoQuery : (Tryz.prog.info? 39).map (fun i => (i.zero, i.size, i.bytes)) = some (some (.agg #[.bool false, .slice none 0 0, .slice none 0 0, .slice none 0 0, .slice none 0 0, .int .i64 0]), 6, 112) := by kernel_rfl
theorem make_Query (w : World) (n : Nat) (hn : n ≤ 1048576) : (Instr.makeSlice 77 (.int .i64 (n : Int)) (.int .i64 (n : Int))).run Tryz.prog w = .ok (.slice (some ⟨w.heap.size, 0, none⟩) n n) (w.alloc (.cells (madeCells #[.bool false, .slice none 0 0, .slice none 0 0, .slice none 0 0, .slice none 0 0, .int .i64 0] (n * 6)) 39)) := by
  obtain ⟨i, hi, hz, hsize, hby⟩ := info_parts Tryz.infoQuery
  have h := run_make (P := Tryz.prog) w 77 39 i _ Tryz.underlying77 hi hz .i64 .i64 (n : Int) (n : Int) (by omega) (by omega) (by rw [hby]; omega) (by omega)
  rw [hsize, Int.toNat_natCast] at h
  exact h
set_option maxRecDepth 100000 in
set_option maxHeartbeats 4000000 in
theorem toQueryS_any {n k : Nat} {f : Nat → Nat → Dat} (IH : ∀ i j, ToAll (f i j)) : ToP (.sl n k f) .queries := by
  intro x w hr hf hm
  obtain ⟨a, cap, rfl⟩ := hr.slice
  obtain rfl : k = 6 := hf.2.2.1
  have hn : n ≤ 1048576 := Nat.le_trans (msr_n n 6 f) hm
  have hms := fun i j hi hj => Nat.le_trans (msr_el (n := n) (k := 6) (f := f) (i := i) (j := j) hi hj) hm
  show Calls Tryz.prog 80 #[.slice a n cap] w (ToE (.sl n 6 f) w)
  have hmk := make_Query w n hn
  have hF0 := Fill.new w 39 n 6 f (madeCells #[.bool false, .slice none 0 0, .slice none 0 0, .slice none 0 0, .slice none 0 0, .int .i64 0] (n * 6)) (by simp [madeCells])
  have hB0 := (Below.refl w.heap.size w).alloc (Nat.le_refl _) (.cells (madeCells #[.bool false, .slice none 0 0, .slice none 0 0, .slice none 0 0, .slice none 0 0, .int .i64 0] (n * 6)) 39)
  go_enter Tryz.func80, Tryz.ntmps80
  go_wp2_with fail
  clear hmk
  generalize w.alloc (.cells (madeCells #[.bool false, .slice none 0 0, .slice none 0 0, .slice none 0 0, .slice none 0 0, .int .i64 0] (n * 6)) 39) = w0 at hF0 hB0 ⊢
  go_loopw [4] (fun i wr => ∃ j : Nat, j ≤ n ∧ i = .int .i64 (j : Int) ∧ Fill wr w.heap.size 39 n 6 f j ∧ Below w.heap.size w wr) (fun i _ => n - (intOf i).toNat)
  case atStart => exact ⟨0, by omega, rfl, hF0, hB0⟩
  case round =>
    obtain ⟨j, hj, rfl, hF, hB⟩ := hrel
    by_cases hlt : j < n
    · have hlt2 : (j : Int) < (n : Int) := by omega
      have hr2 := hr.later hB
      obtain ⟨g, o, rfl, -, hg, c0, c1, c2, c3, c4, c5, ⟨z0, z1, z2, z3, z4, z5⟩, ⟨e0, ⟨r1, q1⟩, ⟨r2, q2⟩, ⟨r3, q3⟩, ⟨r4, q4⟩, ⟨e5, b5⟩⟩⟩ := row_queries hr2 hf hlt
      have m1 := hms j 1 hlt (by decide)
      have m2 := hms j 2 hlt (by decide)
      have m3 := hms j 3 hlt (by decide)
      have m4 := hms j 4 hlt (by decide)
      clear hms
      go_wp2_with fail
      refine (toQuery_any c0 c1 c2 c3 c4 c5 (f j 1) (f j 2) (f j 3) (f j 4) _ (IH j 1 .items rfl) (IH j 2 .sources rfl) (IH j 3 .exprs rfl) (IH j 4 .keys rfl) r1 q1 m1 r2 q2 m2 r3 q3 m3 r4 q4 m4).mono ?_
      rintro e w1 ⟨y1, y2, y3, y4, rfl, s1, s2, s3, s4, hb⟩
      obtain ⟨ya1, yn1, yc1, rfl⟩ := s1.slice_of q1 rfl
      obtain ⟨ya2, yn2, yc2, rfl⟩ := s2.slice_of q2 rfl
      obtain ⟨ya3, yn3, yc3, rfl⟩ := s3.slice_of q3 rfl
      obtain ⟨ya4, yn4, yc4, rfl⟩ := s4.slice_of q4 rfl
      have hF1 := hF.later hb
      have hB1 := hB.trans (hb.mono hB.size)
      have hsz : w.heap.size + 1 ≤ wr.heap.size := by obtain ⟨cs, h1, _⟩ := hF; exact h1.lt
      replace s1 := s1.low hsz
      replace s2 := s2.low hsz
      replace s3 := s3.low hsz
      replace s4 := s4.low hsz
      obtain ⟨u0, p0, v0⟩ := hF1.at (m := 0) hlt (by decide)
      rw [Nat.add_zero] at p0 v0
      obtain ⟨u1, p1, v1⟩ := hF1.at (m := 1) hlt (by decide)
      obtain ⟨u2, p2, v2⟩ := hF1.at (m := 2) hlt (by decide)
      obtain ⟨u3, p3, v3⟩ := hF1.at (m := 3) hlt (by decide)
      obtain ⟨u4, p4, v4⟩ := hF1.at (m := 4) hlt (by decide)
      obtain ⟨u5, p5, v5⟩ := hF1.at (m := 5) hlt (by decide)
      have hF2 := hF1.step hlt [.bool c0, .slice ya1 yn1 yc1, .slice ya2 yn2 yc2, .slice ya3 yn3 yc3, .slice ya4 yn4 yc4, .int .i64 c5] rfl (fun m hm => match m, hm with
        | 0, _ => ⟨.bool c0, rfl, by rw [e0]; rfl⟩
        | 1, _ => ⟨.slice ya1 yn1 yc1, rfl, s1⟩
        | 2, _ => ⟨.slice ya2 yn2 yc2, rfl, s2⟩
        | 3, _ => ⟨.slice ya3 yn3 yc3, rfl, s3⟩
        | 4, _ => ⟨.slice ya4 yn4 yc4, rfl, s4⟩
        | 5, _ => ⟨.int .i64 c5, rfl, by rw [e5]; rfl⟩
        | m + 6, hm => absurd hm (by simp))
      have hB2 := puts_below (B := w.heap.size) (Nat.le_refl _) [.bool c0, .slice ya1 yn1 yc1, .slice ya2 yn2 yc2, .slice ya3 yn3 yc3, .slice ya4 yn4 yc4, .int .i64 c5] (j * 6) hB1
      clear hF hF1 hr2 hb hB hB1 hsz z0 z1 z2 z3 z4 z5 e0 e5 s1 r1 s2 r2 s3 r3 s4 r4
      go_wp2_with fail
      rw [show ((((((w1.setCell ⟨w.heap.size, j * 6, none⟩ (.bool c0)).setCell ⟨w.heap.size, j * 6 + 1, none⟩ (.slice ya1 yn1 yc1)).setCell ⟨w.heap.size, j * 6 + 2, none⟩ (.slice ya2 yn2 yc2)).setCell ⟨w.heap.size, j * 6 + 3, none⟩ (.slice ya3 yn3 yc3)).setCell ⟨w.heap.size, j * 6 + 4, none⟩ (.slice ya4 yn4 yc4)).setCell ⟨w.heap.size, j * 6 + 5, none⟩ (.int .i64 c5)) = puts w.heap.size (j * 6) [.bool c0, .slice ya1 yn1 yc1, .slice ya2 yn2 yc2, .slice ya3 yn3 yc3, .slice ya4 yn4 yc4, .int .i64 c5] w1 from rfl]
      generalize puts w.heap.size (j * 6) [.bool c0, .slice ya1 yn1 yc1, .slice ya2 yn2 yc2, .slice ya3 yn3 yc3, .slice ya4 yn4 yc4, .int .i64 c5] w1 = w2 at hF2 hB2 ⊢
      go_roundw
      case rel => exact ⟨j + 1, by omega, by go_num, hF2, hB2⟩
      case measure => simp [intOf]; omega
    · obtain rfl : j = n := by omega
      go_wp2_with fail
      go_ret
      exact ⟨_, rfl, hF.rd, hB⟩
theorem toAll : ∀ d : Dat, ToAll d
  | .v x => fun ty hd y w _ hf => by cases ty <;> first | (cases hd; done) | exact hf.elim
  | .sl n k f => fun ty hd => by
    have IH : ∀ i j, ToAll (f i j) := fun i j => toAll (f i j)
    cases ty
    case int => cases hd
    case bool => cases hd
    case str => cases hd
    case rows => cases hd
    case names => cases hd
    case exprs => exact toExprS_any IH
    case items => exact toItemS_any IH
    case sources => exact toSourceS_any IH
    case keys => exact toSortKeyS_any IH
    case queries => exact toQueryS_any IH
end Go.Proofs.YtcliijfdlcagoaaGreat
