/- Joined texts: TwB. -/
import Derived.Test.YtcliijfdlcagoaaGreatQZAM
import Derived.Deep.RegionWith
namespace Go.Proofs.YtcliijfdlcagoaaGreat
set_option linter.unusedVariables false
set_option linter.unusedSimpArgs false
open Go.RowKit
theorem OutK.half {w0 : World} {ys : List Value} {t : Nd} (h : OutK twTy w0 ys [t]) : OutK exprTy w0 (ys.take 10) [t] ∧ OutK exprTy w0 (ys.drop 10) [cut 10 t] := by
  have hl : ys.length = 20 := h.1
  refine ⟨OutK.one (by rw [List.length_take, hl]; rfl) fun j hj => ?_, OutK.one (by rw [List.length_drop, hl]; rfl) fun j hj => ?_⟩
  · have hj10 : j < 10 := hj
    obtain ⟨y, hy, hr, hf⟩ := h.cellOf j (by show j < 20; omega)
    have ht : twTy[j]'(by show j < 20; omega) = exprTy[j]'hj := by show (exprTy ++ exprTy)[j]'(by show j < 20; omega) = _; exact List.getElem_append_left hj
    exact ⟨y, by rw [List.getElem?_take_of_lt hj10]; exact hy, hr, (congrArg (Fits (t j)) ht).mp hf⟩
  · have hj10 : j < 10 := hj
    obtain ⟨y, hy, hr, hf⟩ := h.cellOf (10 + j) (by show 10 + j < 20; omega)
    have ht : twTy[10 + j]'(by show 10 + j < 20; omega) = exprTy[j]'hj := by
      show (exprTy ++ exprTy)[10 + j]'(by show 10 + j < 20; omega) = _
      rw [List.getElem_append_right (by show 10 ≤ 10 + j; omega)]
      congr 1
      show 10 + j - 10 = j
      omega
    exact ⟨y, by rw [List.getElem?_drop]; exact hy, hr, (congrArg (Fits (t (10 + j))) ht).mp hf⟩
theorem slotParts_le {c : Nd} (h : Bd c) : (slotParts c).length ≤ 2097152 := by
  have h8 := h.m8
  have h9 := h.m9
  have hf9 := h.f9
  unfold slotParts
  rw [List.length_append]
  have k8 := els_msr (d := c 8)
  have k9 : ((c 9).els.flatMap slotsOf).length ≤ msr (c 9) := by
    obtain ⟨n, k, f, e⟩ := hf9.deep rfl
    rw [e] at hf9 ⊢
    have hk : k = 6 := hf9.2.2.1
    subst hk
    exact flat_slots_msr hf9 (Nat.le_refl _)
  omega
set_option maxRecDepth 100000 in
set_option maxHeartbeats 8000000 in
theorem twinsBelow_any (w0 : World) (t : Nd) (hbd : BdT t) (hal : aloneD t = true) : PartsT 87 partsT w0 t := by
  intro ys W hys hb0
  obtain ⟨hA, hB⟩ := hys.half
  have hlen := alone_len hal
  have hle := slotParts_le hbd.a
  obtain ⟨c0, c1, c2, c3, c4, c5, c6, c7, a8, n8, p8, a9, n9, p9, c10, c11, c12, c13, c14, c15, c16, c17, a18, n18, p18, a19, n19, p19, rfl, -⟩ := hys.twenty
  replace hA : OutK exprTy w0 [.int .i64 c0, .int .i64 c1, .bool c2, .int .i64 c3, .int .i64 c4, .string c5, .string c6, .string c7, .slice a8 n8 p8, .slice a9 n9 p9] [t] := hA
  replace hB : OutK exprTy w0 [.int .i64 c10, .int .i64 c11, .bool c12, .int .i64 c13, .int .i64 c14, .string c15, .string c16, .string c17, .slice a18 n18 p18, .slice a19 n19 p19] [cut 10 t] := hB
  have R : RowAt (W.alloc (.cells #[.int .i64 c0, .int .i64 c1, .bool c2, .int .i64 c3, .int .i64 c4, .string c5, .string c6, .string c7, .slice a8 n8 p8, .slice a9 n9 p9, .int .i64 c10, .int .i64 c11, .bool c12, .int .i64 c13, .int .i64 c14, .string c15, .string c16, .string c17, .slice a18 n18 p18, .slice a19 n19 p19] 127)) W.heap.size 127 #[.int .i64 c0, .int .i64 c1, .bool c2, .int .i64 c3, .int .i64 c4, .string c5, .string c6, .string c7, .slice a8 n8 p8, .slice a9 n9 p9, .int .i64 c10, .int .i64 c11, .bool c12, .int .i64 c13, .int .i64 c14, .string c15, .string c16, .string c17, .slice a18 n18 p18, .slice a19 n19 p19] := RowAt.new W _ _
  have hal1 : Below W.heap.size W (W.alloc (.cells #[.int .i64 c0, .int .i64 c1, .bool c2, .int .i64 c3, .int .i64 c4, .string c5, .string c6, .string c7, .slice a8 n8 p8, .slice a9 n9 p9, .int .i64 c10, .int .i64 c11, .bool c12, .int .i64 c13, .int .i64 c14, .string c15, .string c16, .string c17, .slice a18 n18 p18, .slice a19 n19 p19] 127)) := (Below.refl _ _).alloc (Nat.le_refl _) _
  go_enter Tryz.func87, Tryz.ntmps87
  go_wp2_with fail
  generalize W.alloc (.cells #[.int .i64 c0, .int .i64 c1, .bool c2, .int .i64 c3, .int .i64 c4, .string c5, .string c6, .string c7, .slice a8 n8 p8, .slice a9 n9 p9, .int .i64 c10, .int .i64 c11, .bool c12, .int .i64 c13, .int .i64 c14, .string c15, .string c16, .string c17, .slice a18 n18 p18, .slice a19 n19 p19] 127) = w1 at R hal1 ⊢
  generalize (Value.agg #[.int .i64 c0, .int .i64 c1, .bool c2, .int .i64 c3, .int .i64 c4, .string c5, .string c6, .string c7, .slice a8 n8 p8, .slice a9 n9 p9, .int .i64 c10, .int .i64 c11, .bool c12, .int .i64 c13, .int .i64 c14, .string c15, .string c16, .string c17, .slice a18 n18 p18, .slice a19 n19 p19]) = u0
  have hz := hb0.trans (hal1.mono hb0.size)
  have X0 := R.cell (i := 0) (v := .int .i64 c0) rfl
  have X1 := R.cell (i := 1) (v := .int .i64 c1) rfl
  have X2 := R.cell (i := 2) (v := .bool c2) rfl
  have X3 := R.cell (i := 3) (v := .int .i64 c3) rfl
  have X4 := R.cell (i := 4) (v := .int .i64 c4) rfl
  have X5 := R.cell (i := 5) (v := .string c5) rfl
  have X6 := R.cell (i := 6) (v := .string c6) rfl
  have X7 := R.cell (i := 7) (v := .string c7) rfl
  have X8 := R.cell (i := 8) (v := .slice a8 n8 p8) rfl
  have X9 := R.cell (i := 9) (v := .slice a9 n9 p9) rfl
  have X10 := R.cell (i := 10) (v := .int .i64 c10) rfl
  have X11 := R.cell (i := 11) (v := .int .i64 c11) rfl
  have X12 := R.cell (i := 12) (v := .bool c12) rfl
  have X13 := R.cell (i := 13) (v := .int .i64 c13) rfl
  have X14 := R.cell (i := 14) (v := .int .i64 c14) rfl
  have X15 := R.cell (i := 15) (v := .string c15) rfl
  have X16 := R.cell (i := 16) (v := .string c16) rfl
  have X17 := R.cell (i := 17) (v := .string c17) rfl
  have X18 := R.cell (i := 18) (v := .slice a18 n18 p18) rfl
  have X19 := R.cell (i := 19) (v := .slice a19 n19 p19) rfl
  have CA : ∀ w', Below w0.heap.size w0 w' → Calls Tryz.prog 95 #[.agg #[.int .i64 c0, .int .i64 c1, .bool c2, .int .i64 c3, .int .i64 c4, .string c5, .string c6, .string c7, .slice a8 n8 p8, .slice a9 n9 p9], .func (.func 85) #[] #[]] w' fun e w'' => ∃ v, e = .returned v ∧ PB w0 w'' (w'.heap.size + 1) v (slotParts t) ∧ Below w'.heap.size w' w'' := fun w' h => below_slots w0 w' t _ hA h hbd.a
  have CB : ∀ w', Below w0.heap.size w0 w' → Calls Tryz.prog 95 #[.agg #[.int .i64 c10, .int .i64 c11, .bool c12, .int .i64 c13, .int .i64 c14, .string c15, .string c16, .string c17, .slice a18 n18 p18, .slice a19 n19 p19], .func (.func 85) #[] #[]] w' fun e w'' => ∃ v, e = .returned v ∧ PB w0 w'' (w'.heap.size + 1) v (slotParts (cut 10 t)) ∧ Below w'.heap.size w' w'' := fun w' h => below_slots w0 w' (cut 10 t) _ hB h hbd.b
  have HL := Lib.hid hlen
  have HLE := Lib.hid hle
  have HR := Lib.hid R
  clear hA hB hys hbd hal hlen hle R
  go_region_with (first
    | (go_at_call 95; refine (CA _ (by first | exact hz | exact hz.drew)).mono ?_; clear CA; rintro e w2 ⟨va, rfl, hpa, hb2⟩; have hb2' : Below w1.heap.size w1 w2 := (by first | exact hb2 | exact (Below.refl _ _).drew.trans hb2); have RB := HR.out.later hb2'; clear X0 X1 X2 X3 X4 X5 X6 X7 X8 X9 X10 X11 X12 X13 X14 X15 X16 X17 X18 X19; have Y10 := RB.cell (i := 10) (v := .int .i64 c10) rfl; have Y11 := RB.cell (i := 11) (v := .int .i64 c11) rfl; have Y12 := RB.cell (i := 12) (v := .bool c12) rfl; have Y13 := RB.cell (i := 13) (v := .int .i64 c13) rfl; have Y14 := RB.cell (i := 14) (v := .int .i64 c14) rfl; have Y15 := RB.cell (i := 15) (v := .string c15) rfl; have Y16 := RB.cell (i := 16) (v := .string c16) rfl; have Y17 := RB.cell (i := 17) (v := .string c17) rfl; have Y18 := RB.cell (i := 18) (v := .slice a18 n18 p18) rfl; have Y19 := RB.cell (i := 19) (v := .slice a19 n19 p19) rfl; have hz2 := hz.trans (hb2'.mono hz.size); obtain ⟨xa, pa, rfl⟩ := hpa.slice)
    | (go_at_call 95; refine (CB _ (by first | exact hz2 | exact hz2.drew)).mono ?_; clear CB; rintro e w3 ⟨vb, rfl, hpb, hb3⟩; have hb3' : Below w2.heap.size w2 w3 := (by first | exact hb3 | exact (Below.refl _ _).drew.trans hb3); have hz3 := hz2.trans (hb3'.mono hz2.size); clear RB Y10 Y11 Y12 Y13 Y14 Y15 Y16 Y17 Y18 Y19; obtain ⟨xb, pb, rfl⟩ := hpb.slice; have CP := paired_any w0 w3 xa pa xb pb (slotParts t) (slotParts (cut 10 t)) (((hpa.later hb3').lk hz3).keep (Nat.le_refl _) (fun _ _ _ => rfl) fun _ _ _ => trivial) ((hpb.lk hz3).keep (Nat.le_refl _) (fun _ _ _ => rfl) fun _ _ _ => trivial) HL.out (by have := HLE.out; omega))
    | (go_at_call 49; refine CP.mono ?_; clear CP; rintro e w4 ⟨v4, rfl, hl4, hb4⟩))
  all_goals
    have hf : Below W.heap.size W w4 := ((hal1.trans (hb2'.mono hal1.size)).trans (hb3'.mono (Nat.le_trans hal1.size hb2'.size))).trans (hb4.mono (Nat.le_trans hal1.size (Nat.le_trans hb2'.size hb3'.size)))
    have hk := hl4.keep (G' := fun g => g < w0.heap.size ∨ W.heap.size ≤ g) (Nat.le_refl _) (fun _ _ _ => rfl) fun q hq _ => .inr (by have := hal1.size; have := hb2'.size; have := hb3'.size; omega)
    go_wp2_with fail
    go_ret
    exact ⟨_, rfl, hk, hf⟩
end Go.Proofs.YtcliijfdlcagoaaGreat
