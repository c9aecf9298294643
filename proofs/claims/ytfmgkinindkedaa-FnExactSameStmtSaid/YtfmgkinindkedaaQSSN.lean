/- Joined texts: EqFI EqFS EqFK SamePI. -/
import Derived.Test.YtfmgkinindkedaaQSSM
import Derived.Test.YtfmgkinindkedaaQSSL
/- slices.EqualFunc at the parts of a query, as this program calls it. -/
namespace Go.Proofs.Ytfmgkinindkedaa
open Go.RowKit

set_option maxRecDepth 100000 in
set_option maxHeartbeats 8000000 in
theorem eqf_items (w0 W : World) (a1 : Option Addr) (p1 : Nat) (a2 : Option Addr) (p2 : Nat) (L1 L2 : List Nd) (hb0 : Below w0.heap.size w0 W)
    (h1 : LK (rowTy .items) w0 W (fun _ => True) (.slice a1 L1.length p1) L1) (h2 : LK (rowTy .items) w0 W (fun _ => True) (.slice a2 L2.length p2) L2) (hN : L1.length ≤ 1048576) (_hN2 : L2.length ≤ 1048576)
    (HF : ∀ c ∈ L1, ∀ c' ∈ L2, ∀ (ys ys' : List Value) (W' : World), OutK (rowTy .items) w0 ys [c] → OutK (rowTy .items) w0 ys' [c'] → Below w0.heap.size w0 W' →
      Calls Try.prog 163 #[.agg ys.toArray, .agg ys'.toArray] W' fun e w' => e = .returned (.bool (itemSame c c')) ∧ Below W'.heap.size W' w') :
    Calls Try.prog 162 #[.slice a1 L1.length p1, .slice a2 L2.length p2, .func (.func 163) #[] #[]] W fun e w' => e = .returned (.bool (allZ itemSame L1 L2)) ∧ Below W.heap.size W w' := by
  have hB0 := Below.refl W.heap.size W
  by_cases hl : L1.length = L2.length
  · go_enter Try.func162, Try.ntmps162
    have hl2 : ((L1.length : Int) != (L2.length : Int)) = false := by simp; omega
    have HL := Lib.hid hl
    clear hl
    go_wp2_with fail
    clear hl2
    go_loopw [17] (fun i wr => ∃ j : Nat, j ≤ L1.length ∧ i = .int .i64 (j : Int) ∧ Below W.heap.size W wr ∧ Hid (allZ itemSame (L1.take j) (L2.take j) = true)) (fun i _ => L1.length - (intOf i).toNat)
    case atStart => exact ⟨0, by omega, rfl, hB0, rfl⟩
    case round =>
      obtain ⟨j, hj, rfl, hB, HA⟩ := hrel
      by_cases hlt : j < L1.length
      · have hlt2 : (j : Int) < (L1.length : Int) := by omega
        have hltb : j < L2.length := by have := HL.out; omega
        obtain ⟨g, o, cap', ys, hv, hys, -, hg, hcell⟩ := h1.at (List.getElem?_eq_getElem hlt)
        injection hv with e1 _ e3
        subst e1; subst e3
        obtain ⟨g2, o2, cap2, ys2, hv2, hys2, -, hg2, hcell2⟩ := h2.at (List.getElem?_eq_getElem hltb)
        injection hv2 with e1 _ e3
        subst e1; subst e3
        have HC := fun w' h => HF L1[j] (List.getElem_mem hlt) L2[j] (List.getElem_mem hltb) ys ys2 w' hys hys2 h
        obtain ⟨x0, x1, x2, x3, x4, x5, x6, x7, x8, x9, ax10, nx10, px10, ax11, nx11, px11, x12, rfl, -⟩ := hys.itemRow
        obtain ⟨y0, y1, y2, y3, y4, y5, y6, y7, y8, y9, ay10, ny10, py10, ay11, ny11, py11, y12, rfl, -⟩ := hys2.itemRow
        have z0 : wr.cell? ⟨g, o + j * 13, none⟩ = some (.bool x0) := (hB.cell (p := ⟨g, o + j * 13, none⟩) hg).trans (hcell 0 _ rfl)
        have z1 : wr.cell? ⟨g, o + j * 13 + 1, none⟩ = some (.string x1) := (hB.cell (p := ⟨g, o + j * 13 + 1, none⟩) hg).trans (hcell 1 _ rfl)
        have z2 : wr.cell? ⟨g, o + j * 13 + 2, none⟩ = some (.int .i64 x2) := (hB.cell (p := ⟨g, o + j * 13 + 2, none⟩) hg).trans (hcell 2 _ rfl)
        have z3 : wr.cell? ⟨g, o + j * 13 + 3, none⟩ = some (.int .i64 x3) := (hB.cell (p := ⟨g, o + j * 13 + 3, none⟩) hg).trans (hcell 3 _ rfl)
        have z4 : wr.cell? ⟨g, o + j * 13 + 4, none⟩ = some (.bool x4) := (hB.cell (p := ⟨g, o + j * 13 + 4, none⟩) hg).trans (hcell 4 _ rfl)
        have z5 : wr.cell? ⟨g, o + j * 13 + 5, none⟩ = some (.int .i64 x5) := (hB.cell (p := ⟨g, o + j * 13 + 5, none⟩) hg).trans (hcell 5 _ rfl)
        have z6 : wr.cell? ⟨g, o + j * 13 + 6, none⟩ = some (.int .i64 x6) := (hB.cell (p := ⟨g, o + j * 13 + 6, none⟩) hg).trans (hcell 6 _ rfl)
        have z7 : wr.cell? ⟨g, o + j * 13 + 7, none⟩ = some (.string x7) := (hB.cell (p := ⟨g, o + j * 13 + 7, none⟩) hg).trans (hcell 7 _ rfl)
        have z8 : wr.cell? ⟨g, o + j * 13 + 8, none⟩ = some (.string x8) := (hB.cell (p := ⟨g, o + j * 13 + 8, none⟩) hg).trans (hcell 8 _ rfl)
        have z9 : wr.cell? ⟨g, o + j * 13 + 9, none⟩ = some (.string x9) := (hB.cell (p := ⟨g, o + j * 13 + 9, none⟩) hg).trans (hcell 9 _ rfl)
        have z10 : wr.cell? ⟨g, o + j * 13 + 10, none⟩ = some (.slice ax10 nx10 px10) := (hB.cell (p := ⟨g, o + j * 13 + 10, none⟩) hg).trans (hcell 10 _ rfl)
        have z11 : wr.cell? ⟨g, o + j * 13 + 11, none⟩ = some (.slice ax11 nx11 px11) := (hB.cell (p := ⟨g, o + j * 13 + 11, none⟩) hg).trans (hcell 11 _ rfl)
        have z12 : wr.cell? ⟨g, o + j * 13 + 12, none⟩ = some (.string x12) := (hB.cell (p := ⟨g, o + j * 13 + 12, none⟩) hg).trans (hcell 12 _ rfl)
        have u0 : wr.cell? ⟨g2, o2 + j * 13, none⟩ = some (.bool y0) := (hB.cell (p := ⟨g2, o2 + j * 13, none⟩) hg2).trans (hcell2 0 _ rfl)
        have u1 : wr.cell? ⟨g2, o2 + j * 13 + 1, none⟩ = some (.string y1) := (hB.cell (p := ⟨g2, o2 + j * 13 + 1, none⟩) hg2).trans (hcell2 1 _ rfl)
        have u2 : wr.cell? ⟨g2, o2 + j * 13 + 2, none⟩ = some (.int .i64 y2) := (hB.cell (p := ⟨g2, o2 + j * 13 + 2, none⟩) hg2).trans (hcell2 2 _ rfl)
        have u3 : wr.cell? ⟨g2, o2 + j * 13 + 3, none⟩ = some (.int .i64 y3) := (hB.cell (p := ⟨g2, o2 + j * 13 + 3, none⟩) hg2).trans (hcell2 3 _ rfl)
        have u4 : wr.cell? ⟨g2, o2 + j * 13 + 4, none⟩ = some (.bool y4) := (hB.cell (p := ⟨g2, o2 + j * 13 + 4, none⟩) hg2).trans (hcell2 4 _ rfl)
        have u5 : wr.cell? ⟨g2, o2 + j * 13 + 5, none⟩ = some (.int .i64 y5) := (hB.cell (p := ⟨g2, o2 + j * 13 + 5, none⟩) hg2).trans (hcell2 5 _ rfl)
        have u6 : wr.cell? ⟨g2, o2 + j * 13 + 6, none⟩ = some (.int .i64 y6) := (hB.cell (p := ⟨g2, o2 + j * 13 + 6, none⟩) hg2).trans (hcell2 6 _ rfl)
        have u7 : wr.cell? ⟨g2, o2 + j * 13 + 7, none⟩ = some (.string y7) := (hB.cell (p := ⟨g2, o2 + j * 13 + 7, none⟩) hg2).trans (hcell2 7 _ rfl)
        have u8 : wr.cell? ⟨g2, o2 + j * 13 + 8, none⟩ = some (.string y8) := (hB.cell (p := ⟨g2, o2 + j * 13 + 8, none⟩) hg2).trans (hcell2 8 _ rfl)
        have u9 : wr.cell? ⟨g2, o2 + j * 13 + 9, none⟩ = some (.string y9) := (hB.cell (p := ⟨g2, o2 + j * 13 + 9, none⟩) hg2).trans (hcell2 9 _ rfl)
        have u10 : wr.cell? ⟨g2, o2 + j * 13 + 10, none⟩ = some (.slice ay10 ny10 py10) := (hB.cell (p := ⟨g2, o2 + j * 13 + 10, none⟩) hg2).trans (hcell2 10 _ rfl)
        have u11 : wr.cell? ⟨g2, o2 + j * 13 + 11, none⟩ = some (.slice ay11 ny11 py11) := (hB.cell (p := ⟨g2, o2 + j * 13 + 11, none⟩) hg2).trans (hcell2 11 _ rfl)
        have u12 : wr.cell? ⟨g2, o2 + j * 13 + 12, none⟩ = some (.string y12) := (hB.cell (p := ⟨g2, o2 + j * 13 + 12, none⟩) hg2).trans (hcell2 12 _ rfl)
        have hgw : g2 < wr.heap.size := Nat.lt_of_lt_of_le hg2 hB.size
        clear hcell hcell2 hys hys2
        have hsnoc : allZ itemSame (L1.take (j + 1)) (L2.take (j + 1)) = (allZ itemSame (L1.take j) (L2.take j) && itemSame L1[j] L2[j]) := by
          rw [take_next (List.getElem?_eq_getElem hlt), take_next (List.getElem?_eq_getElem hltb), allZ_append _ (by rw [List.length_take, List.length_take]; have := HL.out; omega), allZ_cons, allZ_nil, Bool.and_true]
        have HSN := Lib.hid hsnoc
        have hal1 : Below wr.heap.size wr (wr.alloc (.cells #[.bool x0, .string x1, .int .i64 x2, .int .i64 x3, .bool x4, .int .i64 x5, .int .i64 x6, .string x7, .string x8, .string x9, .slice ax10 nx10 px10, .slice ax11 nx11 px11, .string x12] 145)) := (Below.refl _ _).alloc (Nat.le_refl _) _
        have hal2 : Below wr.heap.size wr ((wr.alloc (.cells #[.bool x0, .string x1, .int .i64 x2, .int .i64 x3, .bool x4, .int .i64 x5, .int .i64 x6, .string x7, .string x8, .string x9, .slice ax10 nx10 px10, .slice ax11 nx11 px11, .string x12] 145)).alloc (.cells #[.bool y0, .string y1, .int .i64 y2, .int .i64 y3, .bool y4, .int .i64 y5, .int .i64 y6, .string y7, .string y8, .string y9, .slice ay10 ny10 py10, .slice ay11 ny11 py11, .string y12] 145)) := hal1.alloc (by simp) _
        have hb2 := (hb0.trans (hB.mono hb0.size)).trans (hal2.mono (Nat.le_trans hb0.size hB.size))
        have hB2 := hB.trans (hal2.mono hB.size)
        have HCC := HC _ hb2
        clear hsnoc HC hal1 hal2 hb2
        generalize hp : itemSame L1[j] L2[j] = pv at HCC HSN
        have HP := Lib.hid hp
        clear hp
        cases pv
        case true =>
          have HS2 : Hid (allZ itemSame (L1.take (j + 1)) (L2.take (j + 1)) = true) := by show _ = true; rw [HSN.out, HA.out]; rfl
          go_wp2_with fail
          refine HCC.mono ?_
          clear HCC
          rintro e w2 ⟨rfl, hb2⟩
          have hB3 := hB2.trans (hb2.mono hB2.size)
          clear hb2 hB2 z0 u0 z1 u1 z2 u2 z3 u3 z4 u4 z5 u5 z6 u6 z7 u7 z8 u8 z9 u9 z10 u10 z11 u11 z12 u12
          go_wp2_with fail
          go_roundw
          case rel => exact ⟨j + 1, by omega, by go_num, hB3, HS2⟩
          case measure => simp [intOf]; omega
        case false =>
          have HS2 : Hid (allZ itemSame L1 L2 = false) := by
            show _ = false
            have e1 : L1 = L1.take (j + 1) ++ L1.drop (j + 1) := (List.take_append_drop _ _).symm
            have e2 : L2 = L2.take (j + 1) ++ L2.drop (j + 1) := (List.take_append_drop _ _).symm
            rw [e1, e2, allZ_append _ (by rw [List.length_take, List.length_take]; have := HL.out; omega), HSN.out, HA.out]; rfl
          go_wp2_with fail
          refine HCC.mono ?_
          clear HCC
          rintro e w2 ⟨rfl, hb2⟩
          have hB3 := hB2.trans (hb2.mono hB2.size)
          clear hb2 hB2 z0 u0 z1 u1 z2 u2 z3 u3 z4 u4 z5 u5 z6 u6 z7 u7 z8 u8 z9 u9 z10 u10 z11 u11 z12 u12
          go_wp2_with fail
          go_ret
          exact ⟨by rw [HS2.out]; rfl, hB3⟩
      · obtain rfl : j = L1.length := by omega
        clear hlt hj
        go_wp2_with fail
        go_ret
        refine ⟨?_, hB⟩
        have h := HA.out
        have hl := HL.out
        rw [List.take_length, hl, List.take_length] at h
        rw [h]; rfl
  · have hl2 : ((L1.length : Int) != (L2.length : Int)) = true := by simp; omega
    have HZ := Lib.hid (allZ_len (p := itemSame) hl)
    clear hl
    go_enter Try.func162, Try.ntmps162
    go_wp2_with fail
    go_ret
    exact ⟨by rw [HZ.out]; rfl, hB0⟩
end Go.Proofs.Ytfmgkinindkedaa

/- slices.EqualFunc at the parts of a query, as this program calls it. -/
namespace Go.Proofs.Ytfmgkinindkedaa
open Go.RowKit

set_option maxRecDepth 100000 in
set_option maxHeartbeats 8000000 in
theorem eqf_sources (w0 W : World) (a1 : Option Addr) (p1 : Nat) (a2 : Option Addr) (p2 : Nat) (L1 L2 : List Nd) (hb0 : Below w0.heap.size w0 W)
    (h1 : LK (rowTy .sources) w0 W (fun _ => True) (.slice a1 L1.length p1) L1) (h2 : LK (rowTy .sources) w0 W (fun _ => True) (.slice a2 L2.length p2) L2) (hN : L1.length ≤ 1048576) (_hN2 : L2.length ≤ 1048576)
    (HF : ∀ c ∈ L1, ∀ c' ∈ L2, ∀ (ys ys' : List Value) (W' : World), OutK (rowTy .sources) w0 ys [c] → OutK (rowTy .sources) w0 ys' [c'] → Below w0.heap.size w0 W' →
      Calls Try.prog 165 #[.agg ys.toArray, .agg ys'.toArray] W' fun e w' => e = .returned (.bool (sourceSame c c')) ∧ Below W'.heap.size W' w') :
    Calls Try.prog 164 #[.slice a1 L1.length p1, .slice a2 L2.length p2, .func (.func 165) #[] #[]] W fun e w' => e = .returned (.bool (allZ sourceSame L1 L2)) ∧ Below W.heap.size W w' := by
  have hB0 := Below.refl W.heap.size W
  by_cases hl : L1.length = L2.length
  · go_enter Try.func164, Try.ntmps164
    have hl2 : ((L1.length : Int) != (L2.length : Int)) = false := by simp; omega
    have HL := Lib.hid hl
    clear hl
    go_wp2_with fail
    clear hl2
    go_loopw [17] (fun i wr => ∃ j : Nat, j ≤ L1.length ∧ i = .int .i64 (j : Int) ∧ Below W.heap.size W wr ∧ Hid (allZ sourceSame (L1.take j) (L2.take j) = true)) (fun i _ => L1.length - (intOf i).toNat)
    case atStart => exact ⟨0, by omega, rfl, hB0, rfl⟩
    case round =>
      obtain ⟨j, hj, rfl, hB, HA⟩ := hrel
      by_cases hlt : j < L1.length
      · have hlt2 : (j : Int) < (L1.length : Int) := by omega
        have hltb : j < L2.length := by have := HL.out; omega
        obtain ⟨g, o, cap', ys, hv, hys, -, hg, hcell⟩ := h1.at (List.getElem?_eq_getElem hlt)
        injection hv with e1 _ e3
        subst e1; subst e3
        obtain ⟨g2, o2, cap2, ys2, hv2, hys2, -, hg2, hcell2⟩ := h2.at (List.getElem?_eq_getElem hltb)
        injection hv2 with e1 _ e3
        subst e1; subst e3
        have HC := fun w' h => HF L1[j] (List.getElem_mem hlt) L2[j] (List.getElem_mem hltb) ys ys2 w' hys hys2 h
        obtain ⟨x0, x1, ax2, nx2, px2, rfl, -⟩ := hys.sourceRow
        obtain ⟨y0, y1, ay2, ny2, py2, rfl, -⟩ := hys2.sourceRow
        have z0 : wr.cell? ⟨g, o + j * 3, none⟩ = some (.string x0) := (hB.cell (p := ⟨g, o + j * 3, none⟩) hg).trans (hcell 0 _ rfl)
        have z1 : wr.cell? ⟨g, o + j * 3 + 1, none⟩ = some (.string x1) := (hB.cell (p := ⟨g, o + j * 3 + 1, none⟩) hg).trans (hcell 1 _ rfl)
        have z2 : wr.cell? ⟨g, o + j * 3 + 2, none⟩ = some (.slice ax2 nx2 px2) := (hB.cell (p := ⟨g, o + j * 3 + 2, none⟩) hg).trans (hcell 2 _ rfl)
        have u0 : wr.cell? ⟨g2, o2 + j * 3, none⟩ = some (.string y0) := (hB.cell (p := ⟨g2, o2 + j * 3, none⟩) hg2).trans (hcell2 0 _ rfl)
        have u1 : wr.cell? ⟨g2, o2 + j * 3 + 1, none⟩ = some (.string y1) := (hB.cell (p := ⟨g2, o2 + j * 3 + 1, none⟩) hg2).trans (hcell2 1 _ rfl)
        have u2 : wr.cell? ⟨g2, o2 + j * 3 + 2, none⟩ = some (.slice ay2 ny2 py2) := (hB.cell (p := ⟨g2, o2 + j * 3 + 2, none⟩) hg2).trans (hcell2 2 _ rfl)
        have hgw : g2 < wr.heap.size := Nat.lt_of_lt_of_le hg2 hB.size
        clear hcell hcell2 hys hys2
        have hsnoc : allZ sourceSame (L1.take (j + 1)) (L2.take (j + 1)) = (allZ sourceSame (L1.take j) (L2.take j) && sourceSame L1[j] L2[j]) := by
          rw [take_next (List.getElem?_eq_getElem hlt), take_next (List.getElem?_eq_getElem hltb), allZ_append _ (by rw [List.length_take, List.length_take]; have := HL.out; omega), allZ_cons, allZ_nil, Bool.and_true]
        have HSN := Lib.hid hsnoc
        have hal1 : Below wr.heap.size wr (wr.alloc (.cells #[.string x0, .string x1, .slice ax2 nx2 px2] 130)) := (Below.refl _ _).alloc (Nat.le_refl _) _
        have hal2 : Below wr.heap.size wr ((wr.alloc (.cells #[.string x0, .string x1, .slice ax2 nx2 px2] 130)).alloc (.cells #[.string y0, .string y1, .slice ay2 ny2 py2] 130)) := hal1.alloc (by simp) _
        have hb2 := (hb0.trans (hB.mono hb0.size)).trans (hal2.mono (Nat.le_trans hb0.size hB.size))
        have hB2 := hB.trans (hal2.mono hB.size)
        have HCC := HC _ hb2
        clear hsnoc HC hal1 hal2 hb2
        generalize hp : sourceSame L1[j] L2[j] = pv at HCC HSN
        have HP := Lib.hid hp
        clear hp
        cases pv
        case true =>
          have HS2 : Hid (allZ sourceSame (L1.take (j + 1)) (L2.take (j + 1)) = true) := by show _ = true; rw [HSN.out, HA.out]; rfl
          go_wp2_with fail
          refine HCC.mono ?_
          clear HCC
          rintro e w2 ⟨rfl, hb2⟩
          have hB3 := hB2.trans (hb2.mono hB2.size)
          clear hb2 hB2 z0 u0 z1 u1 z2 u2
          go_wp2_with fail
          go_roundw
          case rel => exact ⟨j + 1, by omega, by go_num, hB3, HS2⟩
          case measure => simp [intOf]; omega
        case false =>
          have HS2 : Hid (allZ sourceSame L1 L2 = false) := by
            show _ = false
            have e1 : L1 = L1.take (j + 1) ++ L1.drop (j + 1) := (List.take_append_drop _ _).symm
            have e2 : L2 = L2.take (j + 1) ++ L2.drop (j + 1) := (List.take_append_drop _ _).symm
            rw [e1, e2, allZ_append _ (by rw [List.length_take, List.length_take]; have := HL.out; omega), HSN.out, HA.out]; rfl
          go_wp2_with fail
          refine HCC.mono ?_
          clear HCC
          rintro e w2 ⟨rfl, hb2⟩
          have hB3 := hB2.trans (hb2.mono hB2.size)
          clear hb2 hB2 z0 u0 z1 u1 z2 u2
          go_wp2_with fail
          go_ret
          exact ⟨by rw [HS2.out]; rfl, hB3⟩
      · obtain rfl : j = L1.length := by omega
        clear hlt hj
        go_wp2_with fail
        go_ret
        refine ⟨?_, hB⟩
        have h := HA.out
        have hl := HL.out
        rw [List.take_length, hl, List.take_length] at h
        rw [h]; rfl
  · have hl2 : ((L1.length : Int) != (L2.length : Int)) = true := by simp; omega
    have HZ := Lib.hid (allZ_len (p := sourceSame) hl)
    clear hl
    go_enter Try.func164, Try.ntmps164
    go_wp2_with fail
    go_ret
    exact ⟨by rw [HZ.out]; rfl, hB0⟩
end Go.Proofs.Ytfmgkinindkedaa

/- slices.EqualFunc at the parts of a query, as this program calls it. -/
namespace Go.Proofs.Ytfmgkinindkedaa
open Go.RowKit

set_option maxRecDepth 100000 in
set_option maxHeartbeats 8000000 in
theorem eqf_keys (w0 W : World) (a1 : Option Addr) (p1 : Nat) (a2 : Option Addr) (p2 : Nat) (L1 L2 : List Nd) (hb0 : Below w0.heap.size w0 W)
    (h1 : LK (rowTy .keys) w0 W (fun _ => True) (.slice a1 L1.length p1) L1) (h2 : LK (rowTy .keys) w0 W (fun _ => True) (.slice a2 L2.length p2) L2) (hN : L1.length ≤ 1048576) (_hN2 : L2.length ≤ 1048576)
    (HF : ∀ c ∈ L1, ∀ c' ∈ L2, ∀ (ys ys' : List Value) (W' : World), OutK (rowTy .keys) w0 ys [c] → OutK (rowTy .keys) w0 ys' [c'] → Below w0.heap.size w0 W' →
      Calls Try.prog 167 #[.agg ys.toArray, .agg ys'.toArray] W' fun e w' => e = .returned (.bool (keySame c c')) ∧ Below W'.heap.size W' w') :
    Calls Try.prog 166 #[.slice a1 L1.length p1, .slice a2 L2.length p2, .func (.func 167) #[] #[]] W fun e w' => e = .returned (.bool (allZ keySame L1 L2)) ∧ Below W.heap.size W w' := by
  have hB0 := Below.refl W.heap.size W
  by_cases hl : L1.length = L2.length
  · go_enter Try.func166, Try.ntmps166
    have hl2 : ((L1.length : Int) != (L2.length : Int)) = false := by simp; omega
    have HL := Lib.hid hl
    clear hl
    go_wp2_with fail
    clear hl2
    go_loopw [17] (fun i wr => ∃ j : Nat, j ≤ L1.length ∧ i = .int .i64 (j : Int) ∧ Below W.heap.size W wr ∧ Hid (allZ keySame (L1.take j) (L2.take j) = true)) (fun i _ => L1.length - (intOf i).toNat)
    case atStart => exact ⟨0, by omega, rfl, hB0, rfl⟩
    case round =>
      obtain ⟨j, hj, rfl, hB, HA⟩ := hrel
      by_cases hlt : j < L1.length
      · have hlt2 : (j : Int) < (L1.length : Int) := by omega
        have hltb : j < L2.length := by have := HL.out; omega
        obtain ⟨g, o, cap', ys, hv, hys, -, hg, hcell⟩ := h1.at (List.getElem?_eq_getElem hlt)
        injection hv with e1 _ e3
        subst e1; subst e3
        obtain ⟨g2, o2, cap2, ys2, hv2, hys2, -, hg2, hcell2⟩ := h2.at (List.getElem?_eq_getElem hltb)
        injection hv2 with e1 _ e3
        subst e1; subst e3
        have HC := fun w' h => HF L1[j] (List.getElem_mem hlt) L2[j] (List.getElem_mem hltb) ys ys2 w' hys hys2 h
        obtain ⟨x0, x1, x2, x3, x4, x5, x6, x7, ax8, nx8, px8, ax9, nx9, px9, x10, rfl, -⟩ := hys.keyRow
        obtain ⟨y0, y1, y2, y3, y4, y5, y6, y7, ay8, ny8, py8, ay9, ny9, py9, y10, rfl, -⟩ := hys2.keyRow
        have z0 : wr.cell? ⟨g, o + j * 11, none⟩ = some (.int .i64 x0) := (hB.cell (p := ⟨g, o + j * 11, none⟩) hg).trans (hcell 0 _ rfl)
        have z1 : wr.cell? ⟨g, o + j * 11 + 1, none⟩ = some (.int .i64 x1) := (hB.cell (p := ⟨g, o + j * 11 + 1, none⟩) hg).trans (hcell 1 _ rfl)
        have z2 : wr.cell? ⟨g, o + j * 11 + 2, none⟩ = some (.bool x2) := (hB.cell (p := ⟨g, o + j * 11 + 2, none⟩) hg).trans (hcell 2 _ rfl)
        have z3 : wr.cell? ⟨g, o + j * 11 + 3, none⟩ = some (.int .i64 x3) := (hB.cell (p := ⟨g, o + j * 11 + 3, none⟩) hg).trans (hcell 3 _ rfl)
        have z4 : wr.cell? ⟨g, o + j * 11 + 4, none⟩ = some (.int .i64 x4) := (hB.cell (p := ⟨g, o + j * 11 + 4, none⟩) hg).trans (hcell 4 _ rfl)
        have z5 : wr.cell? ⟨g, o + j * 11 + 5, none⟩ = some (.string x5) := (hB.cell (p := ⟨g, o + j * 11 + 5, none⟩) hg).trans (hcell 5 _ rfl)
        have z6 : wr.cell? ⟨g, o + j * 11 + 6, none⟩ = some (.string x6) := (hB.cell (p := ⟨g, o + j * 11 + 6, none⟩) hg).trans (hcell 6 _ rfl)
        have z7 : wr.cell? ⟨g, o + j * 11 + 7, none⟩ = some (.string x7) := (hB.cell (p := ⟨g, o + j * 11 + 7, none⟩) hg).trans (hcell 7 _ rfl)
        have z8 : wr.cell? ⟨g, o + j * 11 + 8, none⟩ = some (.slice ax8 nx8 px8) := (hB.cell (p := ⟨g, o + j * 11 + 8, none⟩) hg).trans (hcell 8 _ rfl)
        have z9 : wr.cell? ⟨g, o + j * 11 + 9, none⟩ = some (.slice ax9 nx9 px9) := (hB.cell (p := ⟨g, o + j * 11 + 9, none⟩) hg).trans (hcell 9 _ rfl)
        have z10 : wr.cell? ⟨g, o + j * 11 + 10, none⟩ = some (.bool x10) := (hB.cell (p := ⟨g, o + j * 11 + 10, none⟩) hg).trans (hcell 10 _ rfl)
        have u0 : wr.cell? ⟨g2, o2 + j * 11, none⟩ = some (.int .i64 y0) := (hB.cell (p := ⟨g2, o2 + j * 11, none⟩) hg2).trans (hcell2 0 _ rfl)
        have u1 : wr.cell? ⟨g2, o2 + j * 11 + 1, none⟩ = some (.int .i64 y1) := (hB.cell (p := ⟨g2, o2 + j * 11 + 1, none⟩) hg2).trans (hcell2 1 _ rfl)
        have u2 : wr.cell? ⟨g2, o2 + j * 11 + 2, none⟩ = some (.bool y2) := (hB.cell (p := ⟨g2, o2 + j * 11 + 2, none⟩) hg2).trans (hcell2 2 _ rfl)
        have u3 : wr.cell? ⟨g2, o2 + j * 11 + 3, none⟩ = some (.int .i64 y3) := (hB.cell (p := ⟨g2, o2 + j * 11 + 3, none⟩) hg2).trans (hcell2 3 _ rfl)
        have u4 : wr.cell? ⟨g2, o2 + j * 11 + 4, none⟩ = some (.int .i64 y4) := (hB.cell (p := ⟨g2, o2 + j * 11 + 4, none⟩) hg2).trans (hcell2 4 _ rfl)
        have u5 : wr.cell? ⟨g2, o2 + j * 11 + 5, none⟩ = some (.string y5) := (hB.cell (p := ⟨g2, o2 + j * 11 + 5, none⟩) hg2).trans (hcell2 5 _ rfl)
        have u6 : wr.cell? ⟨g2, o2 + j * 11 + 6, none⟩ = some (.string y6) := (hB.cell (p := ⟨g2, o2 + j * 11 + 6, none⟩) hg2).trans (hcell2 6 _ rfl)
        have u7 : wr.cell? ⟨g2, o2 + j * 11 + 7, none⟩ = some (.string y7) := (hB.cell (p := ⟨g2, o2 + j * 11 + 7, none⟩) hg2).trans (hcell2 7 _ rfl)
        have u8 : wr.cell? ⟨g2, o2 + j * 11 + 8, none⟩ = some (.slice ay8 ny8 py8) := (hB.cell (p := ⟨g2, o2 + j * 11 + 8, none⟩) hg2).trans (hcell2 8 _ rfl)
        have u9 : wr.cell? ⟨g2, o2 + j * 11 + 9, none⟩ = some (.slice ay9 ny9 py9) := (hB.cell (p := ⟨g2, o2 + j * 11 + 9, none⟩) hg2).trans (hcell2 9 _ rfl)
        have u10 : wr.cell? ⟨g2, o2 + j * 11 + 10, none⟩ = some (.bool y10) := (hB.cell (p := ⟨g2, o2 + j * 11 + 10, none⟩) hg2).trans (hcell2 10 _ rfl)
        have hgw : g2 < wr.heap.size := Nat.lt_of_lt_of_le hg2 hB.size
        clear hcell hcell2 hys hys2
        have hsnoc : allZ keySame (L1.take (j + 1)) (L2.take (j + 1)) = (allZ keySame (L1.take j) (L2.take j) && keySame L1[j] L2[j]) := by
          rw [take_next (List.getElem?_eq_getElem hlt), take_next (List.getElem?_eq_getElem hltb), allZ_append _ (by rw [List.length_take, List.length_take]; have := HL.out; omega), allZ_cons, allZ_nil, Bool.and_true]
        have HSN := Lib.hid hsnoc
        have hal1 : Below wr.heap.size wr (wr.alloc (.cells #[.int .i64 x0, .int .i64 x1, .bool x2, .int .i64 x3, .int .i64 x4, .string x5, .string x6, .string x7, .slice ax8 nx8 px8, .slice ax9 nx9 px9, .bool x10] 147)) := (Below.refl _ _).alloc (Nat.le_refl _) _
        have hal2 : Below wr.heap.size wr ((wr.alloc (.cells #[.int .i64 x0, .int .i64 x1, .bool x2, .int .i64 x3, .int .i64 x4, .string x5, .string x6, .string x7, .slice ax8 nx8 px8, .slice ax9 nx9 px9, .bool x10] 147)).alloc (.cells #[.int .i64 y0, .int .i64 y1, .bool y2, .int .i64 y3, .int .i64 y4, .string y5, .string y6, .string y7, .slice ay8 ny8 py8, .slice ay9 ny9 py9, .bool y10] 147)) := hal1.alloc (by simp) _
        have hb2 := (hb0.trans (hB.mono hb0.size)).trans (hal2.mono (Nat.le_trans hb0.size hB.size))
        have hB2 := hB.trans (hal2.mono hB.size)
        have HCC := HC _ hb2
        clear hsnoc HC hal1 hal2 hb2
        generalize hp : keySame L1[j] L2[j] = pv at HCC HSN
        have HP := Lib.hid hp
        clear hp
        cases pv
        case true =>
          have HS2 : Hid (allZ keySame (L1.take (j + 1)) (L2.take (j + 1)) = true) := by show _ = true; rw [HSN.out, HA.out]; rfl
          go_wp2_with fail
          refine HCC.mono ?_
          clear HCC
          rintro e w2 ⟨rfl, hb2⟩
          have hB3 := hB2.trans (hb2.mono hB2.size)
          clear hb2 hB2 z0 u0 z1 u1 z2 u2 z3 u3 z4 u4 z5 u5 z6 u6 z7 u7 z8 u8 z9 u9 z10 u10
          go_wp2_with fail
          go_roundw
          case rel => exact ⟨j + 1, by omega, by go_num, hB3, HS2⟩
          case measure => simp [intOf]; omega
        case false =>
          have HS2 : Hid (allZ keySame L1 L2 = false) := by
            show _ = false
            have e1 : L1 = L1.take (j + 1) ++ L1.drop (j + 1) := (List.take_append_drop _ _).symm
            have e2 : L2 = L2.take (j + 1) ++ L2.drop (j + 1) := (List.take_append_drop _ _).symm
            rw [e1, e2, allZ_append _ (by rw [List.length_take, List.length_take]; have := HL.out; omega), HSN.out, HA.out]; rfl
          go_wp2_with fail
          refine HCC.mono ?_
          clear HCC
          rintro e w2 ⟨rfl, hb2⟩
          have hB3 := hB2.trans (hb2.mono hB2.size)
          clear hb2 hB2 z0 u0 z1 u1 z2 u2 z3 u3 z4 u4 z5 u5 z6 u6 z7 u7 z8 u8 z9 u9 z10 u10
          go_wp2_with fail
          go_ret
          exact ⟨by rw [HS2.out]; rfl, hB3⟩
      · obtain rfl : j = L1.length := by omega
        clear hlt hj
        go_wp2_with fail
        go_ret
        refine ⟨?_, hB⟩
        have h := HA.out
        have hl := HL.out
        rw [List.take_length, hl, List.take_length] at h
        rw [h]; rfl
  · have hl2 : ((L1.length : Int) != (L2.length : Int)) = true := by simp; omega
    have HZ := Lib.hid (allZ_len (p := keySame) hl)
    clear hl
    go_enter Try.func166, Try.ntmps166
    go_wp2_with fail
    go_ret
    exact ⟨by rw [HZ.out]; rfl, hB0⟩
end Go.Proofs.Ytfmgkinindkedaa

/- The program's sameItem, sameSource and sameKey. -/
namespace Go.Proofs.Ytfmgkinindkedaa
open Go.RowKit

theorem eqL_int {c c' : Nd} {j : Nat} {a b : Int} {ty : Ty} (h : c j = .v (.int .i64 a)) (h' : c' j = .v (.int .i64 b)) : eqL c c' j ty = (a == b) := by unfold eqL; rw [h, h', same_int]
theorem eqL_bool {c c' : Nd} {j : Nat} {a b : Bool} {ty : Ty} (h : c j = .v (.bool a)) (h' : c' j = .v (.bool b)) : eqL c c' j ty = (a == b) := by unfold eqL; rw [h, h', same_bool]
theorem eqL_str {c c' : Nd} {j : Nat} {a b : ByteArray} {ty : Ty} (h : c j = .v (.string a)) (h' : c' j = .v (.string b)) : eqL c c' j ty = decide (a = b) := by unfold eqL; rw [h, h', same_str]
theorem str_yes {a b : ByteArray} (h : a = b) : (a.toList == b.toList) = true := by subst h; simp
theorem str_no {a b : ByteArray} (h : ¬ a = b) : (a.toList == b.toList) = false := by
  simp only [beq_eq_false_iff_ne, ne_eq]
  intro e
  rw [ByteArray.toList_eq, ByteArray.toList_eq] at e
  exact h (by cases a; cases b; simpa using e)
theorem Rd.slen {w : World} {x : Option Addr} {n p : Nat} {d : Dat} {ty : Ty} (r : Rd w 0 (.slice x n p) d) (q : Fits d ty) (hd : deep ty = true) : d.len = n := by
  obtain ⟨f, rfl, _, _⟩ := r.openS q hd
  rfl
set_option maxRecDepth 100000 in
set_option maxHeartbeats 4000000 in
theorem sameItem_any (w0 : World) (c c' : Nd) (ys ys' : List Value) (W : World) (hys : OutK (rowTy .items) w0 ys [c]) (hys' : OutK (rowTy .items) w0 ys' [c']) :
    Calls Try.prog 163 #[.agg ys.toArray, .agg ys'.toArray] W fun e w' => e = .returned (.bool (itemSame c c')) ∧ Below W.heap.size W w' := by
  obtain ⟨x0, x1, x2, x3, x4, x5, x6, x7, x8, x9, ax10, nx10, px10, ax11, nx11, px11, x12, rfl, e0, ⟨e1, -⟩, -, -, -, -, -, -, -, -, -, -, ⟨e12, -⟩⟩ := hys.itemRow
  obtain ⟨y0, y1, y2, y3, y4, y5, y6, y7, y8, y9, ay10, ny10, py10, ay11, ny11, py11, y12, rfl, l0, ⟨l1, -⟩, -, -, -, -, -, -, -, -, -, -, ⟨l12, -⟩⟩ := hys'.itemRow
  have hB : Below W.heap.size W ((W.alloc (.cells #[.bool x0, .string x1, .int .i64 x2, .int .i64 x3, .bool x4, .int .i64 x5, .int .i64 x6, .string x7, .string x8, .string x9, .slice ax10 nx10 px10, .slice ax11 nx11 px11, .string x12] 145)).alloc (.cells #[.bool y0, .string y1, .int .i64 y2, .int .i64 y3, .bool y4, .int .i64 y5, .int .i64 y6, .string y7, .string y8, .string y9, .slice ay10 ny10 py10, .slice ay11 ny11 py11, .string y12] 145)) := ((Below.refl _ _).alloc (Nat.le_refl _) _).alloc (by simp) _
  have hv : itemSame c c' = ((x0 == y0) && (decide (x1 = y1) && decide (x12 = y12))) := by
    unfold itemSame
    rw [eqL_bool e0 l0, eqL_str e1 l1, eqL_str e12 l12]
  rw [hv]
  have HB := Lib.hid hB
  clear hv hB hys hys' e0 l0 e1 l1 e12 l12
  by_cases h0 : x0 = y0
  · have g0 : (x0 == y0) = true := by simpa using h0
    have H0 := Lib.hid h0
    clear h0
    by_cases h1 : x1 = y1
    · subst h1
      by_cases h12 : x12 = y12
      · subst h12
        go_enter Try.func163, Try.ntmps163
        go_wp2_with fail
        go_ret
        exact ⟨by simp [H0.out], HB.out⟩
      · have g12 := str_no h12
        have H12 := Lib.hid h12
        clear h12
        go_enter Try.func163, Try.ntmps163
        go_wp2_with fail
        go_ret
        exact ⟨by simp [H0.out, H12.out], HB.out⟩
    · have g1 := str_no h1
      have H1 := Lib.hid h1
      clear h1
      go_enter Try.func163, Try.ntmps163
      go_wp2_with fail
      go_ret
      exact ⟨by simp [H0.out, H1.out], HB.out⟩
  · have g0 : (x0 == y0) = false := by simpa using h0
    have H0 := Lib.hid h0
    clear h0
    go_enter Try.func163, Try.ntmps163
    go_wp2_with fail
    go_ret
    exact ⟨by simp [H0.out], HB.out⟩
set_option maxRecDepth 100000 in
set_option maxHeartbeats 4000000 in
theorem sameSource_any (w0 : World) (c c' : Nd) (ys ys' : List Value) (W : World) (hys : OutK (rowTy .sources) w0 ys [c]) (hys' : OutK (rowTy .sources) w0 ys' [c']) :
    Calls Try.prog 165 #[.agg ys.toArray, .agg ys'.toArray] W fun e w' => e = .returned (.bool (sourceSame c c')) ∧ Below W.heap.size W w' := by
  obtain ⟨x0, x1, ax2, nx2, px2, rfl, ⟨e0, -⟩, ⟨e1, -⟩, ⟨er2, eq2⟩⟩ := hys.sourceRow
  obtain ⟨y0, y1, ay2, ny2, py2, rfl, ⟨l0, -⟩, ⟨l1, -⟩, ⟨lr2, lq2⟩⟩ := hys'.sourceRow
  have hB : Below W.heap.size W ((W.alloc (.cells #[.string x0, .string x1, .slice ax2 nx2 px2] 130)).alloc (.cells #[.string y0, .string y1, .slice ay2 ny2 py2] 130)) := ((Below.refl _ _).alloc (Nat.le_refl _) _).alloc (by simp) _
  have hv : sourceSame c c' = (decide (x0 = y0) && (decide (x1 = y1) && (nx2 == ny2))) := by
    unfold sourceSame
    rw [eqL_str e0 l0, eqL_str e1 l1, er2.slen eq2 rfl, lr2.slen lq2 rfl]
  rw [hv]
  have HB := Lib.hid hB
  clear hv hB hys hys' e0 l0 e1 l1 er2 eq2 lr2 lq2
  by_cases h0 : x0 = y0
  · subst h0
    by_cases h1 : x1 = y1
    · subst h1
      by_cases h2 : nx2 = ny2
      · have g2 : ((nx2 : Int) == (ny2 : Int)) = true := by simp; omega
        have H2 := Lib.hid h2
        clear h2
        go_enter Try.func165, Try.ntmps165
        go_wp2_with fail
        go_ret
        exact ⟨by simp [H2.out], HB.out⟩
      · have g2 : ((nx2 : Int) == (ny2 : Int)) = false := by simp; omega
        have H2 := Lib.hid h2
        clear h2
        go_enter Try.func165, Try.ntmps165
        go_wp2_with fail
        go_ret
        exact ⟨by simp [H2.out], HB.out⟩
    · have g1 := str_no h1
      have H1 := Lib.hid h1
      clear h1
      go_enter Try.func165, Try.ntmps165
      go_wp2_with fail
      go_ret
      exact ⟨by simp [H1.out], HB.out⟩
  · have g0 := str_no h0
    have H0 := Lib.hid h0
    clear h0
    go_enter Try.func165, Try.ntmps165
    go_wp2_with fail
    go_ret
    exact ⟨by simp [H0.out], HB.out⟩
set_option maxRecDepth 100000 in
set_option maxHeartbeats 4000000 in
theorem sameKey_any (w0 : World) (c c' : Nd) (ys ys' : List Value) (W : World) (hys : OutK (rowTy .keys) w0 ys [c]) (hys' : OutK (rowTy .keys) w0 ys' [c']) :
    Calls Try.prog 167 #[.agg ys.toArray, .agg ys'.toArray] W fun e w' => e = .returned (.bool (keySame c c')) ∧ Below W.heap.size W w' := by
  obtain ⟨x0, x1, x2, x3, x4, x5, x6, x7, ax8, nx8, px8, ax9, nx9, px9, x10, rfl, -, -, -, -, -, -, -, -, -, -, e10⟩ := hys.keyRow
  obtain ⟨y0, y1, y2, y3, y4, y5, y6, y7, ay8, ny8, py8, ay9, ny9, py9, y10, rfl, -, -, -, -, -, -, -, -, -, -, l10⟩ := hys'.keyRow
  have hB : Below W.heap.size W ((W.alloc (.cells #[.int .i64 x0, .int .i64 x1, .bool x2, .int .i64 x3, .int .i64 x4, .string x5, .string x6, .string x7, .slice ax8 nx8 px8, .slice ax9 nx9 px9, .bool x10] 147)).alloc (.cells #[.int .i64 y0, .int .i64 y1, .bool y2, .int .i64 y3, .int .i64 y4, .string y5, .string y6, .string y7, .slice ay8 ny8 py8, .slice ay9 ny9 py9, .bool y10] 147)) := ((Below.refl _ _).alloc (Nat.le_refl _) _).alloc (by simp) _
  have hv : keySame c c' = (x10 == y10) := by
    unfold keySame
    rw [eqL_bool e10 l10]
  rw [hv]
  have HB := Lib.hid hB
  clear hv hB hys hys' e10 l10
  by_cases h10 : x10 = y10
  · have g10 : (x10 == y10) = true := by simpa using h10
    have H10 := Lib.hid h10
    clear h10
    go_enter Try.func167, Try.ntmps167
    go_wp2_with fail
    go_ret
    exact ⟨by simp [H10.out], HB.out⟩
  · have g10 : (x10 == y10) = false := by simpa using h10
    have H10 := Lib.hid h10
    clear h10
    go_enter Try.func167, Try.ntmps167
    go_wp2_with fail
    go_ret
    exact ⟨by simp [H10.out], HB.out⟩
end Go.Proofs.Ytfmgkinindkedaa
