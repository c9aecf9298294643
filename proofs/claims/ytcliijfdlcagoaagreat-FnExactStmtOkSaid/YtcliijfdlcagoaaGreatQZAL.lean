/- Joined texts: EqFK SamePI EqFQ SameFI VisT. -/
import Derived.Test.YtcliijfdlcagoaaGreatQZAK
import Derived.Test.YtcliijfdlcagoaaGreatQZAJ
import Derived.Test.YtcliijfdlcagoaaGreatQZAI
import Derived.OwnWalkIn
import Derived.TacticsInMore
import Derived.LoopIn
import Derived.Lib.Hide
import Derived.Laws.CopyRow
namespace Go.Proofs.YtcliijfdlcagoaaGreat
set_option linter.unusedVariables false
set_option linter.unusedSimpArgs false
open Go.RowKit
set_option maxRecDepth 100000 in
set_option maxHeartbeats 8000000 in
theorem eqf_keys (w0 W : World) (a1 : Option Addr) (p1 : Nat) (a2 : Option Addr) (p2 : Nat) (L1 L2 : List Nd) (hb0 : Below w0.heap.size w0 W)
    (h1 : LK (rowTy .keys) w0 W (fun _ => True) (.slice a1 L1.length p1) L1) (h2 : LK (rowTy .keys) w0 W (fun _ => True) (.slice a2 L2.length p2) L2) (hN : L1.length ≤ 1048576) (_hN2 : L2.length ≤ 1048576)
    (HF : ∀ c ∈ L1, ∀ c' ∈ L2, ∀ (ys ys' : List Value) (W' : World), OutK (rowTy .keys) w0 ys [c] → OutK (rowTy .keys) w0 ys' [c'] → Below w0.heap.size w0 W' →
      Calls Tryz.prog 117 #[.agg ys.toArray, .agg ys'.toArray] W' fun e w' => e = .returned (.bool (keySame c c')) ∧ Below W'.heap.size W' w') :
    Calls Tryz.prog 116 #[.slice a1 L1.length p1, .slice a2 L2.length p2, .func (.func 117) #[] #[]] W fun e w' => e = .returned (.bool (allZ keySame L1 L2)) ∧ Below W.heap.size W w' := by
  have hB0 := Below.refl W.heap.size W
  by_cases hl : L1.length = L2.length
  · go_enter Tryz.func116, Tryz.ntmps116
    have hl2 : ((L1.length : Int) != (L2.length : Int)) = false := by simp; omega
    have HL := Lib.hid hl
    clear hl
    go_wp2_with fail
    clear hl2
    go_loopw [17] (fun i wr => ∃ j : Nat, j ≤ L1.length ∧ i = .int .i64 (j : Int) ∧ Below W.heap.size W wr ∧ Hid (allZ keySame (L1.take j) (L2.take j) = true)) (fun i _ => L1.length - (intOf i).toNat)
    case atStart => exact ⟨0, by omega, rfl, hB0, rfl⟩
    case round =>
      obtain ⟨j, hj, rfl, hB, HA⟩ := hrel
      by_cases hlt : j < L1.length
      · have hlt2 : (j : Int) < (L1.length : Int) := by omega
        have hltb : j < L2.length := by have := HL.out; omega
        obtain ⟨g, o, cap', ys, hv, hys, -, hg, hcell⟩ := h1.at (List.getElem?_eq_getElem hlt)
        injection hv with e1 _ e3
        subst e1; subst e3
        obtain ⟨g2, o2, cap2, ys2, hv2, hys2, -, hg2, hcell2⟩ := h2.at (List.getElem?_eq_getElem hltb)
        injection hv2 with e1 _ e3
        subst e1; subst e3
        have HC := fun w' h => HF L1[j] (List.getElem_mem hlt) L2[j] (List.getElem_mem hltb) ys ys2 w' hys hys2 h
        obtain ⟨x0, x1, x2, x3, x4, x5, x6, x7, ax8, nx8, px8, ax9, nx9, px9, x10, rfl, -⟩ := hys.keyRow
        obtain ⟨y0, y1, y2, y3, y4, y5, y6, y7, ay8, ny8, py8, ay9, ny9, py9, y10, rfl, -⟩ := hys2.keyRow
        have z0 : wr.cell? ⟨g, o + j * 11, none⟩ = some (.int .i64 x0) := (hB.cell (p := ⟨g, o + j * 11, none⟩) hg).trans (hcell 0 _ rfl)
        have z1 : wr.cell? ⟨g, o + j * 11 + 1, none⟩ = some (.int .i64 x1) := (hB.cell (p := ⟨g, o + j * 11 + 1, none⟩) hg).trans (hcell 1 _ rfl)
        have z2 : wr.cell? ⟨g, o + j * 11 + 2, none⟩ = some (.bool x2) := (hB.cell (p := ⟨g, o + j * 11 + 2, none⟩) hg).trans (hcell 2 _ rfl)
        have z3 : wr.cell? ⟨g, o + j * 11 + 3, none⟩ = some (.int .i64 x3) := (hB.cell (p := ⟨g, o + j * 11 + 3, none⟩) hg).trans (hcell 3 _ rfl)
        have z4 : wr.cell? ⟨g, o + j * 11 + 4, none⟩ = some (.int .i64 x4) := (hB.cell (p := ⟨g, o + j * 11 + 4, none⟩) hg).trans (hcell 4 _ rfl)
        have z5 : wr.cell? ⟨g, o + j * 11 + 5, none⟩ = some (.string x5) := (hB.cell (p := ⟨g, o + j * 11 + 5, none⟩) hg).trans (hcell 5 _ rfl)
        have z6 : wr.cell? ⟨g, o + j * 11 + 6, none⟩ = some (.string x6) := (hB.cell (p := ⟨g, o + j * 11 + 6, none⟩) hg).trans (hcell 6 _ rfl)
        have z7 : wr.cell? ⟨g, o + j * 11 + 7, none⟩ = some (.string x7) := (hB.cell (p := ⟨g, o + j * 11 + 7, none⟩) hg).trans (hcell 7 _ rfl)
        have z8 : wr.cell? ⟨g, o + j * 11 + 8, none⟩ = some (.slice ax8 nx8 px8) := (hB.cell (p := ⟨g, o + j * 11 + 8, none⟩) hg).trans (hcell 8 _ rfl)
        have z9 : wr.cell? ⟨g, o + j * 11 + 9, none⟩ = some (.slice ax9 nx9 px9) := (hB.cell (p := ⟨g, o + j * 11 + 9, none⟩) hg).trans (hcell 9 _ rfl)
        have z10 : wr.cell? ⟨g, o + j * 11 + 10, none⟩ = some (.bool x10) := (hB.cell (p := ⟨g, o + j * 11 + 10, none⟩) hg).trans (hcell 10 _ rfl)
        have u0 : wr.cell? ⟨g2, o2 + j * 11, none⟩ = some (.int .i64 y0) := (hB.cell (p := ⟨g2, o2 + j * 11, none⟩) hg2).trans (hcell2 0 _ rfl)
        have u1 : wr.cell? ⟨g2, o2 + j * 11 + 1, none⟩ = some (.int .i64 y1) := (hB.cell (p := ⟨g2, o2 + j * 11 + 1, none⟩) hg2).trans (hcell2 1 _ rfl)
        have u2 : wr.cell? ⟨g2, o2 + j * 11 + 2, none⟩ = some (.bool y2) := (hB.cell (p := ⟨g2, o2 + j * 11 + 2, none⟩) hg2).trans (hcell2 2 _ rfl)
        have u3 : wr.cell? ⟨g2, o2 + j * 11 + 3, none⟩ = some (.int .i64 y3) := (hB.cell (p := ⟨g2, o2 + j * 11 + 3, none⟩) hg2).trans (hcell2 3 _ rfl)
        have u4 : wr.cell? ⟨g2, o2 + j * 11 + 4, none⟩ = some (.int .i64 y4) := (hB.cell (p := ⟨g2, o2 + j * 11 + 4, none⟩) hg2).trans (hcell2 4 _ rfl)
        have u5 : wr.cell? ⟨g2, o2 + j * 11 + 5, none⟩ = some (.string y5) := (hB.cell (p := ⟨g2, o2 + j * 11 + 5, none⟩) hg2).trans (hcell2 5 _ rfl)
        have u6 : wr.cell? ⟨g2, o2 + j * 11 + 6, none⟩ = some (.string y6) := (hB.cell (p := ⟨g2, o2 + j * 11 + 6, none⟩) hg2).trans (hcell2 6 _ rfl)
        have u7 : wr.cell? ⟨g2, o2 + j * 11 + 7, none⟩ = some (.string y7) := (hB.cell (p := ⟨g2, o2 + j * 11 + 7, none⟩) hg2).trans (hcell2 7 _ rfl)
        have u8 : wr.cell? ⟨g2, o2 + j * 11 + 8, none⟩ = some (.slice ay8 ny8 py8) := (hB.cell (p := ⟨g2, o2 + j * 11 + 8, none⟩) hg2).trans (hcell2 8 _ rfl)
        have u9 : wr.cell? ⟨g2, o2 + j * 11 + 9, none⟩ = some (.slice ay9 ny9 py9) := (hB.cell (p := ⟨g2, o2 + j * 11 + 9, none⟩) hg2).trans (hcell2 9 _ rfl)
        have u10 : wr.cell? ⟨g2, o2 + j * 11 + 10, none⟩ = some (.bool y10) := (hB.cell (p := ⟨g2, o2 + j * 11 + 10, none⟩) hg2).trans (hcell2 10 _ rfl)
        have hgw : g2 < wr.heap.size := Nat.lt_of_lt_of_le hg2 hB.size
        clear hcell hcell2 hys hys2
        have hsnoc : allZ keySame (L1.take (j + 1)) (L2.take (j + 1)) = (allZ keySame (L1.take j) (L2.take j) && keySame L1[j] L2[j]) := by
          rw [take_next (List.getElem?_eq_getElem hlt), take_next (List.getElem?_eq_getElem hltb), allZ_append _ (by rw [List.length_take, List.length_take]; have := HL.out; omega), allZ_cons, allZ_nil, Bool.and_true]
        have HSN := Lib.hid hsnoc
        have hal1 : Below wr.heap.size wr (wr.alloc (.cells #[.int .i64 x0, .int .i64 x1, .bool x2, .int .i64 x3, .int .i64 x4, .string x5, .string x6, .string x7, .slice ax8 nx8 px8, .slice ax9 nx9 px9, .bool x10] 115)) := (Below.refl _ _).alloc (Nat.le_refl _) _
        have hal2 : Below wr.heap.size wr ((wr.alloc (.cells #[.int .i64 x0, .int .i64 x1, .bool x2, .int .i64 x3, .int .i64 x4, .string x5, .string x6, .string x7, .slice ax8 nx8 px8, .slice ax9 nx9 px9, .bool x10] 115)).alloc (.cells #[.int .i64 y0, .int .i64 y1, .bool y2, .int .i64 y3, .int .i64 y4, .string y5, .string y6, .string y7, .slice ay8 ny8 py8, .slice ay9 ny9 py9, .bool y10] 115)) := hal1.alloc (by simp) _
        have hb2 := (hb0.trans (hB.mono hb0.size)).trans (hal2.mono (Nat.le_trans hb0.size hB.size))
        have hB2 := hB.trans (hal2.mono hB.size)
        have HCC := HC _ hb2
        clear hsnoc HC hal1 hal2 hb2
        generalize hp : keySame L1[j] L2[j] = pv at HCC HSN
        have HP := Lib.hid hp
        clear hp
        cases pv
        case true =>
          have HS2 : Hid (allZ keySame (L1.take (j + 1)) (L2.take (j + 1)) = true) := by show _ = true; rw [HSN.out, HA.out]; rfl
          go_wp2_with fail
          refine HCC.mono ?_
          clear HCC
          rintro e w2 ⟨rfl, hb2⟩
          have hB3 := hB2.trans (hb2.mono hB2.size)
          clear hb2 hB2 z0 u0 z1 u1 z2 u2 z3 u3 z4 u4 z5 u5 z6 u6 z7 u7 z8 u8 z9 u9 z10 u10
          go_wp2_with fail
          go_roundw
          case rel => exact ⟨j + 1, by omega, by go_num, hB3, HS2⟩
          case measure => simp [intOf]; omega
        case false =>
          have HS2 : Hid (allZ keySame L1 L2 = false) := by
            show _ = false
            have e1 : L1 = L1.take (j + 1) ++ L1.drop (j + 1) := (List.take_append_drop _ _).symm
            have e2 : L2 = L2.take (j + 1) ++ L2.drop (j + 1) := (List.take_append_drop _ _).symm
            rw [e1, e2, allZ_append _ (by rw [List.length_take, List.length_take]; have := HL.out; omega), HSN.out, HA.out]; rfl
          go_wp2_with fail
          refine HCC.mono ?_
          clear HCC
          rintro e w2 ⟨rfl, hb2⟩
          have hB3 := hB2.trans (hb2.mono hB2.size)
          clear hb2 hB2 z0 u0 z1 u1 z2 u2 z3 u3 z4 u4 z5 u5 z6 u6 z7 u7 z8 u8 z9 u9 z10 u10
          go_wp2_with fail
          go_ret
          exact ⟨by rw [HS2.out]; rfl, hB3⟩
      · obtain rfl : j = L1.length := by omega
        clear hlt hj
        go_wp2_with fail
        go_ret
        refine ⟨?_, hB⟩
        have h := HA.out
        have hl := HL.out
        rw [List.take_length, hl, List.take_length] at h
        rw [h]; rfl
  · have hl2 : ((L1.length : Int) != (L2.length : Int)) = true := by simp; omega
    have HZ := Lib.hid (allZ_len (p := keySame) hl)
    clear hl
    go_enter Tryz.func116, Tryz.ntmps116
    go_wp2_with fail
    go_ret
    exact ⟨by rw [HZ.out]; rfl, hB0⟩
theorem eqL_int {c c' : Nd} {j : Nat} {a b : Int} {ty : Ty} (h : c j = .v (.int .i64 a)) (h' : c' j = .v (.int .i64 b)) : eqL c c' j ty = (a == b) := by unfold eqL; rw [h, h', same_int]
theorem eqL_bool {c c' : Nd} {j : Nat} {a b : Bool} {ty : Ty} (h : c j = .v (.bool a)) (h' : c' j = .v (.bool b)) : eqL c c' j ty = (a == b) := by unfold eqL; rw [h, h', same_bool]
theorem eqL_str {c c' : Nd} {j : Nat} {a b : ByteArray} {ty : Ty} (h : c j = .v (.string a)) (h' : c' j = .v (.string b)) : eqL c c' j ty = decide (a = b) := by unfold eqL; rw [h, h', same_str]
theorem str_no {a b : ByteArray} (h : ¬ a = b) : (a.toList == b.toList) = false := by
  simp only [beq_eq_false_iff_ne, ne_eq]
  intro e
  rw [ByteArray.toList_eq, ByteArray.toList_eq] at e
  exact h (by cases a; cases b; simpa using e)
theorem Rd.slen {w : World} {x : Option Addr} {n p : Nat} {d : Dat} {ty : Ty} (r : Rd w 0 (.slice x n p) d) (q : Fits d ty) (hd : deep ty = true) : d.len = n := by
  obtain ⟨f, rfl, _, _⟩ := r.openS q hd
  rfl
set_option maxRecDepth 100000 in
set_option maxHeartbeats 4000000 in
theorem sameItem_any (w0 : World) (c c' : Nd) (ys ys' : List Value) (W : World) (hys : OutK (rowTy .items) w0 ys [c]) (hys' : OutK (rowTy .items) w0 ys' [c']) :
    Calls Tryz.prog 113 #[.agg ys.toArray, .agg ys'.toArray] W fun e w' => e = .returned (.bool (itemSame c c')) ∧ Below W.heap.size W w' := by
  obtain ⟨x0, x1, x2, x3, x4, x5, x6, x7, x8, x9, ax10, nx10, px10, ax11, nx11, px11, x12, rfl, e0, ⟨e1, -⟩, -, -, -, -, -, -, -, -, -, -, ⟨e12, -⟩⟩ := hys.itemRow
  obtain ⟨y0, y1, y2, y3, y4, y5, y6, y7, y8, y9, ay10, ny10, py10, ay11, ny11, py11, y12, rfl, l0, ⟨l1, -⟩, -, -, -, -, -, -, -, -, -, -, ⟨l12, -⟩⟩ := hys'.itemRow
  have hB : Below W.heap.size W ((W.alloc (.cells #[.bool x0, .string x1, .int .i64 x2, .int .i64 x3, .bool x4, .int .i64 x5, .int .i64 x6, .string x7, .string x8, .string x9, .slice ax10 nx10 px10, .slice ax11 nx11 px11, .string x12] 111)).alloc (.cells #[.bool y0, .string y1, .int .i64 y2, .int .i64 y3, .bool y4, .int .i64 y5, .int .i64 y6, .string y7, .string y8, .string y9, .slice ay10 ny10 py10, .slice ay11 ny11 py11, .string y12] 111)) := ((Below.refl _ _).alloc (Nat.le_refl _) _).alloc (by simp) _
  have hv : itemSame c c' = ((x0 == y0) && (decide (x1 = y1) && decide (x12 = y12))) := by
    unfold itemSame
    rw [eqL_bool e0 l0, eqL_str e1 l1, eqL_str e12 l12]
  rw [hv]
  have HB := Lib.hid hB
  clear hv hB hys hys' e0 l0 e1 l1 e12 l12
  by_cases h0 : x0 = y0
  · have g0 : (x0 == y0) = true := by simpa using h0
    have H0 := Lib.hid h0
    clear h0
    by_cases h1 : x1 = y1
    · subst h1
      by_cases h12 : x12 = y12
      · subst h12
        go_enter Tryz.func113, Tryz.ntmps113
        go_wp2_with fail
        go_ret
        exact ⟨by simp [H0.out], HB.out⟩
      · have g12 := str_no h12
        have H12 := Lib.hid h12
        clear h12
        go_enter Tryz.func113, Tryz.ntmps113
        go_wp2_with fail
        go_ret
        exact ⟨by simp [H0.out, H12.out], HB.out⟩
    · have g1 := str_no h1
      have H1 := Lib.hid h1
      clear h1
      go_enter Tryz.func113, Tryz.ntmps113
      go_wp2_with fail
      go_ret
      exact ⟨by simp [H0.out, H1.out], HB.out⟩
  · have g0 : (x0 == y0) = false := by simpa using h0
    have H0 := Lib.hid h0
    clear h0
    go_enter Tryz.func113, Tryz.ntmps113
    go_wp2_with fail
    go_ret
    exact ⟨by simp [H0.out], HB.out⟩
set_option maxRecDepth 100000 in
set_option maxHeartbeats 4000000 in
theorem sameSource_any (w0 : World) (c c' : Nd) (ys ys' : List Value) (W : World) (hys : OutK (rowTy .sources) w0 ys [c]) (hys' : OutK (rowTy .sources) w0 ys' [c']) :
    Calls Tryz.prog 115 #[.agg ys.toArray, .agg ys'.toArray] W fun e w' => e = .returned (.bool (sourceSame c c')) ∧ Below W.heap.size W w' := by
  obtain ⟨x0, x1, ax2, nx2, px2, rfl, ⟨e0, -⟩, ⟨e1, -⟩, ⟨er2, eq2⟩⟩ := hys.sourceRow
  obtain ⟨y0, y1, ay2, ny2, py2, rfl, ⟨l0, -⟩, ⟨l1, -⟩, ⟨lr2, lq2⟩⟩ := hys'.sourceRow
  have hB : Below W.heap.size W ((W.alloc (.cells #[.string x0, .string x1, .slice ax2 nx2 px2] 113)).alloc (.cells #[.string y0, .string y1, .slice ay2 ny2 py2] 113)) := ((Below.refl _ _).alloc (Nat.le_refl _) _).alloc (by simp) _
  have hv : sourceSame c c' = (decide (x0 = y0) && (decide (x1 = y1) && (nx2 == ny2))) := by
    unfold sourceSame
    rw [eqL_str e0 l0, eqL_str e1 l1, er2.slen eq2 rfl, lr2.slen lq2 rfl]
  rw [hv]
  have HB := Lib.hid hB
  clear hv hB hys hys' e0 l0 e1 l1 er2 eq2 lr2 lq2
  by_cases h0 : x0 = y0
  · subst h0
    by_cases h1 : x1 = y1
    · subst h1
      by_cases h2 : nx2 = ny2
      · have g2 : ((nx2 : Int) == (ny2 : Int)) = true := by simp; omega
        have H2 := Lib.hid h2
        clear h2
        go_enter Tryz.func115, Tryz.ntmps115
        go_wp2_with fail
        go_ret
        exact ⟨by simp [H2.out], HB.out⟩
      · have g2 : ((nx2 : Int) == (ny2 : Int)) = false := by simp; omega
        have H2 := Lib.hid h2
        clear h2
        go_enter Tryz.func115, Tryz.ntmps115
        go_wp2_with fail
        go_ret
        exact ⟨by simp [H2.out], HB.out⟩
    · have g1 := str_no h1
      have H1 := Lib.hid h1
      clear h1
      go_enter Tryz.func115, Tryz.ntmps115
      go_wp2_with fail
      go_ret
      exact ⟨by simp [H1.out], HB.out⟩
  · have g0 := str_no h0
    have H0 := Lib.hid h0
    clear h0
    go_enter Tryz.func115, Tryz.ntmps115
    go_wp2_with fail
    go_ret
    exact ⟨by simp [H0.out], HB.out⟩
set_option maxRecDepth 100000 in
set_option maxHeartbeats 4000000 in
theorem sameKey_any (w0 : World) (c c' : Nd) (ys ys' : List Value) (W : World) (hys : OutK (rowTy .keys) w0 ys [c]) (hys' : OutK (rowTy .keys) w0 ys' [c']) :
    Calls Tryz.prog 117 #[.agg ys.toArray, .agg ys'.toArray] W fun e w' => e = .returned (.bool (keySame c c')) ∧ Below W.heap.size W w' := by
  obtain ⟨x0, x1, x2, x3, x4, x5, x6, x7, ax8, nx8, px8, ax9, nx9, px9, x10, rfl, -, -, -, -, -, -, -, -, -, -, e10⟩ := hys.keyRow
  obtain ⟨y0, y1, y2, y3, y4, y5, y6, y7, ay8, ny8, py8, ay9, ny9, py9, y10, rfl, -, -, -, -, -, -, -, -, -, -, l10⟩ := hys'.keyRow
  have hB : Below W.heap.size W ((W.alloc (.cells #[.int .i64 x0, .int .i64 x1, .bool x2, .int .i64 x3, .int .i64 x4, .string x5, .string x6, .string x7, .slice ax8 nx8 px8, .slice ax9 nx9 px9, .bool x10] 115)).alloc (.cells #[.int .i64 y0, .int .i64 y1, .bool y2, .int .i64 y3, .int .i64 y4, .string y5, .string y6, .string y7, .slice ay8 ny8 py8, .slice ay9 ny9 py9, .bool y10] 115)) := ((Below.refl _ _).alloc (Nat.le_refl _) _).alloc (by simp) _
  have hv : keySame c c' = (x10 == y10) := by
    unfold keySame
    rw [eqL_bool e10 l10]
  rw [hv]
  have HB := Lib.hid hB
  clear hv hB hys hys' e10 l10
  by_cases h10 : x10 = y10
  · have g10 : (x10 == y10) = true := by simpa using h10
    have H10 := Lib.hid h10
    clear h10
    go_enter Tryz.func117, Tryz.ntmps117
    go_wp2_with fail
    go_ret
    exact ⟨by simp [H10.out], HB.out⟩
  · have g10 : (x10 == y10) = false := by simpa using h10
    have H10 := Lib.hid h10
    clear h10
    go_enter Tryz.func117, Tryz.ntmps117
    go_wp2_with fail
    go_ret
    exact ⟨by simp [H10.out], HB.out⟩
theorem OutK.queryRow {w0 : World} {ys : List Value} {c : Nd} (h : OutK (rowTy .queries) w0 ys [c]) : ∃ (c0 : Bool) (a1 : Option Addr) (n1 p1 : Nat) (a2 : Option Addr) (n2 p2 : Nat) (a3 : Option Addr) (n3 p3 : Nat) (a4 : Option Addr) (n4 p4 : Nat) (c5 : Int),
    ys = [.bool c0, .slice a1 n1 p1, .slice a2 n2 p2, .slice a3 n3 p3, .slice a4 n4 p4, .int .i64 c5] ∧
    (c 0 = .v (.bool c0) ∧ (Rd w0 0 (.slice a1 n1 p1) (c 1) ∧ Fits (c 1) .items) ∧ (Rd w0 0 (.slice a2 n2 p2) (c 2) ∧ Fits (c 2) .sources) ∧ (Rd w0 0 (.slice a3 n3 p3) (c 3) ∧ Fits (c 3) .exprs) ∧ (Rd w0 0 (.slice a4 n4 p4) (c 4) ∧ Fits (c 4) .keys) ∧ (c 5 = .v (.int .i64 c5) ∧ -9223372036854775808 ≤ c5 ∧ c5 ≤ 9223372036854775807)) := by
  have hl : ys.length = 6 := h.1
  obtain ⟨y0, z0, r0, f0⟩ := h.cellOf 0 (by decide)
  obtain ⟨c0, e0⟩ := Fits.bool f0
  rw [e0] at r0; obtain rfl : y0 = _ := r0
  obtain ⟨y1, z1, r1, f1⟩ := h.cellOf 1 (by decide)
  have g1 : Fits (c 1) .items := f1
  obtain ⟨a1, n1, p1, rfl⟩ := r1.slice_of g1 rfl
  obtain ⟨y2, z2, r2, f2⟩ := h.cellOf 2 (by decide)
  have g2 : Fits (c 2) .sources := f2
  obtain ⟨a2, n2, p2, rfl⟩ := r2.slice_of g2 rfl
  obtain ⟨y3, z3, r3, f3⟩ := h.cellOf 3 (by decide)
  have g3 : Fits (c 3) .exprs := f3
  obtain ⟨a3, n3, p3, rfl⟩ := r3.slice_of g3 rfl
  obtain ⟨y4, z4, r4, f4⟩ := h.cellOf 4 (by decide)
  have g4 : Fits (c 4) .keys := f4
  obtain ⟨a4, n4, p4, rfl⟩ := r4.slice_of g4 rfl
  obtain ⟨y5, z5, r5, f5⟩ := h.cellOf 5 (by decide)
  obtain ⟨c5, e5, b5⟩ := Fits.int f5
  rw [e5] at r5; obtain rfl : y5 = _ := r5
  refine ⟨c0, a1, n1, p1, a2, n2, p2, a3, n3, p3, a4, n4, p4, c5, ?_, e0, ⟨r1, g1⟩, ⟨r2, g2⟩, ⟨r3, g3⟩, ⟨r4, g4⟩, ⟨e5, b5⟩⟩
  refine List.ext_getElem? fun j => ?_
  rcases j with _ | _ | _ | _ | _ | _ | j
  · exact z0
  · exact z1
  · exact z2
  · exact z3
  · exact z4
  · exact z5
  · rw [List.getElem?_eq_none (by omega), List.getElem?_eq_none (by simp)]
set_option maxRecDepth 100000 in
set_option maxHeartbeats 8000000 in
theorem eqf_queries (w0 W : World) (a1 : Option Addr) (p1 : Nat) (a2 : Option Addr) (p2 : Nat) (L1 L2 : List Nd) (hb0 : Below w0.heap.size w0 W)
    (h1 : LK (rowTy .queries) w0 W (fun _ => True) (.slice a1 L1.length p1) L1) (h2 : LK (rowTy .queries) w0 W (fun _ => True) (.slice a2 L2.length p2) L2) (hN : L1.length ≤ 1048576) (_hN2 : L2.length ≤ 1048576)
    (HF : ∀ c ∈ L1, ∀ c' ∈ L2, ∀ (ys ys' : List Value) (W' : World), OutK (rowTy .queries) w0 ys [c] → OutK (rowTy .queries) w0 ys' [c'] → Below w0.heap.size w0 W' →
      Calls Tryz.prog 84 #[.agg ys.toArray, .agg ys'.toArray] W' fun e w' => e = .returned (.bool (frameSame c c')) ∧ Below W'.heap.size W' w') :
    Calls Tryz.prog 119 #[.slice a1 L1.length p1, .slice a2 L2.length p2, .func (.func 84) #[] #[]] W fun e w' => e = .returned (.bool (allZ frameSame L1 L2)) ∧ Below W.heap.size W w' := by
  have hB0 := Below.refl W.heap.size W
  by_cases hl : L1.length = L2.length
  · go_enter Tryz.func119, Tryz.ntmps119
    have hl2 : ((L1.length : Int) != (L2.length : Int)) = false := by simp; omega
    have HL := Lib.hid hl
    clear hl
    go_wp2_with fail
    clear hl2
    go_loopw [17] (fun i wr => ∃ j : Nat, j ≤ L1.length ∧ i = .int .i64 (j : Int) ∧ Below W.heap.size W wr ∧ Hid (allZ frameSame (L1.take j) (L2.take j) = true)) (fun i _ => L1.length - (intOf i).toNat)
    case atStart => exact ⟨0, by omega, rfl, hB0, rfl⟩
    case round =>
      obtain ⟨j, hj, rfl, hB, HA⟩ := hrel
      by_cases hlt : j < L1.length
      · have hlt2 : (j : Int) < (L1.length : Int) := by omega
        have hltb : j < L2.length := by have := HL.out; omega
        obtain ⟨g, o, cap', ys, hv, hys, -, hg, hcell⟩ := h1.at (List.getElem?_eq_getElem hlt)
        injection hv with e1 _ e3
        subst e1; subst e3
        obtain ⟨g2, o2, cap2, ys2, hv2, hys2, -, hg2, hcell2⟩ := h2.at (List.getElem?_eq_getElem hltb)
        injection hv2 with e1 _ e3
        subst e1; subst e3
        have HC := fun w' h => HF L1[j] (List.getElem_mem hlt) L2[j] (List.getElem_mem hltb) ys ys2 w' hys hys2 h
        obtain ⟨x0, ax1, nx1, px1, ax2, nx2, px2, ax3, nx3, px3, ax4, nx4, px4, x5, rfl, -⟩ := hys.queryRow
        obtain ⟨y0, ay1, ny1, py1, ay2, ny2, py2, ay3, ny3, py3, ay4, ny4, py4, y5, rfl, -⟩ := hys2.queryRow
        have z0 : wr.cell? ⟨g, o + j * 6, none⟩ = some (.bool x0) := (hB.cell (p := ⟨g, o + j * 6, none⟩) hg).trans (hcell 0 _ rfl)
        have z1 : wr.cell? ⟨g, o + j * 6 + 1, none⟩ = some (.slice ax1 nx1 px1) := (hB.cell (p := ⟨g, o + j * 6 + 1, none⟩) hg).trans (hcell 1 _ rfl)
        have z2 : wr.cell? ⟨g, o + j * 6 + 2, none⟩ = some (.slice ax2 nx2 px2) := (hB.cell (p := ⟨g, o + j * 6 + 2, none⟩) hg).trans (hcell 2 _ rfl)
        have z3 : wr.cell? ⟨g, o + j * 6 + 3, none⟩ = some (.slice ax3 nx3 px3) := (hB.cell (p := ⟨g, o + j * 6 + 3, none⟩) hg).trans (hcell 3 _ rfl)
        have z4 : wr.cell? ⟨g, o + j * 6 + 4, none⟩ = some (.slice ax4 nx4 px4) := (hB.cell (p := ⟨g, o + j * 6 + 4, none⟩) hg).trans (hcell 4 _ rfl)
        have z5 : wr.cell? ⟨g, o + j * 6 + 5, none⟩ = some (.int .i64 x5) := (hB.cell (p := ⟨g, o + j * 6 + 5, none⟩) hg).trans (hcell 5 _ rfl)
        have u0 : wr.cell? ⟨g2, o2 + j * 6, none⟩ = some (.bool y0) := (hB.cell (p := ⟨g2, o2 + j * 6, none⟩) hg2).trans (hcell2 0 _ rfl)
        have u1 : wr.cell? ⟨g2, o2 + j * 6 + 1, none⟩ = some (.slice ay1 ny1 py1) := (hB.cell (p := ⟨g2, o2 + j * 6 + 1, none⟩) hg2).trans (hcell2 1 _ rfl)
        have u2 : wr.cell? ⟨g2, o2 + j * 6 + 2, none⟩ = some (.slice ay2 ny2 py2) := (hB.cell (p := ⟨g2, o2 + j * 6 + 2, none⟩) hg2).trans (hcell2 2 _ rfl)
        have u3 : wr.cell? ⟨g2, o2 + j * 6 + 3, none⟩ = some (.slice ay3 ny3 py3) := (hB.cell (p := ⟨g2, o2 + j * 6 + 3, none⟩) hg2).trans (hcell2 3 _ rfl)
        have u4 : wr.cell? ⟨g2, o2 + j * 6 + 4, none⟩ = some (.slice ay4 ny4 py4) := (hB.cell (p := ⟨g2, o2 + j * 6 + 4, none⟩) hg2).trans (hcell2 4 _ rfl)
        have u5 : wr.cell? ⟨g2, o2 + j * 6 + 5, none⟩ = some (.int .i64 y5) := (hB.cell (p := ⟨g2, o2 + j * 6 + 5, none⟩) hg2).trans (hcell2 5 _ rfl)
        have hgw : g2 < wr.heap.size := Nat.lt_of_lt_of_le hg2 hB.size
        clear hcell hcell2 hys hys2
        have hsnoc : allZ frameSame (L1.take (j + 1)) (L2.take (j + 1)) = (allZ frameSame (L1.take j) (L2.take j) && frameSame L1[j] L2[j]) := by
          rw [take_next (List.getElem?_eq_getElem hlt), take_next (List.getElem?_eq_getElem hltb), allZ_append _ (by rw [List.length_take, List.length_take]; have := HL.out; omega), allZ_cons, allZ_nil, Bool.and_true]
        have HSN := Lib.hid hsnoc
        have hal1 : Below wr.heap.size wr (wr.alloc (.cells #[.bool x0, .slice ax1 nx1 px1, .slice ax2 nx2 px2, .slice ax3 nx3 px3, .slice ax4 nx4 px4, .int .i64 x5] 39)) := (Below.refl _ _).alloc (Nat.le_refl _) _
        have hal2 : Below wr.heap.size wr ((wr.alloc (.cells #[.bool x0, .slice ax1 nx1 px1, .slice ax2 nx2 px2, .slice ax3 nx3 px3, .slice ax4 nx4 px4, .int .i64 x5] 39)).alloc (.cells #[.bool y0, .slice ay1 ny1 py1, .slice ay2 ny2 py2, .slice ay3 ny3 py3, .slice ay4 ny4 py4, .int .i64 y5] 39)) := hal1.alloc (by simp) _
        have hb2 := (hb0.trans (hB.mono hb0.size)).trans (hal2.mono (Nat.le_trans hb0.size hB.size))
        have hB2 := hB.trans (hal2.mono hB.size)
        have HCC := HC _ hb2
        clear hsnoc HC hal1 hal2 hb2
        generalize hp : frameSame L1[j] L2[j] = pv at HCC HSN
        have HP := Lib.hid hp
        clear hp
        cases pv
        case true =>
          have HS2 : Hid (allZ frameSame (L1.take (j + 1)) (L2.take (j + 1)) = true) := by show _ = true; rw [HSN.out, HA.out]; rfl
          go_wp2_with fail
          refine HCC.mono ?_
          clear HCC
          rintro e w2 ⟨rfl, hb2⟩
          have hB3 := hB2.trans (hb2.mono hB2.size)
          clear hb2 hB2 z0 u0 z1 u1 z2 u2 z3 u3 z4 u4 z5 u5
          go_wp2_with fail
          go_roundw
          case rel => exact ⟨j + 1, by omega, by go_num, hB3, HS2⟩
          case measure => simp [intOf]; omega
        case false =>
          have HS2 : Hid (allZ frameSame L1 L2 = false) := by
            show _ = false
            have e1 : L1 = L1.take (j + 1) ++ L1.drop (j + 1) := (List.take_append_drop _ _).symm
            have e2 : L2 = L2.take (j + 1) ++ L2.drop (j + 1) := (List.take_append_drop _ _).symm
            rw [e1, e2, allZ_append _ (by rw [List.length_take, List.length_take]; have := HL.out; omega), HSN.out, HA.out]; rfl
          go_wp2_with fail
          refine HCC.mono ?_
          clear HCC
          rintro e w2 ⟨rfl, hb2⟩
          have hB3 := hB2.trans (hb2.mono hB2.size)
          clear hb2 hB2 z0 u0 z1 u1 z2 u2 z3 u3 z4 u4 z5 u5
          go_wp2_with fail
          go_ret
          exact ⟨by rw [HS2.out]; rfl, hB3⟩
      · obtain rfl : j = L1.length := by omega
        clear hlt hj
        go_wp2_with fail
        go_ret
        refine ⟨?_, hB⟩
        have h := HA.out
        have hl := HL.out
        rw [List.take_length, hl, List.take_length] at h
        rw [h]; rfl
  · have hl2 : ((L1.length : Int) != (L2.length : Int)) = true := by simp; omega
    have HZ := Lib.hid (allZ_len (p := frameSame) hl)
    clear hl
    go_enter Tryz.func119, Tryz.ntmps119
    go_wp2_with fail
    go_ret
    exact ⟨by rw [HZ.out]; rfl, hB0⟩
theorem Rd.lkE {w0 W : World} {a : Option Addr} {n p : Nat} {d : Dat} {ty : Ty} (r : Rd w0 0 (.slice a n p) d) (q : Fits d ty) (hd : deep ty = true) (hb : Below w0.heap.size w0 W) :
    d.els.length = n ∧ LK (rowTy ty) w0 W (fun _ => True) (.slice a d.els.length p) d.els := by
  obtain ⟨f, rfl, r, q⟩ := r.openS q hd
  have hl : (Dat.sl n (rowTy ty).length f).els.length = n := els_len _ _ _
  obtain ⟨_, h⟩ := Rd.lkK (G := fun g => g < w0.heap.size) r q fun g hg => hg
  refine ⟨hl, ?_⟩
  rw [hl]
  exact h.keep hb.size (fun g hg _ => hb.block g hg) fun _ _ _ => trivial
set_option maxRecDepth 100000 in
set_option maxHeartbeats 8000000 in
theorem sameFrame_any (w0 : World) (c c' : Nd) (ys ys' : List Value) (W : World) (hys : OutK (rowTy .queries) w0 ys [c]) (hys' : OutK (rowTy .queries) w0 ys' [c']) (hb0 : Below w0.heap.size w0 W)
    (m1 : (c 1).els.length ≤ 1048576) (m2 : (c 2).els.length ≤ 1048576) (m4 : (c 4).els.length ≤ 1048576) (k1 : (c' 1).els.length ≤ 1048576) (k2 : (c' 2).els.length ≤ 1048576) (k4 : (c' 4).els.length ≤ 1048576) :
    Calls Tryz.prog 84 #[.agg ys.toArray, .agg ys'.toArray] W fun e w' => e = .returned (.bool (frameSame c c')) ∧ Below W.heap.size W w' := by
  obtain ⟨x0, ax1, nx1, px1, ax2, nx2, px2, ax3, nx3, px3, ax4, nx4, px4, x5, rfl, e0, ⟨r1, q1⟩, ⟨r2, q2⟩, ⟨r3, q3⟩, ⟨r4, q4⟩, ⟨e5, -⟩⟩ := hys.queryRow
  obtain ⟨y0, ay1, ny1, py1, ay2, ny2, py2, ay3, ny3, py3, ay4, ny4, py4, y5, rfl, l0, ⟨s1, t1⟩, ⟨s2, t2⟩, ⟨s3, t3⟩, ⟨s4, t4⟩, ⟨l5, -⟩⟩ := hys'.queryRow
  have hI : ∀ W', Below w0.heap.size w0 W' → Calls Tryz.prog 112 #[.slice ax1 nx1 px1, .slice ay1 ny1 py1, .func (.func 113) #[] #[]] W' fun e w' => e = .returned (.bool (allZ itemSame (c 1).els (c' 1).els)) ∧ Below W'.heap.size W' w' := fun W' hb => by
    obtain ⟨n1, h1⟩ := r1.lkE q1 rfl hb
    obtain ⟨n2, h2⟩ := s1.lkE t1 rfl hb
    have h := eqf_items w0 W' ax1 px1 ay1 py1 _ _ hb h1 h2 m1 k1 fun c _ c' _ ys ys' W' h h' _ => sameItem_any w0 c c' ys ys' W' h h'
    rw [n1, n2] at h
    exact h
  have hS : ∀ W', Below w0.heap.size w0 W' → Calls Tryz.prog 114 #[.slice ax2 nx2 px2, .slice ay2 ny2 py2, .func (.func 115) #[] #[]] W' fun e w' => e = .returned (.bool (allZ sourceSame (c 2).els (c' 2).els)) ∧ Below W'.heap.size W' w' := fun W' hb => by
    obtain ⟨n1, h1⟩ := r2.lkE q2 rfl hb
    obtain ⟨n2, h2⟩ := s2.lkE t2 rfl hb
    have h := eqf_sources w0 W' ax2 px2 ay2 py2 _ _ hb h1 h2 m2 k2 fun c _ c' _ ys ys' W' h h' _ => sameSource_any w0 c c' ys ys' W' h h'
    rw [n1, n2] at h
    exact h
  have hK : ∀ W', Below w0.heap.size w0 W' → Calls Tryz.prog 116 #[.slice ax4 nx4 px4, .slice ay4 ny4 py4, .func (.func 117) #[] #[]] W' fun e w' => e = .returned (.bool (allZ keySame (c 4).els (c' 4).els)) ∧ Below W'.heap.size W' w' := fun W' hb => by
    obtain ⟨n1, h1⟩ := r4.lkE q4 rfl hb
    obtain ⟨n2, h2⟩ := s4.lkE t4 rfl hb
    have h := eqf_keys w0 W' ax4 px4 ay4 py4 _ _ hb h1 h2 m4 k4 fun c _ c' _ ys ys' W' h h' _ => sameKey_any w0 c c' ys ys' W' h h'
    rw [n1, n2] at h
    exact h
  have hv : frameSame c c' = ((x0 == y0) && ((x5 == y5) && ((nx3 == ny3) && (allZ itemSame (c 1).els (c' 1).els && (allZ sourceSame (c 2).els (c' 2).els && allZ keySame (c 4).els (c' 4).els))))) := by
    unfold frameSame
    rw [eqL_bool e0 l0, eqL_int e5 l5, r3.slen q3 rfl, s3.slen t3 rfl]
  rw [hv]
  have hB : Below W.heap.size W ((W.alloc (.cells #[.bool x0, .slice ax1 nx1 px1, .slice ax2 nx2 px2, .slice ax3 nx3 px3, .slice ax4 nx4 px4, .int .i64 x5] 39)).alloc (.cells #[.bool y0, .slice ay1 ny1 py1, .slice ay2 ny2 py2, .slice ay3 ny3 py3, .slice ay4 ny4 py4, .int .i64 y5] 39)) := ((Below.refl _ _).alloc (Nat.le_refl _) _).alloc (by simp) _
  have R1 : RowAt ((W.alloc (.cells #[.bool x0, .slice ax1 nx1 px1, .slice ax2 nx2 px2, .slice ax3 nx3 px3, .slice ax4 nx4 px4, .int .i64 x5] 39)).alloc (.cells #[.bool y0, .slice ay1 ny1 py1, .slice ay2 ny2 py2, .slice ay3 ny3 py3, .slice ay4 ny4 py4, .int .i64 y5] 39)) W.heap.size 39 #[.bool x0, .slice ax1 nx1 px1, .slice ax2 nx2 px2, .slice ax3 nx3 px3, .slice ax4 nx4 px4, .int .i64 x5] := (RowAt.new W _ _).alloc _
  have R2 : RowAt ((W.alloc (.cells #[.bool x0, .slice ax1 nx1 px1, .slice ax2 nx2 px2, .slice ax3 nx3 px3, .slice ax4 nx4 px4, .int .i64 x5] 39)).alloc (.cells #[.bool y0, .slice ay1 ny1 py1, .slice ay2 ny2 py2, .slice ay3 ny3 py3, .slice ay4 ny4 py4, .int .i64 y5] 39)) (W.heap.size + 1) 39 #[.bool y0, .slice ay1 ny1 py1, .slice ay2 ny2 py2, .slice ay3 ny3 py3, .slice ay4 ny4 py4, .int .i64 y5] := by
    have h := RowAt.new (W.alloc (.cells #[.bool x0, .slice ax1 nx1 px1, .slice ax2 nx2 px2, .slice ax3 nx3 px3, .slice ax4 nx4 px4, .int .i64 x5] 39)) 39 #[.bool y0, .slice ay1 ny1 py1, .slice ay2 ny2 py2, .slice ay3 ny3 py3, .slice ay4 ny4 py4, .int .i64 y5]
    rw [World.size_alloc] at h
    exact h
  have HB := Lib.hid hB
  have HR1 := Lib.hid R1
  have HR2 := Lib.hid R2
  generalize allZ itemSame (c 1).els (c' 1).els = v1 at hI ⊢
  generalize allZ sourceSame (c 2).els (c' 2).els = v2 at hS ⊢
  generalize allZ keySame (c 4).els (c' 4).els = v4 at hK ⊢
  have hI1 := hI _ (hb0.trans (hB.mono hb0.size))
  have hz := hb0.trans (hB.mono hb0.size)
  clear hv hB R1 R2 hys hys' e0 e5 l0 l5 r1 r2 r3 r4 q1 q2 q3 q4 s1 s2 s3 s4 t1 t2 t3 t4 m1 m2 m4 k1 k2 k4 hI
  by_cases h0 : x0 = y0
  · have g0 : (x0 == y0) = true := by simpa using h0
    have H0 := Lib.hid h0
    clear h0
    by_cases h5 : x5 = y5
    · have g5 : (x5 == y5) = true := by simpa using h5
      have H5 := Lib.hid h5
      clear h5
      by_cases h3 : nx3 = ny3
      · have g3 : ((nx3 : Int) == (ny3 : Int)) = true := by simp; omega
        have H3 := Lib.hid h3
        clear h3
        go_enter Tryz.func84, Tryz.ntmps84
        cases v1
        case false =>
          go_wp2_with fail
          refine hI1.mono ?_
          clear hI1
          rintro e w3 ⟨rfl, hb3⟩
          have hB3 := HB.out.trans (hb3.mono HB.out.size)
          clear hb3
          go_wp2_with fail
          go_ret
          exact ⟨by simp [H0.out, H5.out, H3.out], hB3⟩
        case true =>
          go_wp2_with fail
          refine hI1.mono ?_
          clear hI1
          rintro e w3 ⟨rfl, hb3⟩
          have hB3 := HB.out.trans (hb3.mono HB.out.size)
          have hz3 := hz.trans (hb3.mono hz.size)
          have X3 := HR1.out.later hb3
          have Y3 := HR2.out.later hb3
          have xx2 := X3.cell (i := 2) (v := .slice ax2 nx2 px2) rfl
          have yy2 := Y3.cell (i := 2) (v := .slice ay2 ny2 py2) rfl
          have hS1 := hS w3 hz3
          clear hb3 hz HR1 HR2 hS
          cases v2
          case false =>
            go_wp2_with fail
            refine hS1.mono ?_
            clear hS1 xx2 yy2
            rintro e w4 ⟨rfl, hb4⟩
            have hB4 := hB3.trans (hb4.mono hB3.size)
            clear hb4
            go_wp2_with fail
            go_ret
            exact ⟨by simp [H0.out, H5.out, H3.out], hB4⟩
          case true =>
            go_wp2_with fail
            refine hS1.mono ?_
            clear hS1 xx2 yy2
            rintro e w4 ⟨rfl, hb4⟩
            have hB4 := hB3.trans (hb4.mono hB3.size)
            have hz4 := hz3.trans (hb4.mono hz3.size)
            have X4 := X3.later hb4
            have Y4 := Y3.later hb4
            have xx4 := X4.cell (i := 4) (v := .slice ax4 nx4 px4) rfl
            have yy4 := Y4.cell (i := 4) (v := .slice ay4 ny4 py4) rfl
            have hK1 := hK w4 hz4
            clear hb4 hK
            go_wp2_with fail
            refine hK1.mono ?_
            clear hK1 xx4 yy4
            rintro e w5 ⟨rfl, hb5⟩
            have hB5 := hB4.trans (hb5.mono hB4.size)
            clear hb5
            go_wp2_with fail
            go_ret
            exact ⟨by simp [H0.out, H5.out, H3.out], hB5⟩
      · have g3 : ((nx3 : Int) == (ny3 : Int)) = false := by simp; omega
        have H3 := Lib.hid h3
        clear h3 hI1
        go_enter Tryz.func84, Tryz.ntmps84
        go_wp2_with fail
        go_ret
        exact ⟨by simp [H0.out, H5.out, H3.out], HB.out⟩
    · have g5 : (x5 == y5) = false := by simpa using h5
      have H5 := Lib.hid h5
      clear h5 hI1
      go_enter Tryz.func84, Tryz.ntmps84
      go_wp2_with fail
      go_ret
      exact ⟨by simp [H0.out, H5.out], HB.out⟩
  · have g0 : (x0 == y0) = false := by simpa using h0
    have H0 := Lib.hid h0
    clear h0 hI1
    go_enter Tryz.func84, Tryz.ntmps84
    go_wp2_with fail
    go_ret
    exact ⟨by simp [H0.out], HB.out⟩
attribute [local go_sem] Oper.semAt_some
def twTy : List Ty := exprTy ++ exprTy
abbrev VT : FuncId := 118
def okT (w0 : World) (p : Nat × Nd) (v : Array Value) : Prop := ∃ ys : List Value, OutK twTy w0 ys [p.2] ∧ v = #[.int .i64 (p.1 : Int), .agg ys.toArray]
def PartsT (pf : FuncId) (pt : Nd → List Nd) (w0 : World) (c : Nd) : Prop := ∀ (ys : List Value) (W : World), OutK twTy w0 ys [c] → Below w0.heap.size w0 W →
  Calls Tryz.prog pf #[.agg ys.toArray] W fun e W' => ∃ v, e = .returned v ∧ LK twTy w0 W' (fun g => g < w0.heap.size ∨ W.heap.size ≤ g) v (pt c) ∧ Below W.heap.size W W'
theorem alloc_xT (A : Act) (w : World) (dst : Option Tmp) (ty : TypeId) (pos : String) (af) (g) :
    (execOp A.eval { dst := dst, op := .alloc 127, type := ty, pos := pos, after := af, guard := g }).run Tryz.prog w =
      .ok (.value (.pointer (some ⟨w.heap.size, 0, none⟩))) (w.alloc (.cells #[.int .i64 0, .int .i64 0, .bool false, .int .i64 0, .int .i64 0, .string ⟨#[]⟩, .string ⟨#[]⟩, .string ⟨#[]⟩, .slice none 0 0, .slice none 0 0, .int .i64 0, .int .i64 0, .bool false, .int .i64 0, .int .i64 0, .string ⟨#[]⟩, .string ⟨#[]⟩, .string ⟨#[]⟩, .slice none 0 0, .slice none 0 0] 127)) := by
  simp [go_sem]
def GoodT (u : Value) (cs : Array Value) : Prop := ∃ zs : List Value, u = .agg zs.toArray ∧ zs.length = 20 ∧ zs.all Value.oneCell' = true ∧ cs = zs.toArray
set_option maxHeartbeats 2000000 in
theorem store_xT (A : Act) (w : World) (b : Nat) (cs : Array Value) (d e : Tmp) (dst : Option Tmp) (ty : TypeId) (pos : String) (af) (g) (hp : A.eval (.tmp d) = .pointer (some ⟨b, 0, none⟩)) (hg : GoodT (A.eval (.tmp e)) cs)
    (hh : w.heap[b]? = some (.cells #[.int .i64 0, .int .i64 0, .bool false, .int .i64 0, .int .i64 0, .string ⟨#[]⟩, .string ⟨#[]⟩, .string ⟨#[]⟩, .slice none 0 0, .slice none 0 0, .int .i64 0, .int .i64 0, .bool false, .int .i64 0, .int .i64 0, .string ⟨#[]⟩, .string ⟨#[]⟩, .string ⟨#[]⟩, .slice none 0 0, .slice none 0 0] 127 (0, 0))) :
    ∃ w', (execOp A.eval { dst := dst, op := .store 127 (.tmp d) (.tmp e), type := ty, pos := pos, after := af, guard := g }).run Tryz.prog w = .ok .skip w' ∧
      w'.heap[b]? = some (.cells cs 127 (0, 0)) ∧ Below b w w' := by
  obtain ⟨zs, hu, hzl, hzo, rfl⟩ := hg
  have hst := storeAt_row (P := Tryz.prog) (zs := #[.int .i64 0, .int .i64 0, .bool false, .int .i64 0, .int .i64 0, .string ⟨#[]⟩, .string ⟨#[]⟩, .string ⟨#[]⟩, .slice none 0 0, .slice none 0 0, .int .i64 0, .int .i64 0, .bool false, .int .i64 0, .int .i64 0, .string ⟨#[]⟩, .string ⟨#[]⟩, .string ⟨#[]⟩, .slice none 0 0, .slice none 0 0]) zs (fun w => by rw [hzl]; exact Tryz.sizeOf127 w) hzl hzo hh
  refine ⟨_, ?_, setRow_heap w b _ _ _ _ hh, ⟨rfl, rfl, rfl, by simp, fun k hk => setRow_other w b k _ (by omega)⟩⟩
  rotate_left
  unfold execOp
  simp only [hp, hu, Sem.run_bind, hst, Result.andThen]
  rfl
structure StT (pr : Nat → Nd → List (Nat × Nd)) (w0 W : World) (J : Nat → World → Prop) (Ew : Nat → Prop) (xs : List (Nat × Nd)) (bp : Nat) (s : Value) (wr : World) (m : Nat) : Prop where
  ex : ∃ (i : Nat) (S : List Ent) (g cap : Nat), s = .slice (some ⟨g, 0, none⟩) S.length cap ∧
    wr.ownsRow W.heap.size 162 2 s S.length (entCells S) ∧
    (∀ e ∈ S, LK twTy w0 wr (fun k => ¬ Ew k ∧ k ≠ g) e.v e.L ∧ 1 ≤ e.d) ∧ xs.drop i = left pr S ∧ i ≤ xs.length ∧ J i wr ∧ m = 2 * (xs.length - i) + S.length ∧ S.length ≤ i + 1 ∧ (∀ e ∈ S, e.d ≤ i + 1)
  box : wr.cell? ⟨bp, 0, none⟩ = some (.func (.func 87) #[] #[])
  b0 : Below w0.heap.size w0 wr
  sz : W.heap.size ≤ wr.heap.size
theorem StT.push {pr : Nat → Nd → List (Nat × Nd)} {pt : Nd → List Nd} {w0 W : World} {J : Nat → World → Prop} {Ew : Nat → Prop} {xs : List (Nat × Nd)} {bp i d g g' cap' : Nat} {r : List Ent} {t pv : Value} {L' : List Nd} {c : Nd} {wr W4 w5 : World}
    (hown : w5.ownsRow W.heap.size 162 2 (.slice (some ⟨g', 0, none⟩) (r.length + 1 + 1) cap') (r.length + 1 + 1) (entCells (⟨d, t, L'⟩ :: r) ++ [.int .i64 ((d : Int) + 1), pv]))
    (hch : ∀ q, ¬ Ew q → q ≠ g → q < wr.heap.size → W4.heap[q]? = wr.heap[q]?) (hsz : wr.heap.size ≤ W4.heap.size) (hg5 : ∀ q, q < W4.heap.size → q ≠ g → w5.heap[q]? = W4.heap[q]?) (s5 : W4.heap.size ≤ w5.heap.size)
    (hat : g' = g ∨ W4.heap.size ≤ g') (hL3 : LK twTy w0 wr (fun q => ¬ Ew q ∧ q ≠ g) t L') (hd : 1 ≤ d) (hr : ∀ e ∈ r, LK twTy w0 wr (fun q => ¬ Ew q ∧ q ≠ g) e.v e.L ∧ 1 ≤ e.d)
    (hL4 : LK twTy w0 W4 (fun q => ¬ Ew q ∧ q ≠ g) pv (pt c)) (hdr : xs.drop (i + 1) = ((pt c).flatMap (pr (d + 1)) ++ L'.flatMap (pr d)) ++ left pr r) (hil : i < xs.length)
    (hJ : J (i + 1) w5) (hSi : r.length ≤ i) (hdd : d ≤ i + 1) (hdr' : ∀ e ∈ r, e.d ≤ i + 1) (hp : w5.cell? ⟨bp, 0, none⟩ = some (.func (.func 87) #[] #[])) (hb : Below w0.heap.size w0 w5) (hz : W.heap.size ≤ w5.heap.size) :
    StT pr w0 W J Ew xs bp (.slice (some ⟨g', 0, none⟩) (r.length + 1 + 1) cap') w5 (2 * (xs.length - (i + 1)) + (r.length + 1 + 1)) := by
  have K : ∀ {v : Value} {L : List Nd}, LK twTy w0 wr (fun q => ¬ Ew q ∧ q ≠ g) v L → LK twTy w0 w5 (fun q => ¬ Ew q ∧ q ≠ g') v L := fun h =>
    h.keep (Nat.le_trans hsz s5) (fun q hq hlt => (hg5 q (Nat.lt_of_lt_of_le hlt hsz) hq.2).trans (hch q hq.1 hq.2 hlt)) fun q hq hlt => ⟨hq.1, by rcases hat with h | h <;> omega⟩
  refine ⟨⟨i + 1, ⟨d + 1, pv, pt c⟩ :: ⟨d, t, L'⟩ :: r, g', cap', rfl, hown, ?_, ?_, hil, hJ, rfl, by show r.length + 1 + 1 ≤ _; omega, ?_⟩, hp, hb, hz⟩
  · intro e he
    simp only [List.mem_cons] at he
    rcases he with rfl | rfl | he
    · exact ⟨hL4.keep s5 (fun q hq hlt => hg5 q hlt hq.2) fun q hq hlt => ⟨hq.1, by rcases hat with h | h <;> omega⟩, by show 1 ≤ d + 1; omega⟩
    · exact ⟨K hL3, hd⟩
    · exact ⟨K (hr e he).1, (hr e he).2⟩
  · rw [hdr, List.append_assoc]; rfl
  · intro e he
    simp only [List.mem_cons] at he
    rcases he with rfl | rfl | he
    · show d + 1 ≤ i + 1 + 1; omega
    · show d ≤ i + 1 + 1; omega
    · have := hdr' e he; omega
theorem execOp_ldT (ρ : Operand → Value) (dst : Option Tmp) (x : Operand) (ty : TypeId) (pos : String) (after : Array Edge) (guard : Option (Nat × Bool)) :
    execOp ρ { dst := dst, op := .load 127 x, type := ty, pos := pos, after := after, guard := guard } = ldX 127 (ρ x) := rfl
attribute [local go_sem ↓] execOp_ldT
theorem Tryz.infoBrT : (Tryz.prog.info? 162).map (fun i => (i.zero, i.size, i.bytes)) = some (some (.agg #[.int .i64 0, .slice none 0 0]), 2, 32) := by kernel_rfl
set_option maxRecDepth 100000 in
set_option maxHeartbeats 8000000 in
theorem visT_any (pr : Nat → Nd → List (Nat × Nd)) (pt : Nd → List Nd) (go : Nat × Nd → Prop) (w0 w : World) (L0 : List Nd) (v0 : Value) (bl bp : Nat) (E : Nat → Prop) (xs : List (Nat × Nd)) (n : Nat) (hxs : xs = L0.flatMap (pr 1)) (hlen : xs.length ≤ 2000000)
    (h0 : Below w0.heap.size w0 w) (hE : ∀ k, E k → w0.heap.size ≤ k ∧ k < w.heap.size) (hbl : w.cell? ⟨bl, 0, none⟩ = some v0) (hbp : w.cell? ⟨bp, 0, none⟩ = some (.func (.func 87) #[] #[])) (hbE : ¬ E bp)
    (hv : LK twTy w0 w (fun g => ¬ E g) v0 L0) (HP : ∀ d c, (d, c) ∈ xs → go (d, c) → PartsT 87 pt w0 c) (hhd : ∀ d c, ∃ l, pr d c = (d, c) :: l) (hpre : ∀ d c, (d, c) ∈ xs → go (d, c) → pr d c = (d, c) :: (pt c).flatMap (pr (d + 1))) :
    SeqV Fence.wide n Tryz.prog VT #[.pointer (some ⟨bl, 0, none⟩), .pointer (some ⟨bp, 0, none⟩)] xs (okT w0) go E w := by
  intro l J Jx Ew W hW hEw hJ hJx hY hJ0
  refine callsIn_wide.2 ?_
  obtain ⟨a0, cap0, rfl⟩ := hv.slice
  have kl := (hW.cell (cell_block hbl)).trans hbl
  have hwW : w.heap.size ≤ W.heap.size := hW.size
  have hv1 : LK twTy w0 W (fun g => ¬ Ew g ∧ g < w.heap.size) (.slice a0 L0.length cap0) L0 := hv.keep hW.size (fun g _ hlt => hW.block g hlt) fun g hg hlt => ⟨fun he => (hEw g he).elim hg fun h => by omega, hlt⟩
  have hb0 : Below w0.heap.size w0 W := h0.trans (hW.mono h0.size)
  go_enter Tryz.func118, Tryz.ntmps118
  go_wp2_with fail
  have hown : (W.alloc (.cells #[.int .i64 1, .slice a0 L0.length cap0] 162)).ownsRow W.heap.size 162 2 (.slice (some ⟨W.heap.size, 0, none⟩) 1 1) 1 (entCells [⟨1, .slice a0 L0.length cap0, L0⟩]) :=
    World.ownsRow_lit W #[.int .i64 1, .slice a0 L0.length cap0] 1 (Nat.le_refl _) (by decide) rfl
  have hsE : StT pr w0 W J Ew xs bp (.slice (some ⟨W.heap.size, 0, none⟩) 1 1) (W.alloc (.cells #[.int .i64 1, .slice a0 L0.length cap0] 162)) (2 * xs.length + 1) := by
    have hal : Below W.heap.size W (W.alloc (.cells #[.int .i64 1, .slice a0 L0.length cap0] 162)) := (Below.refl _ _).alloc (Nat.le_refl _) _
    refine ⟨⟨0, [⟨1, .slice a0 L0.length cap0, L0⟩], W.heap.size, 1, rfl, hown, ?_, ?_, Nat.zero_le _, hJ _ _ _ hJ0 hal, rfl, Nat.le_refl _, ?_⟩, ?_, hb0.trans (hal.mono hb0.size), hal.size⟩
    · intro e he
      obtain rfl : e = _ := by simpa using he
      exact ⟨hv1.keep hal.size (fun g _ hlt => hal.block g hlt) fun g hg hlt => ⟨hg.1, by omega⟩, Nat.le_refl _⟩
    · rw [List.drop_zero, hxs]; show _ = _ ++ []; rw [List.append_nil]
    · intro e he
      obtain rfl : e = _ := by simpa using he
      exact Nat.le_refl _
    · have h1 := (hW.cell (cell_block hbp)).trans hbp
      exact (hal.cell (cell_block h1)).trans h1
  clear hown
  generalize W.alloc (.cells #[.int .i64 1, .slice a0 L0.length cap0] 162) = W1 at hsE ⊢
  go_loopw [4] (fun s wr => ∃ m, StT pr w0 W J Ew xs bp s wr m) (fun s wr => least (StT pr w0 W J Ew xs bp s wr))
  case atStart => exact ⟨_, hsE⟩
  case round =>
    have hm := least_is hrel.choose_spec
    obtain ⟨M, hM⟩ : ∃ M, least (StT pr w0 W J Ew xs bp u4 wr) = M := ⟨_, rfl⟩
    rw [hM] at hm
    clear hrel
    obtain ⟨⟨i, S, g, cap, hu, hown, hS, hdrop, hile, hJi, hmeq, hSi, hdi⟩, hparts, hb, hsz⟩ := hm
    have HM : Hid (least (StT pr w0 W J Ew xs bp u4 wr) = M) := hM
    clear hM
    cases S with
    | nil =>
      subst hu
      go_wp2_with fail
      go_end0
      have : i = xs.length := by
        have h1 : xs.drop i = [] := hdrop
        have := List.drop_eq_nil_iff.1 h1
        omega
      exact ⟨⟨_, rfl⟩, .inl (this ▸ hJi)⟩
    | cons e r =>
      obtain ⟨hLe, hde⟩ := hS e (List.mem_cons_self ..)
      obtain ⟨d, v, L⟩ := e
      obtain ⟨k, hk⟩ : ∃ k, r.length = k := ⟨_, rfl⟩
      have hkk : k ≤ 2000000 := by simp at hSi; omega
      replace hu : u4 = .slice (some ⟨g, 0, none⟩) (r.length + 1) cap := hu
      replace hown : wr.ownsRow W.heap.size 162 2 (.slice (some ⟨g, 0, none⟩) (r.length + 1) cap) (r.length + 1) (entCells (⟨d, v, L⟩ :: r)) := by rw [hu] at hown; exact hown
      replace hmeq : M = 2 * (xs.length - i) + (r.length + 1) := hmeq
      replace hSi : r.length + 1 ≤ i + 1 := hSi
      obtain ⟨hcap, hgW⟩ := ownsRow_facts hown
      obtain ⟨k0, k1, k2⟩ := ent_cells hown
      rw [hk] at hu hown hmeq hSi k0 k1 k2 hcap
      subst hu
      obtain ⟨a, cp, rfl⟩ : ∃ a cp, v = .slice a L.length cp := hLe.slice
      cases L with
      | nil =>
        simp only [List.length_nil] at k1
        have HH : StT pr w0 W J Ew xs bp (.slice (some ⟨g, 0, none⟩) k cap) wr (2 * (xs.length - i) + k) := by
          subst hk
          exact ⟨⟨i, r, g, cap, rfl, ent_pop hown, fun e he => hS e (List.mem_cons_of_mem _ he), hdrop, hile, hJi, rfl, by omega, fun e he => hdi e (List.mem_cons_of_mem _ he)⟩, hparts, hb, hsz⟩
        go_wp2_with fail
        refine ⟨⟨_, HH⟩, ?_⟩
        rw [HM.out]
        have h1 := least_le HH
        omega
      | cons c L' =>
        obtain ⟨ga, oa, cp', ys, hv1, hcp, hys, hGa, hga, hcell, htl⟩ := hLe.head
        injection hv1 with e1 e2 e3
        subst e1; subst e3
        have hyl : ys.length = 20 := hys.1
        have hyo : ys.all Value.oneCell' = true := List.all_eq_true.2 hys.ones
        have ld0 := run_ldX (P := Tryz.prog) hyl Tryz.isAgg127 Tryz.sizeOf127 hcell
        simp only [List.length_cons] at k1
        go_wp2_with fail
        refine' region_float (Qf := fun a' => a' = _) 10 12 9 7 39 rfl rfl (by kernel_rfl) (by kernel_rfl) (by kernel_rfl) (by simp) (fun A w => alloc_xT A w _ _ _ _ _) (fun A w b cs hp hg hh => store_xT A w b cs _ _ _ _ _ _ _ hp hg hh) ?hG ?hW ?hQ
        case hW =>
          intro X hX
          have g0 := lat_cell ((hX.cell (cell_block k0)).trans k0)
          have g1 := lat_cell ((hX.cell (cell_block k1)).trans k1)
          have X0 : ∀ n, (ldX 127 (.pointer (some ⟨ga, oa, none⟩))).run Tryz.prog (lat X n) = .ok (.value (.agg ys.toArray)) (lat X n) := fun n => run_ldX hyl Tryz.isAgg127 Tryz.sizeOf127 fun j u hj => lat_cell ((hX.cell (cell_block (hcell j u hj))).trans (hcell j u hj)) n
          clear hX
          simp only [idle]
          iterate 13 go_big_quiet_step (fail)
          refine wpQuiet_nil ?_
          exact rfl
        case hG =>
          rintro _ rfl
          exact ⟨_, ys, rfl, hyl, hyo, rfl⟩
        case hQ =>
          rintro _ w2 b2 cs rfl hb2 hlt2 ⟨zs, hu2, -, -, rfl⟩ hh2
          obtain rfl : ys = zs := by simpa [Act.eval] using hu2
          clear hu2
          have K1 := (hb2.cell (cell_block k1)).trans k1
          have K2 := (hb2.frozen (cell_block k1)).trans k2
          simp only [Act.put, List.setIfInBounds_toArray, List.set_cons_zero, List.set_cons_succ]
          rename_i hK
          refine hK _ _ ((wpIn_wide (n := n)).1 ?_)
          clear hK
          have hbg : b2 ≠ g := by omega
          have HX : ∀ t, RowAt (w2.setCell ⟨g, k * 2 + 1, none⟩ t) b2 127 ys.toArray := fun t => RowAt.other (hh2 : RowAt _ _ _ _) hbg
          have hcp1 : 1 ≤ cp := by omega
          obtain ⟨lpre, hlpre⟩ := hhd d c
          have hdr : xs.drop i = (d, c) :: ((lpre ++ L'.flatMap (pr d)) ++ left pr r) := by
            rw [hdrop]
            show (c :: L').flatMap (pr d) ++ left pr r = _
            rw [List.flatMap_cons, hlpre]
            rfl
          have hxi : xs[i]? = some (d, c) := by
            have h1 : (xs.drop i)[0]? = some (d, c) := by rw [hdr]; rfl
            rw [List.getElem?_drop] at h1
            exact h1
          have hil : i < xs.length := (List.getElem?_eq_some_iff.1 hxi).1
          have hmem : (d, c) ∈ xs := List.mem_of_getElem? hxi
          have hb2s : b2 < w2.heap.size := (Array.getElem?_eq_some_iff.1 hh2).1
          have hWw2 : W.heap.size ≤ w2.heap.size := Nat.le_trans hsz hb2.size
          have hJ3 : ∀ t, J (i) (w2.setCell ⟨g, k * 2 + 1, none⟩ t) := fun t => hJ _ _ _ hJi ((hb2.mono hsz).setCell (p := ⟨g, k * 2 + 1, none⟩) hgW.1 _)
          have hEwW : ∀ q, Ew q → q < W.heap.size := fun q hq => (hEw q hq).elim (fun h => Nat.lt_of_lt_of_le (hE q h).2 hwW) fun h => h.2
          have hEw0 : ∀ q, Ew q → w0.heap.size ≤ q := fun q hq => (hEw q hq).elim (fun h => (hE q h).1) fun h => Nat.le_trans h0.size h.1
          have hg0 : w0.heap.size ≤ g := Nat.le_trans (Nat.le_trans h0.size hwW) hgW.1
          have hown2 : ∀ t, (w2.setCell ⟨g, k * 2 + 1, none⟩ t).ownsRow W.heap.size 162 2 (.slice (some ⟨g, 0, none⟩) (k + 1) cap) (k + 1) (entCells (⟨d, t, L'⟩ :: r)) := fun t => by
            subst hk
            exact ent_set (ownsRow_same hown (hb2.block g hgW.2)) t L'
          have hpb : bp < W.heap.size ∧ ¬ Ew bp := ⟨Nat.lt_of_lt_of_le (cell_block hbp) hwW, fun h => (hEw bp h).elim hbE fun h => by have := cell_block hbp; simp at this; omega⟩
          have hdb : d ≤ 2000001 := by have := hdi _ (List.mem_cons_self ..); simp at this; omega
          obtain ⟨z, hz, hzz⟩ : ∃ z : Nat, z = d + 1 ∧ ((z : Nat) : Int) = (d : Int) + 1 := ⟨_, rfl, by omega⟩
          obtain ⟨ib, hi1, hi2, hi3, hi4⟩ := info_parts Tryz.infoBrT
          have HLs : ∀ e ∈ (⟨d, .slice (some ⟨ga, oa, none⟩) (L'.length + 1) cp, c :: L'⟩ :: r : List Ent), LK twTy w0 wr (fun q => ¬ Ew q ∧ q ≠ g) e.v e.L ∧ 1 ≤ e.d := hS
          have hcase : cp = 1 ∨ ¬ cp = 1 := Classical.em _
          rcases hcase with h1 | h1
          · have hY3 := hY i (d, c) _ _ hxi ⟨_, hys, rfl⟩ (hJ3 (.slice (some ⟨ga, oa, none⟩) L'.length 0))
            have R3 := HX (.slice (some ⟨ga, oa, none⟩) L'.length 0)
            have hown3 := hown2 (.slice (some ⟨ga, oa, none⟩) L'.length 0)
            have hL3 : LK twTy w0 wr (fun q => ¬ Ew q ∧ q ≠ g) (.slice (some ⟨ga, oa, none⟩) L'.length 0) L' := htl _ _ (.inl (by have := hcp; rw [h1] at this; exact List.eq_nil_of_length_eq_zero (by omega)))
            have y0 := run_ldX (P := Tryz.prog) (o := 0) hyl Tryz.isAgg127 Tryz.sizeOf127 fun j u hj => by rw [Nat.zero_add]; exact R3.cell (i := j) (by simpa using hj)
            have Hb3 : Below g w2 (w2.setCell ⟨g, k * 2 + 1, none⟩ (.slice (some ⟨ga, oa, none⟩) L'.length 0)) := (Below.refl _ _).setCell (p := ⟨g, k * 2 + 1, none⟩) (Nat.le_refl _) _
            obtain ⟨fn, tmps, assign, body, hy, hR⟩ := hY3
            gi_wp2
            refine ⟨fun h => (by cases h), hR.mono ?_⟩
            rintro e W3 (⟨rfl, hgo, hJ4, hk4⟩ | ⟨rfl, hJx4⟩)
            · have hdr2 : xs.drop (i + 1) = ((pt c).flatMap (pr (d + 1)) ++ L'.flatMap (pr d)) ++ left pr r := by
                have h1 := hpre d c hmem hgo
                rw [hlpre] at h1
                injection h1 with _ h1
                rw [← List.drop_drop, hdr, h1]; rfl
              have q2 : (w2.setCell ⟨g, k * 2 + 1, none⟩ (.slice (some ⟨ga, oa, none⟩) L'.length 0)).heap.size = w2.heap.size := by simp
              have R4 : RowAt W3 b2 127 _ := (hk4.block b2 (by omega) (fun h => by have := hEwW _ h; omega)).trans R3
              have v0 := run_ldX (P := Tryz.prog) (o := 0) hyl Tryz.isAgg127 Tryz.sizeOf127 fun j u hj => by rw [Nat.zero_add]; exact R4.cell (i := j) (by simpa using hj)
              have B3 : Below w0.heap.size w0 (w2.setCell ⟨g, k * 2 + 1, none⟩ (.slice (some ⟨ga, oa, none⟩) L'.length 0)) := (hb.trans (hb2.mono hb.size)).setCell (p := ⟨g, k * 2 + 1, none⟩) hg0 _
              have B4 : Below w0.heap.size w0 W3 := B3.trans (hk4.low B3.size fun q hq h => by have := hEw0 q h; omega)
              have P4 : W3.cell? ⟨bp, 0, none⟩ = some (.func (.func 87) #[] #[]) := by
                refine (World.cell?_of_block (w := wr) (a := ⟨bp, 0, none⟩) ?_).trans hparts
                exact (hk4.block bp (by omega) hpb.2).trans (((heap_setCell_other w2 ⟨g, k * 2 + 1, none⟩ bp _ (by show bp ≠ g; omega))).trans (hb2.block bp (by omega)))
              have hown4 := ownsRow_same hown3 (hk4.block g (by omega) (fun h => by have := hEwW _ h; omega))
              have s4 : W.heap.size ≤ W3.heap.size := by have := hk4.size; omega
              have s5 : g < W3.heap.size := by have := hk4.size; omega
              have hpart := HP d c hmem hgo _ W3 hys B4
              clear hy hR R3 hY HX hown2 hJ3 k0 k1 k2 ld0 y0 K1 K2
              gi_wp2
              refine ⟨trivial, fun h => (by cases h), (callsIn_wide.2 hpart).mono ?_⟩
              clear hpart
              rintro e W4 ⟨pv, rfl, hL4, hb4⟩
              obtain ⟨pa, pcap, rfl⟩ := hL4.slice
              have hown5 := ownsRow_same hown4 (hb4.block g s5)
              gi_wp2_with (gi_at_builtin; go_loud ( refine wpListIn_append_own_at _ rfl _ _ 163 rfl W.heap.size 162 ib _ 2 32 Tryz.underlying163 hi1 hi2 hi3 hi4 rfl (by decide) (.slice (some ⟨g, 0, none⟩) (k + 1) cap) (k + 1) _ rfl (World.ownsRow.alloc hown5 _) ⟨W4.heap.size, 0, none⟩ 1 1 [.int .i64 ((d : Int) + 1), .slice pa (pt c).length pcap] rfl rfl (cells_new2 _ _ _ _) (by intro u hu; simp only [List.mem_cons, List.not_mem_nil, or_false] at hu; rcases hu with rfl | rfl <;> rfl) (by unfold maxLen; omega) (by omega) (by have := hb4.size; simp; omega) ?_; intro v' w5 hown6 hgrow hat; obtain ⟨g', cap', rfl⟩ := slice_of_owns hown6; have hs45 : W4.heap.size ≤ w5.heap.size := (by have := hgrow.size; simp at this; omega); have hg5 : ∀ q, q < W4.heap.size → q ≠ g → w5.heap[q]? = W4.heap[q]? := (fun q hq hne => (hgrow.block q (by simp; omega) (by intro e; apply hne; injection e)).trans (Below.heap_alloc _ _ _ hq)); have HH := StT.push (J := J) (Ew := Ew) (xs := xs) (bp := bp) (i := i) (wr := wr) (g := g) (by rw [← hk] at hown6; exact hown6) (fun q h1 h2 h3 => (hb4.block q (by have := hk4.size; have := hb2.size; omega)).trans ((hk4.block q (by have := hb2.size; omega) h1).trans ((heap_setCell_other w2 ⟨g, k * 2 + 1, none⟩ q _ h2).trans (hb2.block q h3)))) (by have := hb4.size; have := hk4.size; have := hb2.size; omega) hg5 hs45 (by rcases hat with h | h; exact .inl (by simpa [Value.ownBlock] using h); exact .inr (by simp [Value.ownBlock] at h; omega)) hL3 hde (fun e he => HLs e (List.mem_cons_of_mem _ he)) (hL4.keep (Nat.le_refl _) (fun _ _ _ => rfl) (fun q hq _ => ⟨fun h => by have := hEw0 q h; have := hEwW q h; omega, by omega⟩)) hdr2 hil (hJ _ _ _ hJ4 (((hb4.mono s4).alloc (by have := hb4.size; omega) _).grown hgrow (by have := hb4.size; simp; omega) (fun q e => by cases e; exact hgW.1))) (by omega) (hdi _ (List.mem_cons_self ..)) (fun e he => hdi e (List.mem_cons_of_mem _ he)) ((World.cell?_of_block (w := W4) (a := ⟨bp, 0, none⟩) (hg5 bp (by have := hb4.size; omega) (by omega))).trans ((hb4.cell (cell_block P4)).trans P4)) (((B4.trans (hb4.mono B4.size)).alloc (by have := B4.size; have := hb4.size; omega) _).grown hgrow (by have := B4.size; have := hb4.size; simp; omega) (fun q e => by cases e; exact hg0)) (by have := hb4.size; omega); rw [hk] at HH; have HHH := Lib.hid HH; clear HH hgrow hat hg5 hown6 hown5 hown4))
              refine ⟨⟨_, HHH.out⟩, ?_⟩
              rw [HM.out]
              have h1 := least_le HHH.out
              omega
            · gi_wp2
              refine bodyPost_ret (results_none rfl _ _ _) rfl ?_
              exact ⟨⟨_, rfl⟩, .inr ⟨i + 1, hil, hJx4⟩⟩
          · have hY3 := hY i (d, c) _ _ hxi ⟨_, hys, rfl⟩ (hJ3 (.slice (some ⟨ga, oa + 20, none⟩) L'.length (cp - 1)))
            have R3 := HX (.slice (some ⟨ga, oa + 20, none⟩) L'.length (cp - 1))
            have hown3 := hown2 (.slice (some ⟨ga, oa + 20, none⟩) L'.length (cp - 1))
            have hL3 : LK twTy w0 wr (fun q => ¬ Ew q ∧ q ≠ g) (.slice (some ⟨ga, oa + 20, none⟩) L'.length (cp - 1)) L' := htl _ _ (.inr ⟨rfl, by omega⟩)
            have y0 := run_ldX (P := Tryz.prog) (o := 0) hyl Tryz.isAgg127 Tryz.sizeOf127 fun j u hj => by rw [Nat.zero_add]; exact R3.cell (i := j) (by simpa using hj)
            have Hb3 : Below g w2 (w2.setCell ⟨g, k * 2 + 1, none⟩ (.slice (some ⟨ga, oa + 20, none⟩) L'.length (cp - 1))) := (Below.refl _ _).setCell (p := ⟨g, k * 2 + 1, none⟩) (Nat.le_refl _) _
            obtain ⟨fn, tmps, assign, body, hy, hR⟩ := hY3
            gi_wp2
            refine ⟨fun h => (by cases h), hR.mono ?_⟩
            rintro e W3 (⟨rfl, hgo, hJ4, hk4⟩ | ⟨rfl, hJx4⟩)
            · have hdr2 : xs.drop (i + 1) = ((pt c).flatMap (pr (d + 1)) ++ L'.flatMap (pr d)) ++ left pr r := by
                have h1 := hpre d c hmem hgo
                rw [hlpre] at h1
                injection h1 with _ h1
                rw [← List.drop_drop, hdr, h1]; rfl
              have q2 : (w2.setCell ⟨g, k * 2 + 1, none⟩ (.slice (some ⟨ga, oa + 20, none⟩) L'.length (cp - 1))).heap.size = w2.heap.size := by simp
              have R4 : RowAt W3 b2 127 _ := (hk4.block b2 (by omega) (fun h => by have := hEwW _ h; omega)).trans R3
              have v0 := run_ldX (P := Tryz.prog) (o := 0) hyl Tryz.isAgg127 Tryz.sizeOf127 fun j u hj => by rw [Nat.zero_add]; exact R4.cell (i := j) (by simpa using hj)
              have B3 : Below w0.heap.size w0 (w2.setCell ⟨g, k * 2 + 1, none⟩ (.slice (some ⟨ga, oa + 20, none⟩) L'.length (cp - 1))) := (hb.trans (hb2.mono hb.size)).setCell (p := ⟨g, k * 2 + 1, none⟩) hg0 _
              have B4 : Below w0.heap.size w0 W3 := B3.trans (hk4.low B3.size fun q hq h => by have := hEw0 q h; omega)
              have P4 : W3.cell? ⟨bp, 0, none⟩ = some (.func (.func 87) #[] #[]) := by
                refine (World.cell?_of_block (w := wr) (a := ⟨bp, 0, none⟩) ?_).trans hparts
                exact (hk4.block bp (by omega) hpb.2).trans (((heap_setCell_other w2 ⟨g, k * 2 + 1, none⟩ bp _ (by show bp ≠ g; omega))).trans (hb2.block bp (by omega)))
              have hown4 := ownsRow_same hown3 (hk4.block g (by omega) (fun h => by have := hEwW _ h; omega))
              have s4 : W.heap.size ≤ W3.heap.size := by have := hk4.size; omega
              have s5 : g < W3.heap.size := by have := hk4.size; omega
              have hpart := HP d c hmem hgo _ W3 hys B4
              clear hy hR R3 hY HX hown2 hJ3 k0 k1 k2 ld0 y0 K1 K2
              gi_wp2
              refine ⟨trivial, fun h => (by cases h), (callsIn_wide.2 hpart).mono ?_⟩
              clear hpart
              rintro e W4 ⟨pv, rfl, hL4, hb4⟩
              obtain ⟨pa, pcap, rfl⟩ := hL4.slice
              have hown5 := ownsRow_same hown4 (hb4.block g s5)
              gi_wp2_with (gi_at_builtin; go_loud ( refine wpListIn_append_own_at _ rfl _ _ 163 rfl W.heap.size 162 ib _ 2 32 Tryz.underlying163 hi1 hi2 hi3 hi4 rfl (by decide) (.slice (some ⟨g, 0, none⟩) (k + 1) cap) (k + 1) _ rfl (World.ownsRow.alloc hown5 _) ⟨W4.heap.size, 0, none⟩ 1 1 [.int .i64 ((d : Int) + 1), .slice pa (pt c).length pcap] rfl rfl (cells_new2 _ _ _ _) (by intro u hu; simp only [List.mem_cons, List.not_mem_nil, or_false] at hu; rcases hu with rfl | rfl <;> rfl) (by unfold maxLen; omega) (by omega) (by have := hb4.size; simp; omega) ?_; intro v' w5 hown6 hgrow hat; obtain ⟨g', cap', rfl⟩ := slice_of_owns hown6; have hs45 : W4.heap.size ≤ w5.heap.size := (by have := hgrow.size; simp at this; omega); have hg5 : ∀ q, q < W4.heap.size → q ≠ g → w5.heap[q]? = W4.heap[q]? := (fun q hq hne => (hgrow.block q (by simp; omega) (by intro e; apply hne; injection e)).trans (Below.heap_alloc _ _ _ hq)); have HH := StT.push (J := J) (Ew := Ew) (xs := xs) (bp := bp) (i := i) (wr := wr) (g := g) (by rw [← hk] at hown6; exact hown6) (fun q h1 h2 h3 => (hb4.block q (by have := hk4.size; have := hb2.size; omega)).trans ((hk4.block q (by have := hb2.size; omega) h1).trans ((heap_setCell_other w2 ⟨g, k * 2 + 1, none⟩ q _ h2).trans (hb2.block q h3)))) (by have := hb4.size; have := hk4.size; have := hb2.size; omega) hg5 hs45 (by rcases hat with h | h; exact .inl (by simpa [Value.ownBlock] using h); exact .inr (by simp [Value.ownBlock] at h; omega)) hL3 hde (fun e he => HLs e (List.mem_cons_of_mem _ he)) (hL4.keep (Nat.le_refl _) (fun _ _ _ => rfl) (fun q hq _ => ⟨fun h => by have := hEw0 q h; have := hEwW q h; omega, by omega⟩)) hdr2 hil (hJ _ _ _ hJ4 (((hb4.mono s4).alloc (by have := hb4.size; omega) _).grown hgrow (by have := hb4.size; simp; omega) (fun q e => by cases e; exact hgW.1))) (by omega) (hdi _ (List.mem_cons_self ..)) (fun e he => hdi e (List.mem_cons_of_mem _ he)) ((World.cell?_of_block (w := W4) (a := ⟨bp, 0, none⟩) (hg5 bp (by have := hb4.size; omega) (by omega))).trans ((hb4.cell (cell_block P4)).trans P4)) (((B4.trans (hb4.mono B4.size)).alloc (by have := B4.size; have := hb4.size; omega) _).grown hgrow (by have := B4.size; have := hb4.size; simp; omega) (fun q e => by cases e; exact hg0)) (by have := hb4.size; omega); rw [hk] at HH; have HHH := Lib.hid HH; clear HH hgrow hat hg5 hown6 hown5 hown4))
              refine ⟨⟨_, HHH.out⟩, ?_⟩
              rw [HM.out]
              have h1 := least_le HHH.out
              omega
            · gi_wp2
              refine bodyPost_ret (results_none rfl _ _ _) rfl ?_
              exact ⟨⟨_, rfl⟩, .inr ⟨i + 1, hil, hJx4⟩⟩
end Go.Proofs.YtcliijfdlcagoaaGreat
