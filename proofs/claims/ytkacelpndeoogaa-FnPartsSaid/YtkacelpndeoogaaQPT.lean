/- Joined texts: EveryI EveryS EveryQ SameX ItemI. -/
import Derived.Test.YtkacelpndeoogaaQPI
import Derived.Test.YtkacelpndeoogaaQPQ
import Derived.Test.YtkacelpndeoogaaQPK
import Derived.Test.YtkacelpndeoogaaQPB
import Derived.Test.YtkacelpndeoogaaQHShapeI
import Derived.Deep.RegionWith
/- The program's every[..] at the parts of a query. -/
namespace Go.Proofs.Ytkacelpndeoogaa
open Go.RowKit

set_option maxRecDepth 100000 in
set_option maxHeartbeats 8000000 in
theorem every_items (w0 W : World) (a1 : Option Addr) (p1 : Nat) (L1 : List Nd) (hb0 : Below w0.heap.size w0 W)
    (h1 : LK (rowTy .items) w0 W (fun _ => True) (.slice a1 L1.length p1) L1) (hN : L1.length ≤ 1048576)
    (HF : ∀ c ∈ L1, ∀ (ys : List Value) (W' : World), OutK (rowTy .items) w0 ys [c] → Below w0.heap.size w0 W' →
      Calls Try.prog 102 #[.agg ys.toArray] W' (BoolE (itemB c) W')) :
    Calls Try.prog 101 #[.slice a1 L1.length p1, .func (.func 102) #[] #[]] W (BoolE (L1.all itemB) W) := by
  have hB0 := Below.refl W.heap.size W
  go_enter Try.func101, Try.ntmps101
  go_wp2_with fail
  go_loopw [9] (fun i wr => ∃ j : Nat, j ≤ L1.length ∧ i = .int .i64 (j : Int) ∧ Below W.heap.size W wr ∧ Hid ((L1.take j).all itemB = true)) (fun i _ => L1.length - (intOf i).toNat)
  case atStart => exact ⟨0, by omega, rfl, hB0, rfl⟩
  case round =>
    obtain ⟨j, hj, rfl, hB, HA⟩ := hrel
    by_cases hlt : j < L1.length
    · have hlt2 : (j : Int) < (L1.length : Int) := by omega
      obtain ⟨g, o, cap', ys, hv, hys, -, hg, hcell⟩ := h1.at (List.getElem?_eq_getElem hlt)
      injection hv with e1 _ e3
      subst e1; subst e3
      have HC := fun w' h => HF L1[j] (List.getElem_mem hlt) ys w' hys h
      obtain ⟨x0, x1, x2, x3, x4, x5, x6, x7, x8, x9, ax10, nx10, px10, ax11, nx11, px11, x12, rfl, -⟩ := hys.itemRow
      have z0 : wr.cell? ⟨g, o + j * 13, none⟩ = some (.bool x0) := (hB.cell (p := ⟨g, o + j * 13, none⟩) hg).trans (hcell 0 _ rfl)
      have z1 : wr.cell? ⟨g, o + j * 13 + 1, none⟩ = some (.string x1) := (hB.cell (p := ⟨g, o + j * 13 + 1, none⟩) hg).trans (hcell 1 _ rfl)
      have z2 : wr.cell? ⟨g, o + j * 13 + 2, none⟩ = some (.int .i64 x2) := (hB.cell (p := ⟨g, o + j * 13 + 2, none⟩) hg).trans (hcell 2 _ rfl)
      have z3 : wr.cell? ⟨g, o + j * 13 + 3, none⟩ = some (.int .i64 x3) := (hB.cell (p := ⟨g, o + j * 13 + 3, none⟩) hg).trans (hcell 3 _ rfl)
      have z4 : wr.cell? ⟨g, o + j * 13 + 4, none⟩ = some (.bool x4) := (hB.cell (p := ⟨g, o + j * 13 + 4, none⟩) hg).trans (hcell 4 _ rfl)
      have z5 : wr.cell? ⟨g, o + j * 13 + 5, none⟩ = some (.int .i64 x5) := (hB.cell (p := ⟨g, o + j * 13 + 5, none⟩) hg).trans (hcell 5 _ rfl)
      have z6 : wr.cell? ⟨g, o + j * 13 + 6, none⟩ = some (.int .i64 x6) := (hB.cell (p := ⟨g, o + j * 13 + 6, none⟩) hg).trans (hcell 6 _ rfl)
      have z7 : wr.cell? ⟨g, o + j * 13 + 7, none⟩ = some (.string x7) := (hB.cell (p := ⟨g, o + j * 13 + 7, none⟩) hg).trans (hcell 7 _ rfl)
      have z8 : wr.cell? ⟨g, o + j * 13 + 8, none⟩ = some (.string x8) := (hB.cell (p := ⟨g, o + j * 13 + 8, none⟩) hg).trans (hcell 8 _ rfl)
      have z9 : wr.cell? ⟨g, o + j * 13 + 9, none⟩ = some (.string x9) := (hB.cell (p := ⟨g, o + j * 13 + 9, none⟩) hg).trans (hcell 9 _ rfl)
      have z10 : wr.cell? ⟨g, o + j * 13 + 10, none⟩ = some (.slice ax10 nx10 px10) := (hB.cell (p := ⟨g, o + j * 13 + 10, none⟩) hg).trans (hcell 10 _ rfl)
      have z11 : wr.cell? ⟨g, o + j * 13 + 11, none⟩ = some (.slice ax11 nx11 px11) := (hB.cell (p := ⟨g, o + j * 13 + 11, none⟩) hg).trans (hcell 11 _ rfl)
      have z12 : wr.cell? ⟨g, o + j * 13 + 12, none⟩ = some (.string x12) := (hB.cell (p := ⟨g, o + j * 13 + 12, none⟩) hg).trans (hcell 12 _ rfl)
      have hgw : g < wr.heap.size := Nat.lt_of_lt_of_le hg hB.size
      clear hcell hys
      have hsnoc : (L1.take (j + 1)).all itemB = ((L1.take j).all itemB && itemB L1[j]) := by
        rw [take_next (List.getElem?_eq_getElem hlt), List.all_append, List.all_cons, List.all_nil, Bool.and_true]
      have HSN := Lib.hid hsnoc
      have hal2 : Below wr.heap.size wr (wr.alloc (.cells #[.bool x0, .string x1, .int .i64 x2, .int .i64 x3, .bool x4, .int .i64 x5, .int .i64 x6, .string x7, .string x8, .string x9, .slice ax10 nx10 px10, .slice ax11 nx11 px11, .string x12] 126)) := (Below.refl _ _).alloc (Nat.le_refl _) _
      have hb2 := (hb0.trans (hB.mono hb0.size)).trans (hal2.mono (Nat.le_trans hb0.size hB.size))
      have hB2 := hB.trans (hal2.mono hB.size)
      have HCC := HC _ hb2
      clear hsnoc HC hal2 hb2
      generalize hp : itemB L1[j] = pv at HCC HSN
      have HP := Lib.hid hp
      clear hp
      cases pv
      case true =>
        have HS2 : Hid ((L1.take (j + 1)).all itemB = true) := by show _ = true; rw [HSN.out, HA.out]; rfl
        go_wp2_with fail
        refine HCC.mono ?_
        clear HCC
        rintro e w2 ⟨rfl, hb2⟩
        have hB3 := hB2.trans (hb2.mono hB2.size)
        clear hb2 hB2 z0 z1 z2 z3 z4 z5 z6 z7 z8 z9 z10 z11 z12
        go_wp2_with fail
        go_roundw
        case rel => exact ⟨j + 1, by omega, by go_num, hB3, HS2⟩
        case measure => simp [intOf]; omega
      case false =>
        have HS2 : Hid (L1.all itemB = false) := by
          show _ = false
          have e1 : L1 = L1.take (j + 1) ++ L1.drop (j + 1) := (List.take_append_drop _ _).symm
          rw [e1, List.all_append, HSN.out, HA.out]; rfl
        go_wp2_with fail
        refine HCC.mono ?_
        clear HCC
        rintro e w2 ⟨rfl, hb2⟩
        have hB3 := hB2.trans (hb2.mono hB2.size)
        clear hb2 hB2 z0 z1 z2 z3 z4 z5 z6 z7 z8 z9 z10 z11 z12
        go_wp2_with fail
        go_ret
        exact ⟨by rw [HS2.out]; rfl, hB3⟩
    · obtain rfl : j = L1.length := by omega
      clear hlt hj
      go_wp2_with fail
      go_ret
      refine ⟨?_, hB⟩
      have h := HA.out
      rw [List.take_length] at h
      rw [h]; rfl
end Go.Proofs.Ytkacelpndeoogaa

/- The program's every[..] at the parts of a query. -/
namespace Go.Proofs.Ytkacelpndeoogaa
open Go.RowKit

set_option maxRecDepth 100000 in
set_option maxHeartbeats 8000000 in
theorem every_sources (w0 W : World) (a1 : Option Addr) (p1 : Nat) (L1 : List Nd) (hb0 : Below w0.heap.size w0 W)
    (h1 : LK (rowTy .sources) w0 W (fun _ => True) (.slice a1 L1.length p1) L1) (hN : L1.length ≤ 1048576)
    (HF : ∀ c ∈ L1, ∀ (ys : List Value) (W' : World), OutK (rowTy .sources) w0 ys [c] → Below w0.heap.size w0 W' →
      Calls Try.prog 104 #[.agg ys.toArray] W' (BoolE (sourceB c) W')) :
    Calls Try.prog 103 #[.slice a1 L1.length p1, .func (.func 104) #[] #[]] W (BoolE (L1.all sourceB) W) := by
  have hB0 := Below.refl W.heap.size W
  go_enter Try.func103, Try.ntmps103
  go_wp2_with fail
  go_loopw [9] (fun i wr => ∃ j : Nat, j ≤ L1.length ∧ i = .int .i64 (j : Int) ∧ Below W.heap.size W wr ∧ Hid ((L1.take j).all sourceB = true)) (fun i _ => L1.length - (intOf i).toNat)
  case atStart => exact ⟨0, by omega, rfl, hB0, rfl⟩
  case round =>
    obtain ⟨j, hj, rfl, hB, HA⟩ := hrel
    by_cases hlt : j < L1.length
    · have hlt2 : (j : Int) < (L1.length : Int) := by omega
      obtain ⟨g, o, cap', ys, hv, hys, -, hg, hcell⟩ := h1.at (List.getElem?_eq_getElem hlt)
      injection hv with e1 _ e3
      subst e1; subst e3
      have HC := fun w' h => HF L1[j] (List.getElem_mem hlt) ys w' hys h
      obtain ⟨x0, x1, ax2, nx2, px2, rfl, -⟩ := hys.sourceRow
      have z0 : wr.cell? ⟨g, o + j * 3, none⟩ = some (.string x0) := (hB.cell (p := ⟨g, o + j * 3, none⟩) hg).trans (hcell 0 _ rfl)
      have z1 : wr.cell? ⟨g, o + j * 3 + 1, none⟩ = some (.string x1) := (hB.cell (p := ⟨g, o + j * 3 + 1, none⟩) hg).trans (hcell 1 _ rfl)
      have z2 : wr.cell? ⟨g, o + j * 3 + 2, none⟩ = some (.slice ax2 nx2 px2) := (hB.cell (p := ⟨g, o + j * 3 + 2, none⟩) hg).trans (hcell 2 _ rfl)
      have hgw : g < wr.heap.size := Nat.lt_of_lt_of_le hg hB.size
      clear hcell hys
      have hsnoc : (L1.take (j + 1)).all sourceB = ((L1.take j).all sourceB && sourceB L1[j]) := by
        rw [take_next (List.getElem?_eq_getElem hlt), List.all_append, List.all_cons, List.all_nil, Bool.and_true]
      have HSN := Lib.hid hsnoc
      have hal2 : Below wr.heap.size wr (wr.alloc (.cells #[.string x0, .string x1, .slice ax2 nx2 px2] 93)) := (Below.refl _ _).alloc (Nat.le_refl _) _
      have hb2 := (hb0.trans (hB.mono hb0.size)).trans (hal2.mono (Nat.le_trans hb0.size hB.size))
      have hB2 := hB.trans (hal2.mono hB.size)
      have HCC := HC _ hb2
      clear hsnoc HC hal2 hb2
      generalize hp : sourceB L1[j] = pv at HCC HSN
      have HP := Lib.hid hp
      clear hp
      cases pv
      case true =>
        have HS2 : Hid ((L1.take (j + 1)).all sourceB = true) := by show _ = true; rw [HSN.out, HA.out]; rfl
        go_wp2_with fail
        refine HCC.mono ?_
        clear HCC
        rintro e w2 ⟨rfl, hb2⟩
        have hB3 := hB2.trans (hb2.mono hB2.size)
        clear hb2 hB2 z0 z1 z2
        go_wp2_with fail
        go_roundw
        case rel => exact ⟨j + 1, by omega, by go_num, hB3, HS2⟩
        case measure => simp [intOf]; omega
      case false =>
        have HS2 : Hid (L1.all sourceB = false) := by
          show _ = false
          have e1 : L1 = L1.take (j + 1) ++ L1.drop (j + 1) := (List.take_append_drop _ _).symm
          rw [e1, List.all_append, HSN.out, HA.out]; rfl
        go_wp2_with fail
        refine HCC.mono ?_
        clear HCC
        rintro e w2 ⟨rfl, hb2⟩
        have hB3 := hB2.trans (hb2.mono hB2.size)
        clear hb2 hB2 z0 z1 z2
        go_wp2_with fail
        go_ret
        exact ⟨by rw [HS2.out]; rfl, hB3⟩
    · obtain rfl : j = L1.length := by omega
      clear hlt hj
      go_wp2_with fail
      go_ret
      refine ⟨?_, hB⟩
      have h := HA.out
      rw [List.take_length] at h
      rw [h]; rfl
end Go.Proofs.Ytkacelpndeoogaa

/- The program's every[..] at the parts of a query. -/
namespace Go.Proofs.Ytkacelpndeoogaa
open Go.RowKit

set_option maxRecDepth 100000 in
set_option maxHeartbeats 8000000 in
theorem every_queries (w0 W : World) (a1 : Option Addr) (p1 : Nat) (L1 : List Nd) (hb0 : Below w0.heap.size w0 W)
    (h1 : LK (rowTy .queries) w0 W (fun _ => True) (.slice a1 L1.length p1) L1) (hN : L1.length ≤ 1048576)
    (HF : ∀ c ∈ L1, ∀ (ys : List Value) (W' : World), OutK (rowTy .queries) w0 ys [c] → Below w0.heap.size w0 W' →
      Calls Try.prog 48 #[.agg ys.toArray] W' (BoolE (frameB c) W')) :
    Calls Try.prog 163 #[.slice a1 L1.length p1, .func (.func 48) #[] #[]] W (BoolE (L1.all frameB) W) := by
  have hB0 := Below.refl W.heap.size W
  go_enter Try.func163, Try.ntmps163
  go_wp2_with fail
  go_loopw [9] (fun i wr => ∃ j : Nat, j ≤ L1.length ∧ i = .int .i64 (j : Int) ∧ Below W.heap.size W wr ∧ Hid ((L1.take j).all frameB = true)) (fun i _ => L1.length - (intOf i).toNat)
  case atStart => exact ⟨0, by omega, rfl, hB0, rfl⟩
  case round =>
    obtain ⟨j, hj, rfl, hB, HA⟩ := hrel
    by_cases hlt : j < L1.length
    · have hlt2 : (j : Int) < (L1.length : Int) := by omega
      obtain ⟨g, o, cap', ys, hv, hys, -, hg, hcell⟩ := h1.at (List.getElem?_eq_getElem hlt)
      injection hv with e1 _ e3
      subst e1; subst e3
      have HC := fun w' h => HF L1[j] (List.getElem_mem hlt) ys w' hys h
      obtain ⟨x0, ax1, nx1, px1, ax2, nx2, px2, ax3, nx3, px3, ax4, nx4, px4, x5, rfl, -⟩ := hys.queryRow
      have z0 : wr.cell? ⟨g, o + j * 6, none⟩ = some (.bool x0) := (hB.cell (p := ⟨g, o + j * 6, none⟩) hg).trans (hcell 0 _ rfl)
      have z1 : wr.cell? ⟨g, o + j * 6 + 1, none⟩ = some (.slice ax1 nx1 px1) := (hB.cell (p := ⟨g, o + j * 6 + 1, none⟩) hg).trans (hcell 1 _ rfl)
      have z2 : wr.cell? ⟨g, o + j * 6 + 2, none⟩ = some (.slice ax2 nx2 px2) := (hB.cell (p := ⟨g, o + j * 6 + 2, none⟩) hg).trans (hcell 2 _ rfl)
      have z3 : wr.cell? ⟨g, o + j * 6 + 3, none⟩ = some (.slice ax3 nx3 px3) := (hB.cell (p := ⟨g, o + j * 6 + 3, none⟩) hg).trans (hcell 3 _ rfl)
      have z4 : wr.cell? ⟨g, o + j * 6 + 4, none⟩ = some (.slice ax4 nx4 px4) := (hB.cell (p := ⟨g, o + j * 6 + 4, none⟩) hg).trans (hcell 4 _ rfl)
      have z5 : wr.cell? ⟨g, o + j * 6 + 5, none⟩ = some (.int .i64 x5) := (hB.cell (p := ⟨g, o + j * 6 + 5, none⟩) hg).trans (hcell 5 _ rfl)
      have hgw : g < wr.heap.size := Nat.lt_of_lt_of_le hg hB.size
      clear hcell hys
      have hsnoc : (L1.take (j + 1)).all frameB = ((L1.take j).all frameB && frameB L1[j]) := by
        rw [take_next (List.getElem?_eq_getElem hlt), List.all_append, List.all_cons, List.all_nil, Bool.and_true]
      have HSN := Lib.hid hsnoc
      have hal2 : Below wr.heap.size wr (wr.alloc (.cells #[.bool x0, .slice ax1 nx1 px1, .slice ax2 nx2 px2, .slice ax3 nx3 px3, .slice ax4 nx4 px4, .int .i64 x5] 38)) := (Below.refl _ _).alloc (Nat.le_refl _) _
      have hb2 := (hb0.trans (hB.mono hb0.size)).trans (hal2.mono (Nat.le_trans hb0.size hB.size))
      have hB2 := hB.trans (hal2.mono hB.size)
      have HCC := HC _ hb2
      clear hsnoc HC hal2 hb2
      generalize hp : frameB L1[j] = pv at HCC HSN
      have HP := Lib.hid hp
      clear hp
      cases pv
      case true =>
        have HS2 : Hid ((L1.take (j + 1)).all frameB = true) := by show _ = true; rw [HSN.out, HA.out]; rfl
        go_wp2_with fail
        refine HCC.mono ?_
        clear HCC
        rintro e w2 ⟨rfl, hb2⟩
        have hB3 := hB2.trans (hb2.mono hB2.size)
        clear hb2 hB2 z0 z1 z2 z3 z4 z5
        go_wp2_with fail
        go_roundw
        case rel => exact ⟨j + 1, by omega, by go_num, hB3, HS2⟩
        case measure => simp [intOf]; omega
      case false =>
        have HS2 : Hid (L1.all frameB = false) := by
          show _ = false
          have e1 : L1 = L1.take (j + 1) ++ L1.drop (j + 1) := (List.take_append_drop _ _).symm
          rw [e1, List.all_append, HSN.out, HA.out]; rfl
        go_wp2_with fail
        refine HCC.mono ?_
        clear HCC
        rintro e w2 ⟨rfl, hb2⟩
        have hB3 := hB2.trans (hb2.mono hB2.size)
        clear hb2 hB2 z0 z1 z2 z3 z4 z5
        go_wp2_with fail
        go_ret
        exact ⟨by rw [HS2.out]; rfl, hB3⟩
    · obtain rfl : j = L1.length := by omega
      clear hlt hj
      go_wp2_with fail
      go_ret
      refine ⟨?_, hB⟩
      have h := HA.out
      rw [List.take_length] at h
      rw [h]; rfl
end Go.Proofs.Ytkacelpndeoogaa

/- The program's SameExpr. -/
namespace Go.Proofs.Ytkacelpndeoogaa
open Go.RowKit

set_option maxRecDepth 100000 in
set_option maxHeartbeats 8000000 in
theorem SameExpr_any (w0 : World) (c c' : Nd) (us vs : List Value) (W : World) (hx : OutK exprTy w0 us [c]) (hy : OutK exprTy w0 vs [c']) (hb0 : Below w0.heap.size w0 W) (hc : Bd c) (hc' : Bd c') (hw : wt c ≤ 2000000) :
    Calls Try.prog 20 #[.agg us.toArray, .agg vs.toArray] W (BoolE (sameC exprTy c c') W) := by
  have hout := out_pair hx hy
  have hbd := bdT_pair hc hc'
  obtain ⟨x0, x1, x2, x3, x4, x5, x6, x7, ax8, nx8, px8, ax9, nx9, px9, rfl, -⟩ := hx.ten
  obtain ⟨y0, y1, y2, y3, y4, y5, y6, y7, ay8, ny8, py8, ay9, ny9, py9, rfl, -⟩ := hy.ten
  have hB : Below W.heap.size W ((W.alloc (.cells #[.int .i64 x0, .int .i64 x1, .bool x2, .int .i64 x3, .int .i64 x4, .string x5, .string x6, .string x7, .slice ax8 nx8 px8, .slice ax9 nx9 px9] 29)).alloc (.cells #[.int .i64 y0, .int .i64 y1, .bool y2, .int .i64 y3, .int .i64 y4, .string y5, .string y6, .string y7, .slice ay8 ny8 py8, .slice ay9 ny9 py9] 29)) := ((Below.refl _ _).alloc (Nat.le_refl _) _).alloc (by simp) _
  have s2 : ((W.alloc (.cells #[.int .i64 x0, .int .i64 x1, .bool x2, .int .i64 x3, .int .i64 x4, .string x5, .string x6, .string x7, .slice ax8 nx8 px8, .slice ax9 nx9 px9] 29)).alloc (.cells #[.int .i64 y0, .int .i64 y1, .bool y2, .int .i64 y3, .int .i64 y4, .string y5, .string y6, .string y7, .slice ay8 ny8 py8, .slice ay9 ny9 py9] 29)).heap.size = W.heap.size + 2 := by simp
  clear hx hy
  go_enter Try.func20, Try.ntmps20
  go_wp2_with fail
  generalize ((W.alloc (.cells #[.int .i64 x0, .int .i64 x1, .bool x2, .int .i64 x3, .int .i64 x4, .string x5, .string x6, .string x7, .slice ax8 nx8 px8, .slice ax9 nx9 px9] 29)).alloc (.cells #[.int .i64 y0, .int .i64 y1, .bool y2, .int .i64 y3, .int .i64 y4, .string y5, .string y6, .string y7, .slice ay8 ny8 py8, .slice ay9 ny9 py9] 29)) = w2 at hB s2 ⊢
  have R := RowAt.new w2 78 #[.int .i64 x0, .int .i64 x1, .bool x2, .int .i64 x3, .int .i64 x4, .string x5, .string x6, .string x7, .slice ax8 nx8 px8, .slice ax9 nx9 px9, .int .i64 y0, .int .i64 y1, .bool y2, .int .i64 y3, .int .i64 y4, .string y5, .string y6, .string y7, .slice ay8 ny8 py8, .slice ay9 ny9 py9]
  have hal : Below w2.heap.size w2 (w2.alloc (.cells #[.int .i64 x0, .int .i64 x1, .bool x2, .int .i64 x3, .int .i64 x4, .string x5, .string x6, .string x7, .slice ax8 nx8 px8, .slice ax9 nx9 px9, .int .i64 y0, .int .i64 y1, .bool y2, .int .i64 y3, .int .i64 y4, .string y5, .string y6, .string y7, .slice ay8 ny8 py8, .slice ay9 ny9 py9] 78)) := (Below.refl _ _).alloc (Nat.le_refl _) _
  rw [s2] at R
  generalize w2.alloc (.cells #[.int .i64 x0, .int .i64 x1, .bool x2, .int .i64 x3, .int .i64 x4, .string x5, .string x6, .string x7, .slice ax8 nx8 px8, .slice ax9 nx9 px9, .int .i64 y0, .int .i64 y1, .bool y2, .int .i64 y3, .int .i64 y4, .string y5, .string y6, .string y7, .slice ay8 ny8 py8, .slice ay9 ny9 py9] 78) = w3 at R hal ⊢
  have hB3 := hB.trans (hal.mono hB.size)
  have hlk : LK twTy w0 w3 (fun _ => True) (.slice (some ⟨W.heap.size + 2, 0, none⟩) 1 1) [pairT c c'] :=
    ⟨_, 1, _, rfl, hout, .inr ⟨W.heap.size + 2, 0, rfl, Nat.le_refl _, trivial, R.lt, fun j u hj => by rw [Nat.zero_add]; exact R.cell (by simpa using hj)⟩⟩
  refine (allSame_any w0 w3 [pairT c c'] _ (hb0.trans (hB3.mono hb0.size)) hlk (fun t ht => by rw [List.mem_singleton.1 ht]; exact hbd) (by rw [wsum_cons, wt_pair]; show wt c + 0 ≤ _; omega)).mono ?_
  rintro e w4 ⟨rfl, hb4⟩
  have hv : ([pairT c c'].all fun t => sameC exprTy t (cut 10 t)) = sameC exprTy c c' := by
    rw [List.all_cons, List.all_nil, Bool.and_true, sameC_pair]
  rw [hv]
  have hf := hB3.trans (hb4.mono hB3.size)
  go_wp2_with fail
  go_ret
  exact ⟨rfl, hf⟩
end Go.Proofs.Ytkacelpndeoogaa

/- The program's tests on a source, an item, a query's frame and a node. -/
namespace Go.Proofs.Ytkacelpndeoogaa
open Go.RowKit

theorem num_v {d : Dat} {k : IntKind} {n : Int} (h : d = .v (.int k n)) : d.num = n := by rw [h]; rfl
theorem tru_v {d : Dat} {b : Bool} (h : d = .v (.bool b)) : d.tru = b := by rw [h]; rfl
theorem txt_v {d : Dat} {s : ByteArray} (h : d = .v (.string s)) : d.txt = s := by rw [h]; rfl
theorem zero_out (w : World) : OutK exprTy w [.int .i64 0, .int .i64 0, .bool false, .int .i64 0, .int .i64 0, .string ⟨#[]⟩, .string ⟨#[]⟩, .string ⟨#[]⟩, .slice none 0 0, .slice none 0 0] [zeroNd] := OutK.one rfl (fun m hm => match m, hm with
  | 0, _ => ⟨_, rfl, rfl, ⟨_, rfl, by decide, by decide⟩⟩
  | 1, _ => ⟨_, rfl, rfl, ⟨_, rfl, by decide, by decide⟩⟩
  | 2, _ => ⟨_, rfl, rfl, ⟨_, rfl⟩⟩
  | 3, _ => ⟨_, rfl, rfl, ⟨_, rfl, by decide, by decide⟩⟩
  | 4, _ => ⟨_, rfl, rfl, ⟨_, rfl, by decide, by decide⟩⟩
  | 5, _ => ⟨_, rfl, rfl, ⟨_, rfl, by decide⟩⟩
  | 6, _ => ⟨_, rfl, rfl, ⟨_, rfl, by decide⟩⟩
  | 7, _ => ⟨_, rfl, rfl, ⟨_, rfl, by decide⟩⟩
  | 8, _ => ⟨_, rfl, ⟨none, 0, rfl, Nat.le_refl _, fun _ => rfl, .inl rfl⟩, ⟨rfl, by decide, rfl, fun i hi => absurd hi (Nat.not_lt_zero i)⟩⟩
  | 9, _ => ⟨_, rfl, ⟨none, 0, rfl, Nat.le_refl _, fun _ => rfl, .inl rfl⟩, ⟨rfl, by decide, rfl, fun i hi => absurd hi (Nat.not_lt_zero i)⟩⟩
  | m + 10, hm => absurd hm (by simp [exprTy]))
theorem msr_zero (k : Nat) (f : Nat → Nat → Dat) : msr (.sl 0 k f) = 0 := by unfold msr; rfl
theorem zero_bd : Bd zeroNd := by
  refine ⟨?_, ?_, ⟨rfl, by decide, rfl, fun i hi => absurd hi (Nat.not_lt_zero i)⟩, ⟨rfl, by decide, rfl, fun i hi => absurd hi (Nat.not_lt_zero i)⟩⟩
  · show msr (.sl 0 10 _) ≤ _; rw [msr_zero]; exact Nat.zero_le _
  · show msr (.sl 0 6 _) ≤ _; rw [msr_zero]; exact Nat.zero_le _
set_option maxRecDepth 100000 in
set_option maxHeartbeats 8000000 in
theorem sourceOk_any (w0 : World) (c : Nd) (ys : List Value) (W : World) (hys : OutK (rowTy .sources) w0 ys [c]) (_hb0 : Below w0.heap.size w0 W) :
    Calls Try.prog 104 #[.agg ys.toArray] W (BoolE (sourceB c) W) := by
  obtain ⟨x0, x1, ax2, nx2, px2, rfl, ⟨e0, b0⟩, ⟨e1, b1⟩, ⟨r2, q2⟩⟩ := hys.sourceRow
  have hv : sourceB c = (okLen x0.size && (optB x1 && decide (nx2 ≤ 1))) := by unfold sourceB; rw [txt_v e0, txt_v e1, r2.slen q2 rfl]
  rw [hv]
  have R := RowAt.new W 93 #[.string x0, .string x1, .slice ax2 nx2 px2]
  have hB : Below W.heap.size W (W.alloc (.cells #[.string x0, .string x1, .slice ax2 nx2 px2] 93)) := (Below.refl _ _).alloc (Nat.le_refl _) _
  have HB := Lib.hid hB
  have z0 := R.cell (i := 0) (v := .string x0) rfl
  have z1 := R.cell (i := 1) (v := .string x1) rfl
  have z2 := R.cell (i := 2) (v := .slice ax2 nx2 px2) rfl
  have hN := fun w => nameOk_impl x0 w b0
  have hO := fun w => opt_impl x1 w b1
  have h2 : decide ((nx2 : Int) ≤ (1 : Int)) = decide (nx2 ≤ 1) := by rw [decide_eq_decide]; omega
  clear hv hys hB e0 b0 e1 b1 r2 q2 R
  generalize okLen x0.size = u0 at hN ⊢
  generalize optB x1 = u1 at hO ⊢
  generalize decide (nx2 ≤ 1) = u2 at h2 ⊢
  go_enter Try.func104, Try.ntmps104
  cases u0
  · go_wp2_with fail
    refine (hN _).mono ?_
    rintro e w1 ⟨rfl, rfl⟩
    go_wp2_with fail
    go_ret
    exact ⟨rfl, HB.out⟩
  · go_wp2_with fail
    refine (hN _).mono ?_
    rintro e w1 ⟨rfl, rfl⟩
    cases u1
    · go_wp2_with fail
      refine (hO _).mono ?_
      rintro e w1 ⟨rfl, rfl⟩
      go_wp2_with fail
      go_ret
      exact ⟨rfl, HB.out⟩
    · go_wp2_with fail
      refine (hO _).mono ?_
      rintro e w1 ⟨rfl, rfl⟩
      go_wp2_with fail
      go_ret
      exact ⟨rfl, HB.out⟩
set_option maxRecDepth 100000 in
set_option maxHeartbeats 8000000 in
theorem itemOk_any (w0 : World) (c : Nd) (ys : List Value) (W : World) (hys : OutK (rowTy .items) w0 ys [c]) (_hb0 : Below w0.heap.size w0 W) (m10 : msr (c 10) ≤ 1048576) (m11 : msr (c 11) ≤ 1048576) (hw : msr (c 10) + msr (c 11) ≤ 1999999) :
    Calls Try.prog 102 #[.agg ys.toArray] W (BoolE (itemB c) W) := by
  obtain ⟨x0, x1, x2, x3, x4, x5, x6, x7, x8, x9, ax10, nx10, px10, ax11, nx11, px11, x12, rfl, e0, ⟨e1, b1⟩, ⟨e2, b2⟩, ⟨e3, b3⟩, e4, ⟨e5, b5⟩, ⟨e6, b6⟩, ⟨e7, b7⟩, ⟨e8, b8⟩, ⟨e9, b9⟩, ⟨r10, q10⟩, ⟨r11, q11⟩, ⟨e12, b12⟩⟩ := hys.itemRow
  have hin : OutK exprTy w0 [.int .i64 x2, .int .i64 x3, .bool x4, .int .i64 x5, .int .i64 x6, .string x7, .string x8, .string x9, .slice ax10 nx10 px10, .slice ax11 nx11 px11] [cut 2 c] := OutK.one rfl (fun m hm => match m, hm with
    | 0, _ => ⟨_, rfl, (show Rd w0 0 _ (c 2) by rw [e2]; exact rfl), (show Fits (c 2) .int by rw [e2]; exact ⟨_, rfl, b2⟩)⟩
    | 1, _ => ⟨_, rfl, (show Rd w0 0 _ (c 3) by rw [e3]; exact rfl), (show Fits (c 3) .int by rw [e3]; exact ⟨_, rfl, b3⟩)⟩
    | 2, _ => ⟨_, rfl, (show Rd w0 0 _ (c 4) by rw [e4]; exact rfl), (show Fits (c 4) .bool by rw [e4]; exact ⟨_, rfl⟩)⟩
    | 3, _ => ⟨_, rfl, (show Rd w0 0 _ (c 5) by rw [e5]; exact rfl), (show Fits (c 5) .int by rw [e5]; exact ⟨_, rfl, b5⟩)⟩
    | 4, _ => ⟨_, rfl, (show Rd w0 0 _ (c 6) by rw [e6]; exact rfl), (show Fits (c 6) .int by rw [e6]; exact ⟨_, rfl, b6⟩)⟩
    | 5, _ => ⟨_, rfl, (show Rd w0 0 _ (c 7) by rw [e7]; exact rfl), (show Fits (c 7) .str by rw [e7]; exact ⟨_, rfl, b7⟩)⟩
    | 6, _ => ⟨_, rfl, (show Rd w0 0 _ (c 8) by rw [e8]; exact rfl), (show Fits (c 8) .str by rw [e8]; exact ⟨_, rfl, b8⟩)⟩
    | 7, _ => ⟨_, rfl, (show Rd w0 0 _ (c 9) by rw [e9]; exact rfl), (show Fits (c 9) .str by rw [e9]; exact ⟨_, rfl, b9⟩)⟩
    | 8, _ => ⟨_, rfl, r10, q10⟩
    | 9, _ => ⟨_, rfl, r11, q11⟩
    | m + 10, hm => absurd hm (by simp [exprTy]))
  have hbd : Bd (cut 2 c) := ⟨m10, m11, q10, q11⟩
  have hS := fun w h => SameExpr_any w0 (cut 2 c) zeroNd _ _ w hin (zero_out w0) h hbd zero_bd (show msr (c 10) + msr (c 11) + 1 ≤ _ by omega)
  have hv : itemB c = (if x0 then optB x1 && (emptyB x12 && sameC exprTy (cut 2 c) zeroNd) else emptyB x1 && optB x12) := by unfold itemB; rw [tru_v e0, txt_v e1, txt_v e12]
  rw [hv]
  have R := RowAt.new W 126 #[.bool x0, .string x1, .int .i64 x2, .int .i64 x3, .bool x4, .int .i64 x5, .int .i64 x6, .string x7, .string x8, .string x9, .slice ax10 nx10 px10, .slice ax11 nx11 px11, .string x12]
  have hB : Below W.heap.size W (W.alloc (.cells #[.bool x0, .string x1, .int .i64 x2, .int .i64 x3, .bool x4, .int .i64 x5, .int .i64 x6, .string x7, .string x8, .string x9, .slice ax10 nx10 px10, .slice ax11 nx11 px11, .string x12] 126)) := (Below.refl _ _).alloc (Nat.le_refl _) _
  have HB := Lib.hid hB
  have hz := _hb0.trans (hB.mono _hb0.size)
  have z0 := R.cell (i := 0) (v := .bool x0) rfl
  have z1 := R.cell (i := 1) (v := .string x1) rfl
  have z2 := R.cell (i := 2) (v := .int .i64 x2) rfl
  have z3 := R.cell (i := 3) (v := .int .i64 x3) rfl
  have z4 := R.cell (i := 4) (v := .bool x4) rfl
  have z5 := R.cell (i := 5) (v := .int .i64 x5) rfl
  have z6 := R.cell (i := 6) (v := .int .i64 x6) rfl
  have z7 := R.cell (i := 7) (v := .string x7) rfl
  have z8 := R.cell (i := 8) (v := .string x8) rfl
  have z9 := R.cell (i := 9) (v := .string x9) rfl
  have z10 := R.cell (i := 10) (v := .slice ax10 nx10 px10) rfl
  have z11 := R.cell (i := 11) (v := .slice ax11 nx11 px11) rfl
  have z12 := R.cell (i := 12) (v := .string x12) rfl
  have hO1 := fun w => opt_impl x1 w b1
  have hO12 := fun w => opt_impl x12 w b12
  have h1 := empty_eq x1
  have h12 := empty_eq x12
  generalize sameC exprTy (cut 2 c) zeroNd = us at hS ⊢
  clear hv hys hB hin hbd m10 m11 hw R e0 e1 e2 e3 e4 e5 e6 e7 e8 e9 e12 r10 q10 r11 q11
  cases x0
  case false =>
    show Calls _ _ _ _ (BoolE (emptyB x1 && optB x12) W)
    clear hO1 h12 hS
    generalize emptyB x1 = u1 at h1 ⊢
    generalize optB x12 = u2 at hO12 ⊢
    go_enter Try.func102, Try.ntmps102
    cases u1
    · go_wp2_with fail
      go_ret
      exact ⟨rfl, HB.out⟩
    · go_wp2_with fail
      refine (hO12 _).mono ?_
      rintro e w1 ⟨rfl, rfl⟩
      go_wp2_with fail
      go_ret
      exact ⟨rfl, HB.out⟩
  case true =>
    show Calls _ _ _ _ (BoolE (optB x1 && (emptyB x12 && us)) W)
    clear hO12 h1
    generalize optB x1 = u1 at hO1 ⊢
    generalize emptyB x12 = u2 at h12 ⊢
    go_enter Try.func102, Try.ntmps102
    cases u1
    · go_wp2_with fail
      refine (hO1 _).mono ?_
      rintro e w1 ⟨rfl, rfl⟩
      go_wp2_with fail
      go_ret
      exact ⟨rfl, HB.out⟩
    · cases u2
      · go_wp2_with fail
        refine (hO1 _).mono ?_
        rintro e w1 ⟨rfl, rfl⟩
        go_wp2_with fail
        go_ret
        exact ⟨rfl, HB.out⟩
      · go_wp2_with fail
        refine (hO1 _).mono ?_
        rintro e w1 ⟨rfl, rfl⟩
        go_wp2_with fail
        refine (hS _ hz).mono ?_
        rintro e w2 ⟨rfl, hb2⟩
        have hf := HB.out.trans (hb2.mono HB.out.size)
        go_wp2_with fail
        go_ret
        exact ⟨rfl, hf⟩
end Go.Proofs.Ytkacelpndeoogaa
