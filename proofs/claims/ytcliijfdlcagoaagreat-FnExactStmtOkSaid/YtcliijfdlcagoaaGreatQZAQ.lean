/- Joined texts: EveryQ NameOkI Toks TokSlDef ValSlDef. -/
import Derived.Test.YtcliijfdlcagoaaGreatQZAL
import Derived.Test.YtcliijfdlcagoaaGreatQZAP
import Derived.Test.YtcliijfdlcagoaaGreatQZAB
import Derived.Test.YtcliijfdlcagoaaGreatQZAC
import Derived.Test.YtcliijfdlcagoaaGreatQZAA
namespace Go.Proofs.YtcliijfdlcagoaaGreat
set_option linter.unusedVariables false
set_option linter.unusedSimpArgs false
open Go.RowKit
set_option maxRecDepth 100000 in
set_option maxHeartbeats 8000000 in
theorem every_queries (w0 W : World) (a1 : Option Addr) (p1 : Nat) (L1 : List Nd) (hb0 : Below w0.heap.size w0 W)
    (h1 : LK (rowTy .queries) w0 W (fun _ => True) (.slice a1 L1.length p1) L1) (hN : L1.length ≤ 1048576)
    (HF : ∀ c ∈ L1, ∀ (ys : List Value) (W' : World), OutK (rowTy .queries) w0 ys [c] → Below w0.heap.size w0 W' →
      Calls Tryz.prog 51 #[.agg ys.toArray] W' (BoolE (frameB c) W')) :
    Calls Tryz.prog 100 #[.slice a1 L1.length p1, .func (.func 51) #[] #[]] W (BoolE (L1.all frameB) W) := by
  have hB0 := Below.refl W.heap.size W
  go_enter Tryz.func100, Tryz.ntmps100
  go_wp2_with fail
  go_loopw [9] (fun i wr => ∃ j : Nat, j ≤ L1.length ∧ i = .int .i64 (j : Int) ∧ Below W.heap.size W wr ∧ Hid ((L1.take j).all frameB = true)) (fun i _ => L1.length - (intOf i).toNat)
  case atStart => exact ⟨0, by omega, rfl, hB0, rfl⟩
  case round =>
    obtain ⟨j, hj, rfl, hB, HA⟩ := hrel
    by_cases hlt : j < L1.length
    · have hlt2 : (j : Int) < (L1.length : Int) := by omega
      obtain ⟨g, o, cap', ys, hv, hys, -, hg, hcell⟩ := h1.at (List.getElem?_eq_getElem hlt)
      injection hv with e1 _ e3
      subst e1; subst e3
      have HC := fun w' h => HF L1[j] (List.getElem_mem hlt) ys w' hys h
      obtain ⟨x0, ax1, nx1, px1, ax2, nx2, px2, ax3, nx3, px3, ax4, nx4, px4, x5, rfl, -⟩ := hys.queryRow
      have z0 : wr.cell? ⟨g, o + j * 6, none⟩ = some (.bool x0) := (hB.cell (p := ⟨g, o + j * 6, none⟩) hg).trans (hcell 0 _ rfl)
      have z1 : wr.cell? ⟨g, o + j * 6 + 1, none⟩ = some (.slice ax1 nx1 px1) := (hB.cell (p := ⟨g, o + j * 6 + 1, none⟩) hg).trans (hcell 1 _ rfl)
      have z2 : wr.cell? ⟨g, o + j * 6 + 2, none⟩ = some (.slice ax2 nx2 px2) := (hB.cell (p := ⟨g, o + j * 6 + 2, none⟩) hg).trans (hcell 2 _ rfl)
      have z3 : wr.cell? ⟨g, o + j * 6 + 3, none⟩ = some (.slice ax3 nx3 px3) := (hB.cell (p := ⟨g, o + j * 6 + 3, none⟩) hg).trans (hcell 3 _ rfl)
      have z4 : wr.cell? ⟨g, o + j * 6 + 4, none⟩ = some (.slice ax4 nx4 px4) := (hB.cell (p := ⟨g, o + j * 6 + 4, none⟩) hg).trans (hcell 4 _ rfl)
      have z5 : wr.cell? ⟨g, o + j * 6 + 5, none⟩ = some (.int .i64 x5) := (hB.cell (p := ⟨g, o + j * 6 + 5, none⟩) hg).trans (hcell 5 _ rfl)
      have hgw : g < wr.heap.size := Nat.lt_of_lt_of_le hg hB.size
      clear hcell hys
      have hsnoc : (L1.take (j + 1)).all frameB = ((L1.take j).all frameB && frameB L1[j]) := by
        rw [take_next (List.getElem?_eq_getElem hlt), List.all_append, List.all_cons, List.all_nil, Bool.and_true]
      have HSN := Lib.hid hsnoc
      have hal2 : Below wr.heap.size wr (wr.alloc (.cells #[.bool x0, .slice ax1 nx1 px1, .slice ax2 nx2 px2, .slice ax3 nx3 px3, .slice ax4 nx4 px4, .int .i64 x5] 39)) := (Below.refl _ _).alloc (Nat.le_refl _) _
      have hb2 := (hb0.trans (hB.mono hb0.size)).trans (hal2.mono (Nat.le_trans hb0.size hB.size))
      have hB2 := hB.trans (hal2.mono hB.size)
      have HCC := HC _ hb2
      clear hsnoc HC hal2 hb2
      generalize hp : frameB L1[j] = pv at HCC HSN
      have HP := Lib.hid hp
      clear hp
      cases pv
      case true =>
        have HS2 : Hid ((L1.take (j + 1)).all frameB = true) := by show _ = true; rw [HSN.out, HA.out]; rfl
        go_wp2_with fail
        refine HCC.mono ?_
        clear HCC
        rintro e w2 ⟨rfl, hb2⟩
        have hB3 := hB2.trans (hb2.mono hB2.size)
        clear hb2 hB2 z0 z1 z2 z3 z4 z5
        go_wp2_with fail
        go_roundw
        case rel => exact ⟨j + 1, by omega, by go_num, hB3, HS2⟩
        case measure => simp [intOf]; omega
      case false =>
        have HS2 : Hid (L1.all frameB = false) := by
          show _ = false
          have e1 : L1 = L1.take (j + 1) ++ L1.drop (j + 1) := (List.take_append_drop _ _).symm
          rw [e1, List.all_append, HSN.out, HA.out]; rfl
        go_wp2_with fail
        refine HCC.mono ?_
        clear HCC
        rintro e w2 ⟨rfl, hb2⟩
        have hB3 := hB2.trans (hb2.mono hB2.size)
        clear hb2 hB2 z0 z1 z2 z3 z4 z5
        go_wp2_with fail
        go_ret
        exact ⟨by rw [HS2.out]; rfl, hB3⟩
    · obtain rfl : j = L1.length := by omega
      clear hlt hj
      go_wp2_with fail
      go_ret
      refine ⟨?_, hB⟩
      have h := HA.out
      rw [List.take_length] at h
      rw [h]; rfl
set_option maxHeartbeats 400000 in
theorem nameOk_impl (s : ByteArray) (w : World) (_hs : s.size ≤ 9223372036854775807) : Calls Tryz.prog 52 #[.string s] w (PureE (.bool (okLen s.size)) w) := by
  have hE : okLen s.size = (decide (1 ≤ (s.size : Int)) && decide ((s.size : Int) ≤ 20)) := rfl
  by_cases h0 : 1 ≤ (s.size : Int)
  · have d0 : decide (1 ≤ (s.size : Int)) = true := by simpa using h0
    by_cases h1 : (s.size : Int) ≤ 20
    · have d1 : decide ((s.size : Int) ≤ 20) = true := by simpa using h1
      rw [d0, d1] at hE
      have HE := Lib.hid hE; clear hE
      go_enter Tryz.func52, Tryz.ntmps52
      go_wp2
      go_ret
      exact pure_bool (by rw [HE.out]; rfl)
    · have d1 : decide ((s.size : Int) ≤ 20) = false := by simpa using h1
      rw [d0, d1] at hE
      have HE := Lib.hid hE; clear hE
      go_enter Tryz.func52, Tryz.ntmps52
      go_wp2
      go_ret
      exact pure_bool (by rw [HE.out]; rfl)
  · have d0 : decide (1 ≤ (s.size : Int)) = false := by simpa using h0
    rw [d0] at hE
    have HE := Lib.hid hE; clear hE
    go_enter Tryz.func52, Tryz.ntmps52
    go_wp2
    go_ret
    exact pure_bool (by rw [HE.out]; rfl)
def TokSl (w : World) (B : Nat) (a : Option Addr) (n : Nat) (f : Nat → Int × ByteArray × Int) : Prop :=
  ∀ j, j < n → ∃ g, a = some ⟨g, 0, none⟩ ∧ B ≤ g ∧ g < w.heap.size ∧
    w.cell? ⟨g, j * 3, none⟩ = some (.int .i64 (f j).1) ∧ w.cell? ⟨g, j * 3 + 1, none⟩ = some (.string (f j).2.1) ∧ w.cell? ⟨g, j * 3 + 2, none⟩ = some (.int .i64 (f j).2.2) ∧
    w.frozen? ⟨g, j * 3, none⟩ = false ∧ w.frozen? ⟨g, j * 3 + 1, none⟩ = false ∧ w.frozen? ⟨g, j * 3 + 2, none⟩ = false
theorem TokSl.congr {w : World} {B n : Nat} {a : Option Addr} {f f' : Nat → Int × ByteArray × Int} (H : TokSl w B a n f) (h : ∀ j, j < n → f j = f' j) : TokSl w B a n f' := fun j hj => by
  rw [← h j hj]; exact H j hj
theorem TokSl.keep {w w' : World} {B n : Nat} {a : Option Addr} {f : Nat → Int × ByteArray × Int} (H : TokSl w B a n f) (hs : w.heap.size ≤ w'.heap.size) (hb : ∀ g, a = some ⟨g, 0, none⟩ → B ≤ g → g < w.heap.size → w'.heap[g]? = w.heap[g]?) : TokSl w' B a n f := fun j hj => by
  obtain ⟨g, e, h1, h2, c0, c1, c2, z0, z1, z2⟩ := H j hj
  have hk := hb g e h1 h2
  have hc : ∀ o, w'.cell? ⟨g, o, none⟩ = w.cell? ⟨g, o, none⟩ := fun o => World.cell?_of_block (w := w) (w' := w') (a := ⟨g, o, none⟩) hk
  have hz : ∀ o, w'.frozen? ⟨g, o, none⟩ = w.frozen? ⟨g, o, none⟩ := fun o => World.frozen?_of_block (w := w) (w' := w') (a := ⟨g, o, none⟩) hk
  exact ⟨g, e, h1, by omega, by rw [hc]; exact c0, by rw [hc]; exact c1, by rw [hc]; exact c2, by rw [hz]; exact z0, by rw [hz]; exact z1, by rw [hz]; exact z2⟩
theorem TokSl.below {w w' : World} {B n : Nat} {a : Option Addr} {f : Nat → Int × ByteArray × Int} (H : TokSl w B a n f) (hb : Below w.heap.size w w') : TokSl w' B a n f :=
  H.keep hb.size fun g _ _ h => hb.block g h
def ValSl (w : World) (B : Nat) (a : Option Addr) (n : Nat) (f : Nat → Int × Int × ByteArray) : Prop :=
  ∀ j, j < n → ∃ g, a = some ⟨g, 0, none⟩ ∧ B ≤ g ∧ g < w.heap.size ∧
    w.cell? ⟨g, j * 3, none⟩ = some (.int .i64 (f j).1) ∧ w.cell? ⟨g, j * 3 + 1, none⟩ = some (.int .i64 (f j).2.1) ∧ w.cell? ⟨g, j * 3 + 2, none⟩ = some (.string (f j).2.2) ∧
    w.frozen? ⟨g, j * 3, none⟩ = false ∧ w.frozen? ⟨g, j * 3 + 1, none⟩ = false ∧ w.frozen? ⟨g, j * 3 + 2, none⟩ = false
theorem ValSl.congr {w : World} {B n : Nat} {a : Option Addr} {f f' : Nat → Int × Int × ByteArray} (H : ValSl w B a n f) (h : ∀ j, j < n → f j = f' j) : ValSl w B a n f' := fun j hj => by
  rw [← h j hj]; exact H j hj
theorem ValSl.keep {w w' : World} {B n : Nat} {a : Option Addr} {f : Nat → Int × Int × ByteArray} (H : ValSl w B a n f) (hs : w.heap.size ≤ w'.heap.size) (hb : ∀ g, a = some ⟨g, 0, none⟩ → B ≤ g → g < w.heap.size → w'.heap[g]? = w.heap[g]?) : ValSl w' B a n f := fun j hj => by
  obtain ⟨g, e, h1, h2, c0, c1, c2, z0, z1, z2⟩ := H j hj
  have hk := hb g e h1 h2
  have hc : ∀ o, w'.cell? ⟨g, o, none⟩ = w.cell? ⟨g, o, none⟩ := fun o => World.cell?_of_block (w := w) (w' := w') (a := ⟨g, o, none⟩) hk
  have hz : ∀ o, w'.frozen? ⟨g, o, none⟩ = w.frozen? ⟨g, o, none⟩ := fun o => World.frozen?_of_block (w := w) (w' := w') (a := ⟨g, o, none⟩) hk
  exact ⟨g, e, h1, by omega, by rw [hc]; exact c0, by rw [hc]; exact c1, by rw [hc]; exact c2, by rw [hz]; exact z0, by rw [hz]; exact z1, by rw [hz]; exact z2⟩
theorem ValSl.below {w w' : World} {B n : Nat} {a : Option Addr} {f : Nat → Int × Int × ByteArray} (H : ValSl w B a n f) (hb : Below w.heap.size w w') : ValSl w' B a n f :=
  H.keep hb.size fun g _ _ h => hb.block g h
end Go.Proofs.YtcliijfdlcagoaaGreat
