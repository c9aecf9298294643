/- Joined texts: DelG AppB Concat Below. -/
import Derived.Test.YtfmgkinindkedaaQSUB
import Derived.Test.YtfmgkinindkedaaQHSzTree
import Derived.Laws.CopyRow
import Derived.Lib.SliceRun
import Derived.Lib.AppendZeros
import Derived.Shelf.Abstract
/- slices.DeleteFunc and Clone at the items of a query, as this program calls them; the program's exprsIn. -/
namespace Go.Proofs.Ytfmgkinindkedaa
open Go.RowKit

theorem run_clear_items (w : World) (g o n c : Nat) (cur : Array Value) (ty : TypeId) (hg : RowAt w g 145 cur) (hn : 0 < n) (hfit : o + n * 13 ≤ cur.size) :
    ∃ cs', (Builtin.clear_ #[34] ty #[.slice (some ⟨g, o, none⟩) n c]).run Try.prog w = .ok (.tuple #[]) (w.setRow g cs') ∧ cs'.size = cur.size ∧ ∀ x, x < o → cs'[x]? = cur[x]? := by
  obtain ⟨m, rfl⟩ : ∃ m, n = m + 1 := ⟨n - 1, by omega⟩
  have hz : ∀ v ∈ (Builtin.zeroCells #[.bool false, .string ⟨#[]⟩, .int .i64 0, .int .i64 0, .bool false, .int .i64 0, .int .i64 0, .string ⟨#[]⟩, .string ⟨#[]⟩, .string ⟨#[]⟩, .slice none 0 0, .slice none 0 0, .string ⟨#[]⟩] (m + 1)).toList, v.oneCell' = true := by
    intro v hv
    simp only [Builtin.zeroCells, Array.toList_map, List.mem_map] at hv
    obtain ⟨i, _, rfl⟩ := hv
    have hi : i % 13 < 13 := Nat.mod_lt _ (by decide)
    show (#[Value.bool false, .string ⟨#[]⟩, .int .i64 0, .int .i64 0, .bool false, .int .i64 0, .int .i64 0, .string ⟨#[]⟩, .string ⟨#[]⟩, .string ⟨#[]⟩, .slice none 0 0, .slice none 0 0, .string ⟨#[]⟩])[i % 13]!.oneCell' = true
    generalize i % 13 = k at hi
    match k, hi with
    | 0, _ | 1, _ | 2, _ | 3, _ | 4, _ | 5, _ | 6, _ | 7, _ | 8, _ | 9, _ | 10, _ | 11, _ | 12, _ => rfl
    | k + 13, h => exact absurd h (by omega)
  have hlen : (Builtin.zeroCells #[.bool false, .string ⟨#[]⟩, .int .i64 0, .int .i64 0, .bool false, .int .i64 0, .int .i64 0, .string ⟨#[]⟩, .string ⟨#[]⟩, .string ⟨#[]⟩, .slice none 0 0, .slice none 0 0, .string ⟨#[]⟩] (m + 1)).toList.length = (m + 1) * 13 := by
    rw [Array.length_toList, size_zeroCells]; rfl
  have hv : ∀ w, (zeroValue 145).run Try.prog w = .ok (.agg #[.bool false, .string ⟨#[]⟩, .int .i64 0, .int .i64 0, .bool false, .int .i64 0, .int .i64 0, .string ⟨#[]⟩, .string ⟨#[]⟩, .string ⟨#[]⟩, .slice none 0 0, .slice none 0 0, .string ⟨#[]⟩]) w := fun w => Try.zeroValue145 w
  generalize hZ : (Builtin.zeroCells #[.bool false, .string ⟨#[]⟩, .int .i64 0, .int .i64 0, .bool false, .int .i64 0, .int .i64 0, .string ⟨#[]⟩, .string ⟨#[]⟩, .string ⟨#[]⟩, .slice none 0 0, .slice none 0 0, .string ⟨#[]⟩] (m + 1)).toList = Z at hz hlen
  have hst := run_storeCells_at (P := Try.prog) g o 145 Z 0 cur w hg (by rw [hlen]; omega) hz
  refine ⟨(cur.toList.take o ++ Z ++ cur.toList.drop (o + Z.length)).toArray, ?_, ?_, ?_⟩
  · have hv2 := hv w
    simp only [Nat.add_zero] at hst
    simp [Builtin.clear_, run_underlying Try.underlying34, hv2, Value.cells, hZ, hst]
  · simp only [List.size_toArray, List.length_append, List.length_take, List.length_drop, hlen]
    have : cur.toList.length = cur.size := Array.length_toList
    omega
  · intro x hx
    have : cur.toList.length = cur.size := Array.length_toList
    rw [List.getElem?_toArray, List.append_assoc, List.getElem?_append_left (by rw [List.length_take]; omega), List.getElem?_take_of_lt hx]
    simp
theorem filter_snoc {L : List Nd} {j : Nat} {c : Nd} (h : L[j]? = some c) (p : Nd → Bool) : (L.take (j + 1)).filter p = (L.take j).filter p ++ (if p c then [c] else []) := by
  rw [take_next h, List.filter_append]
  congr 1
  simp only [List.filter_cons, List.filter_nil]
set_option maxRecDepth 100000 in
set_option maxHeartbeats 8000000 in
theorem deleteFunc_any (w0 W : World) (g cap B : Nat) (L : List Nd) (h : RowK (rowTy .items) 145 w0 W g cap L) (hB : B ≤ g) (hN : L.length ≤ 1048576) :
    Calls Try.prog 119 #[.slice (some ⟨g, 0, none⟩) L.length cap, .func (.func 121) #[] #[]] W fun e w' => ∃ v, e = .returned v ∧ LK (rowTy .items) w0 w' (fun q => q = g) v (L.filter fun c => !star c) ∧ Below B W w' := by
  have hcap : L.length ≤ cap := by obtain ⟨cs, _, _, h3, _⟩ := h; exact h3
  have hBW : B ≤ W.heap.size := Nat.le_of_lt (Nat.lt_of_le_of_lt hB h.lt)
  have hlk := h.lk (Nat.le_refl _) hcap
  rw [List.take_length] at hlk
  have hIF := indexFunc_any w0 W _ cap L (hlk.keep (Nat.le_refl _) (fun _ _ _ => rfl) fun _ _ _ => trivial) hN
  go_enter Try.func119, Try.ntmps119
  go_wp2_with fail
  refine hIF.mono ?_
  clear hIF
  rintro e w1 ⟨hb1, ⟨i0, hi0, rfl, hbef, c0, hc0, hs0⟩ | ⟨rfl, hall⟩⟩
  · have hR := h.later hb1
    have hb := hb1.mono hBW
    clear h hlk hb1
    have hne : ((i0 : Int) == -1) = false := by simp
    have h0 : (L.take (i0 + 1)).filter (fun c => !star c) = L.take i0 := by
      rw [filter_snoc hc0, hs0]
      have : (L.take i0).filter (fun c => !star c) = L.take i0 := List.filter_eq_self.2 fun c hc => by
        obtain ⟨k, hk⟩ := List.getElem?_of_mem hc
        have hki : k < i0 := by have := (List.getElem?_eq_some_iff.1 hk).1; rw [List.length_take] at this; omega
        rw [List.getElem?_take_of_lt hki] at hk
        rw [hbef k c hki hk]; rfl
      rw [this]; simp
    have H0 := Lib.hid h0
    clear h0 hbef hc0 hs0
    go_wp2_with fail
    go_loopw [5, 6] (fun a b wr => ∃ (i j : Nat) (R : List Nd), a = .int .i64 (i : Int) ∧ b = .int .i64 (j : Int) ∧ i < j ∧ j ≤ L.length ∧ R.length = L.length ∧ Hid (R.take i = (L.take j).filter fun c => !star c) ∧ Hid (R.drop j = L.drop j) ∧ RowK (rowTy .items) 145 w0 wr g cap R ∧ Below B W wr) (fun _ b _ => L.length - (intOf b).toNat)
    case atStart => exact ⟨i0, i0 + 1, L, rfl, by go_num, by omega, by omega, rfl, H0.out.symm, rfl, hR, hb⟩
    case round =>
      obtain ⟨i, j, R, rfl, rfl, hij, hj, hRl, hT, hD, hR, hb⟩ := hrel
      by_cases hlt : j < L.length
      · have hlt2 : (j : Int) < (L.length : Int) := by omega
        have hLj := List.getElem?_eq_getElem hlt
        have hRj : R[j]? = some L[j] := by
          have h1 : (R.drop j)[0]? = (L.drop j)[0]? := by rw [hD.out]
          rw [List.getElem?_drop, List.getElem?_drop, Nat.add_zero, hLj] at h1
          exact h1
        obtain ⟨ys, hys, hcell⟩ := hR.at hRj
        have hys2 := hys
        obtain ⟨x0, x1, x2, x3, x4, x5, x6, x7, x8, x9, ax10, nx10, px10, ax11, nx11, px11, x12, rfl, e0, -⟩ := hys.itemRow
        have z0 : wr.cell? ⟨g, j * 13, none⟩ = some (.bool x0) := hcell 0 _ rfl
        have z1 : wr.cell? ⟨g, j * 13 + 1, none⟩ = some (.string x1) := hcell 1 _ rfl
        have z2 : wr.cell? ⟨g, j * 13 + 2, none⟩ = some (.int .i64 x2) := hcell 2 _ rfl
        have z3 : wr.cell? ⟨g, j * 13 + 3, none⟩ = some (.int .i64 x3) := hcell 3 _ rfl
        have z4 : wr.cell? ⟨g, j * 13 + 4, none⟩ = some (.bool x4) := hcell 4 _ rfl
        have z5 : wr.cell? ⟨g, j * 13 + 5, none⟩ = some (.int .i64 x5) := hcell 5 _ rfl
        have z6 : wr.cell? ⟨g, j * 13 + 6, none⟩ = some (.int .i64 x6) := hcell 6 _ rfl
        have z7 : wr.cell? ⟨g, j * 13 + 7, none⟩ = some (.string x7) := hcell 7 _ rfl
        have z8 : wr.cell? ⟨g, j * 13 + 8, none⟩ = some (.string x8) := hcell 8 _ rfl
        have z9 : wr.cell? ⟨g, j * 13 + 9, none⟩ = some (.string x9) := hcell 9 _ rfl
        have z10 : wr.cell? ⟨g, j * 13 + 10, none⟩ = some (.slice ax10 nx10 px10) := hcell 10 _ rfl
        have z11 : wr.cell? ⟨g, j * 13 + 11, none⟩ = some (.slice ax11 nx11 px11) := hcell 11 _ rfl
        have z12 : wr.cell? ⟨g, j * 13 + 12, none⟩ = some (.string x12) := hcell 12 _ rfl
        clear hcell
        have hst : star L[j] = x0 := by unfold star; rw [e0]; rfl
        have hdn : Hid (∀ R' : List Nd, R'.drop (j + 1) = R.drop (j + 1) → R'.drop (j + 1) = L.drop (j + 1)) := fun R' h1 => by
          rw [h1, ← List.drop_drop, ← List.drop_drop, hD.out]
        have HS := Lib.hid hst
        have HLj := Lib.hid hLj
        clear e0 hst hRj hLj hys
        have bx0 := RowAt.new wr 145 #[.bool x0, .string x1, .int .i64 x2, .int .i64 x3, .bool x4, .int .i64 x5, .int .i64 x6, .string x7, .string x8, .string x9, .slice ax10 nx10 px10, .slice ax11 nx11 px11, .string x12]
        have hal : Below wr.heap.size wr (wr.alloc (.cells #[.bool x0, .string x1, .int .i64 x2, .int .i64 x3, .bool x4, .int .i64 x5, .int .i64 x6, .string x7, .string x8, .string x9, .slice ax10 nx10 px10, .slice ax11 nx11 px11, .string x12] 145)) := (Below.refl _ _).alloc (Nat.le_refl _) _
        cases x0
        case true =>
          go_wp2_with fail
          refine (isStar_any true x1 x2 x3 x4 x5 x6 x7 x8 x9 ax10 nx10 px10 ax11 nx11 px11 x12 (wr.alloc (.cells #[.bool true, .string x1, .int .i64 x2, .int .i64 x3, .bool x4, .int .i64 x5, .int .i64 x6, .string x7, .string x8, .string x9, .slice ax10 nx10 px10, .slice ax11 nx11 px11, .string x12] 145))).mono ?_
          rintro e w2 ⟨rfl, hb2⟩
          have hR1 := (hR.later hal).later hb2
          have hB1 : Below B W w2 := (hb.trans (hal.mono (by have := hR.lt; omega))).trans (hb2.mono (by have := hR.lt; simp; omega))
          clear hal hb2 bx0 hR hb z0 z1 z2 z3 z4 z5 z6 z7 z8 z9 z10 z11 z12
          go_wp2_with fail
          go_roundw
          case rel =>
            refine ⟨i, j + 1, R, rfl, by go_num, by omega, by omega, hRl, ?_, hdn R rfl, hR1, hB1⟩
            show R.take i = _
            rw [filter_snoc HLj.out, HS.out, hT.out]; simp
          case measure => simp [intOf]; omega
        case false =>
          go_wp2_with fail
          refine (isStar_any false x1 x2 x3 x4 x5 x6 x7 x8 x9 ax10 nx10 px10 ax11 nx11 px11 x12 (wr.alloc (.cells #[.bool false, .string x1, .int .i64 x2, .int .i64 x3, .bool x4, .int .i64 x5, .int .i64 x6, .string x7, .string x8, .string x9, .slice ax10 nx10 px10, .slice ax11 nx11 px11, .string x12] 145))).mono ?_
          rintro e w1 ⟨rfl, hb2⟩
          have hR1 := (hR.later hal).later hb2
          have hg := hR.lt
          have hB1 : Below B W w1 := (hb.trans (hal.mono (by omega))).trans (hb2.mono (by simp; omega))
          have box := bx0.later hb2
          have hi : i < R.length := by omega
          have y0 := box.cell (i := 0) (v := .bool false) rfl
          have y1 := box.cell (i := 1) (v := .string x1) rfl
          have y2 := box.cell (i := 2) (v := .int .i64 x2) rfl
          have y3 := box.cell (i := 3) (v := .int .i64 x3) rfl
          have y4 := box.cell (i := 4) (v := .bool x4) rfl
          have y5 := box.cell (i := 5) (v := .int .i64 x5) rfl
          have y6 := box.cell (i := 6) (v := .int .i64 x6) rfl
          have y7 := box.cell (i := 7) (v := .string x7) rfl
          have y8 := box.cell (i := 8) (v := .string x8) rfl
          have y9 := box.cell (i := 9) (v := .string x9) rfl
          have y10 := box.cell (i := 10) (v := .slice ax10 nx10 px10) rfl
          have y11 := box.cell (i := 11) (v := .slice ax11 nx11 px11) rfl
          have y12 := box.cell (i := 12) (v := .string x12) rfl
          obtain ⟨u0, p0, v0⟩ : ∃ u, w1.cell? ⟨g, i * 13, none⟩ = some u ∧ w1.frozen? ⟨g, i * 13, none⟩ = false := hR1.spot hi (m := 0) (by decide)
          obtain ⟨u1, p1, v1⟩ : ∃ u, w1.cell? ⟨g, i * 13 + 1, none⟩ = some u ∧ w1.frozen? ⟨g, i * 13 + 1, none⟩ = false := hR1.spot hi (m := 1) (by decide)
          obtain ⟨u2, p2, v2⟩ : ∃ u, w1.cell? ⟨g, i * 13 + 2, none⟩ = some u ∧ w1.frozen? ⟨g, i * 13 + 2, none⟩ = false := hR1.spot hi (m := 2) (by decide)
          obtain ⟨u3, p3, v3⟩ : ∃ u, w1.cell? ⟨g, i * 13 + 3, none⟩ = some u ∧ w1.frozen? ⟨g, i * 13 + 3, none⟩ = false := hR1.spot hi (m := 3) (by decide)
          obtain ⟨u4, p4, v4⟩ : ∃ u, w1.cell? ⟨g, i * 13 + 4, none⟩ = some u ∧ w1.frozen? ⟨g, i * 13 + 4, none⟩ = false := hR1.spot hi (m := 4) (by decide)
          obtain ⟨u5, p5, v5⟩ : ∃ u, w1.cell? ⟨g, i * 13 + 5, none⟩ = some u ∧ w1.frozen? ⟨g, i * 13 + 5, none⟩ = false := hR1.spot hi (m := 5) (by decide)
          obtain ⟨u6, p6, v6⟩ : ∃ u, w1.cell? ⟨g, i * 13 + 6, none⟩ = some u ∧ w1.frozen? ⟨g, i * 13 + 6, none⟩ = false := hR1.spot hi (m := 6) (by decide)
          obtain ⟨u7, p7, v7⟩ : ∃ u, w1.cell? ⟨g, i * 13 + 7, none⟩ = some u ∧ w1.frozen? ⟨g, i * 13 + 7, none⟩ = false := hR1.spot hi (m := 7) (by decide)
          obtain ⟨u8, p8, v8⟩ : ∃ u, w1.cell? ⟨g, i * 13 + 8, none⟩ = some u ∧ w1.frozen? ⟨g, i * 13 + 8, none⟩ = false := hR1.spot hi (m := 8) (by decide)
          obtain ⟨u9, p9, v9⟩ : ∃ u, w1.cell? ⟨g, i * 13 + 9, none⟩ = some u ∧ w1.frozen? ⟨g, i * 13 + 9, none⟩ = false := hR1.spot hi (m := 9) (by decide)
          obtain ⟨u10, p10, v10⟩ : ∃ u, w1.cell? ⟨g, i * 13 + 10, none⟩ = some u ∧ w1.frozen? ⟨g, i * 13 + 10, none⟩ = false := hR1.spot hi (m := 10) (by decide)
          obtain ⟨u11, p11, v11⟩ : ∃ u, w1.cell? ⟨g, i * 13 + 11, none⟩ = some u ∧ w1.frozen? ⟨g, i * 13 + 11, none⟩ = false := hR1.spot hi (m := 11) (by decide)
          obtain ⟨u12, p12, v12⟩ : ∃ u, w1.cell? ⟨g, i * 13 + 12, none⟩ = some u ∧ w1.frozen? ⟨g, i * 13 + 12, none⟩ = false := hR1.spot hi (m := 12) (by decide)
          have hR2 := hR1.put hi hys2
          have hB2 := puts_below (B := g) hB [.bool false, .string x1, .int .i64 x2, .int .i64 x3, .bool x4, .int .i64 x5, .int .i64 x6, .string x7, .string x8, .string x9, .slice ax10 nx10 px10, .slice ax11 nx11 px11, .string x12] (i * 13) hB1
          clear hal hb2 bx0 box hR hb hR1 hB1 z0 z1 z2 z3 z4 z5 z6 z7 z8 z9 z10 z11 z12
          go_wp2_with fail
          rw [show (((((((((((((w1.setCell ⟨g, i * 13, none⟩ (.bool false)).setCell ⟨g, i * 13 + 1, none⟩ (.string x1)).setCell ⟨g, i * 13 + 2, none⟩ (.int .i64 x2)).setCell ⟨g, i * 13 + 3, none⟩ (.int .i64 x3)).setCell ⟨g, i * 13 + 4, none⟩ (.bool x4)).setCell ⟨g, i * 13 + 5, none⟩ (.int .i64 x5)).setCell ⟨g, i * 13 + 6, none⟩ (.int .i64 x6)).setCell ⟨g, i * 13 + 7, none⟩ (.string x7)).setCell ⟨g, i * 13 + 8, none⟩ (.string x8)).setCell ⟨g, i * 13 + 9, none⟩ (.string x9)).setCell ⟨g, i * 13 + 10, none⟩ (.slice ax10 nx10 px10)).setCell ⟨g, i * 13 + 11, none⟩ (.slice ax11 nx11 px11)).setCell ⟨g, i * 13 + 12, none⟩ (.string x12)) = puts g (i * 13) [.bool false, .string x1, .int .i64 x2, .int .i64 x3, .bool x4, .int .i64 x5, .int .i64 x6, .string x7, .string x8, .string x9, .slice ax10 nx10 px10, .slice ax11 nx11 px11, .string x12] w1 from rfl]
          replace hR2 : RowK (rowTy .items) 145 w0 (puts g (i * 13) [.bool false, .string x1, .int .i64 x2, .int .i64 x3, .bool x4, .int .i64 x5, .int .i64 x6, .string x7, .string x8, .string x9, .slice ax10 nx10 px10, .slice ax11 nx11 px11, .string x12] w1) g cap (R.set i L[j]) := hR2
          generalize puts g (i * 13) [.bool false, .string x1, .int .i64 x2, .int .i64 x3, .bool x4, .int .i64 x5, .int .i64 x6, .string x7, .string x8, .string x9, .slice ax10 nx10 px10, .slice ax11 nx11 px11, .string x12] w1 = w3 at hR2 hB2 ⊢
          go_roundw
          case rel =>
            refine ⟨i + 1, j + 1, R.set i L[j], by go_num, by go_num, by omega, by omega, by rw [List.length_set]; exact hRl, ?_, hdn _ (by rw [List.drop_set_of_lt (by omega)]), hR2, hB2⟩
            show (R.set i L[j]).take (i + 1) = _
            rw [filter_snoc HLj.out, HS.out, take_next (List.getElem?_set_self hi), List.take_set_of_le (Nat.le_refl _), hT.out]; simp
          case measure => simp [intOf]; omega
      · obtain rfl : j = L.length := by omega
        clear hlt hj
        have hni : 0 < L.length - i := by omega
        obtain ⟨cs, c1, c2, c3, c4⟩ := hR
        have hRc : RowK (rowTy .items) 145 w0 wr g cap R := ⟨cs, c1, c2, c3, c4⟩
        have hfit : i * 13 + (L.length - i) * 13 ≤ cs.size := by
          rw [c2]; show _ ≤ cap * 13
          omega
        have hcl := fun ty => run_clear_items wr g (i * 13) (L.length - i) (cap - i) cs ty c1 hni hfit
        obtain ⟨cs', k1, k2, k3⟩ := hcl 0
        have hrow : RowAt (wr.setRow g cs') g 145 cs' := setRow_heap wr g cs cs' _ _ c1
        have hB3 : Below B W (wr.setRow g cs') := hb.trans ⟨rfl, rfl, rfl, by simp, fun k hk => setRow_other wr g k _ (by omega)⟩
        have hcut := hRc.cut (i := i) (by omega) _ hrow (k2.trans c2) (fun cs2 h2 x hx => by
          have e : cs2 = cs := by have h3 := h2.symm.trans c1; injection h3 with h3; injection h3
          rw [e]; exact k3 x hx)
        rw [hT.out, List.take_length] at hcut
        have hfl : (L.filter fun c => !star c).length = i := by
          have := congrArg List.length hT.out
          rw [List.length_take, List.take_length] at this
          omega
        have hlk2 := hcut.lk (Nat.le_refl _) (show _ ≤ cap by omega)
        rw [List.take_length, hfl] at hlk2
        clear hcl c4 hRc hcut hT hD
        go_wp2_with fail
        go_ret
        exact ⟨_, rfl, hlk2, hB3⟩
  · have he : (L.filter fun c => !star c) = L := List.filter_eq_self.2 fun c hc => by rw [hall c hc]; rfl
    have HL := Lib.hid he
    clear he hall
    go_wp2_with fail
    go_ret
    refine ⟨_, rfl, ?_, hb1.mono hBW⟩
    rw [HL.out]
    exact hlk.later hb1
theorem RowK.of_owns {tys : List Ty} {T : TypeId} {w0 w : World} {B n : Nat} {v : Value} {C : List Value} {L : List Nd} (h : w.ownsRow B T tys.length v n C) (hC : OutK tys w0 C L) (hn : L.length = n) :
    (v = .slice none 0 0 ∧ L = []) ∨ ∃ g cap, v = .slice (some ⟨g, 0, none⟩) n cap ∧ B ≤ g ∧ RowK tys T w0 w g cap L := by
  rcases h.2 with ⟨e, h0⟩ | ⟨g, cap, cur, e, hg, hrow, hnc, hcm, hsz, hcur⟩
  · exact .inl ⟨e, List.eq_nil_of_length_eq_zero (by omega)⟩
  · refine .inr ⟨g, cap, e, hg, cur, hrow, hsz, by omega, fun k c hk => ?_⟩
    have hkl : k < L.length := (List.getElem?_eq_some_iff.1 hk).1
    have hlen : k * tys.length + tys.length ≤ C.length := by
      rw [hC.1]
      have := Nat.mul_le_mul_right tys.length (show k + 1 ≤ L.length by omega)
      rw [Nat.add_mul, Nat.one_mul] at this
      exact this
    refine ⟨(C.drop (k * tys.length)).take tys.length, OutK.one (by rw [List.length_take, List.length_drop]; omega) fun m hm => ?_, fun m u hm => ?_⟩
    · obtain ⟨y, hy, hr⟩ := hC.2 k c hk m hm
      exact ⟨y, by rw [List.getElem?_take_of_lt hm, List.getElem?_drop]; exact hy, hr⟩
    · have hml : m < tys.length := by have := (List.getElem?_eq_some_iff.1 hm).1; rw [List.length_take] at this; omega
      rw [List.getElem?_take_of_lt hml, List.getElem?_drop, ← hcur, List.getElem?_take_of_lt (by rw [← hn]; exact mul_lt_of hkl hml)] at hm
      simpa using hm
theorem Try.infoItm : (Try.prog.info? 145).map (fun i => (i.zero, i.size, i.bytes)) = some (some (.agg #[.bool false, .string ByteArray.empty, .int .i64 0, .int .i64 0, .bool false, .int .i64 0, .int .i64 0, .string ByteArray.empty, .string ByteArray.empty, .string ByteArray.empty, .slice none 0 0, .slice none 0 0, .string ByteArray.empty]), 13, 176) := by kernel_rfl
set_option maxRecDepth 100000 in
set_option maxHeartbeats 4000000 in
theorem clone_any (w0 W : World) (a : Option Addr) (cap : Nat) (L : List Nd) (G : Nat → Prop) (h : LK (rowTy .items) w0 W G (.slice a L.length cap) L) (hN : L.length ≤ 1048576) :
    Calls Try.prog 120 #[.slice a L.length cap] W fun e w' => ∃ v, e = .returned v ∧ Below W.heap.size W w' ∧ ((v = .slice none 0 0 ∧ L = []) ∨ ∃ g cap', v = .slice (some ⟨g, 0, none⟩) L.length cap' ∧ W.heap.size ≤ g ∧ RowK (rowTy .items) 145 w0 w' g cap' L) := by
  obtain ⟨a', cap', C, e, hC, h⟩ := h
  injection e with e1 _ e3
  subst e1; subst e3
  cases a with
  | none =>
    have hL : L = [] := by
      rcases h with h | ⟨_, _, h, _⟩
      · exact h
      · cases h
    subst hL
    have hnil := Lib.run_eql_slice_nil (P := Try.prog) W 34 145 none 0 cap 0 0 Try.underlying34
    simp only [List.length_nil]
    go_enter Try.func120, Try.ntmps120
    go_wp2_with fail
    go_ret
    exact ⟨_, rfl, Below.refl _ _, .inl (by simp)⟩
  | some ad =>
    obtain ⟨i, hi, hz, hsize, hby⟩ := info_parts Try.infoItm
    have hcl : C.length = L.length * 13 := hC.1
    have hcell : ∀ j u, C[j]? = some u → (W.alloc (.cells #[] 145)).cell? (ad.add j) = some u := by
      intro j u hj
      rcases h with rfl | ⟨g, o, e, _, _, hlt, hc⟩
      · rw [List.length_nil, Nat.zero_mul] at hcl
        have := (List.getElem?_eq_some_iff.1 hj).1
        omega
      · injection e with e
        subst e
        have hadd : (⟨g, o, none⟩ : Addr).add j = ⟨g, o + j, none⟩ := by unfold Addr.add; split <;> simp_all
        rw [hadd]
        have h1 := hc j u hj
        exact (((Below.refl _ W).alloc (Nat.le_refl _) _).cell (p := ⟨g, o + j, none⟩) hlt).trans h1
    have hown := World.ownsRow_lit W (e := 145) (size := 13) #[] 0 (Nat.le_refl _) (by decide) (by rfl)
    have hones := hC.ones
    have hout := Lib.hid hC
    have HH := Lib.hid hcell
    have HO := Lib.hid hones
    have hcl2 := Lib.hid hcl
    have hnil := Lib.run_eql_slice_nil (P := Try.prog) W 34 145 (some ad) L.length cap 0 0 Try.underlying34
    clear hC h hcell hones hcl
    go_enter Try.func120, Try.ntmps120
    go_wp2_with (at_builtin; refine wpList_append_own _ rfl (.tmp 5) (.tmp 6) 34 rfl W.heap.size 145 i _ 13 176 Try.underlying34 hi hz hsize hby rfl (by decide) (.slice (some ⟨W.heap.size, 0, none⟩) 0 0) 0 [] rfl hown ad L.length cap C rfl hcl2.out HH.out HO.out (by unfold maxLen; omega) (by omega) (by simp) ?_; intro v' w' hown' hgrow _)
    go_ret
    refine ⟨_, rfl, ((Below.refl _ W).alloc (Nat.le_refl _) _).grown hgrow (by simp) (fun q hq => by cases hq; exact Nat.le_refl _), ?_⟩
    rw [Nat.zero_add, List.nil_append] at hown'
    exact RowK.of_owns (tys := rowTy .items) hown' hout.out rfl
theorem exprsIn_len (n : Nat) (k : Nat) (f : Nat → Nat → Dat) : ((Dat.sl n k f).els.filter fun c => !star c).map (cut 2) = exItems (.sl n k f) := rfl
theorem Rd.lkK {w : World} {n : Nat} {f : Nat → Nat → Dat} {a : Option Addr} {m cap : Nat} {ty : Ty} {G : Nat → Prop} (h : Rd w 0 (.slice a m cap) (.sl n (rowTy ty).length f)) (hf : Fits (.sl n (rowTy ty).length f) ty) (hG : ∀ g, g < w.heap.size → G g) :
    m = n ∧ LK (rowTy ty) w w G (.slice a n cap) (Dat.sl n (rowTy ty).length f).els := by
  obtain ⟨_, _, _, hfit⟩ := hf
  obtain ⟨a', cap', e, hc, hz, h⟩ := h
  injection e with e1 e2 e3
  subst e1; subst e2; subst e3
  refine ⟨rfl, ?_⟩
  have hlen : (Dat.sl m (rowTy ty).length f).els.length = m := els_len _ _ _
  rcases h with rfl | ⟨g, o, rfl, _, hg, hcell⟩
  · refine ⟨a, cap, [], by rw [hlen], ?_, .inl rfl⟩
    exact OutK.nil _ _
  · refine ⟨_, cap, (List.range (m * (rowTy ty).length)).map fun x => (w.cell? ⟨g, o + x, none⟩).getD undef, by rw [hlen], ⟨by rw [hlen]; simp, fun i c hi j hj => ?_⟩, .inr ⟨g, o, rfl, by rw [hlen]; exact hc, hG g hg, hg, fun j u hj => ?_⟩⟩
    · have him : i < m := by have := (List.getElem?_eq_some_iff.1 hi).1; omega
      obtain ⟨y, hy, hr⟩ := hcell i him j hj
      have hcf : c = f i := by simpa [Dat.els, Dat.len, Dat.el, him] using hi.symm
      subst hcf
      refine ⟨y, ?_, hr, hfit i him j hj⟩
      rw [List.getElem?_map, List.getElem?_range (mul_lt_of him hj)]
      rw [Nat.add_assoc] at hy
      simp [hy]
    · have hj2 : j < m * (rowTy ty).length := by have := (List.getElem?_eq_some_iff.1 hj).1; simpa using this
      rw [List.getElem?_map, List.getElem?_range hj2] at hj
      have hk0 : 0 < (rowTy ty).length := by
        rcases Nat.eq_zero_or_pos (rowTy ty).length with h | h
        · rw [h, Nat.mul_zero] at hj2; omega
        · exact h
      obtain ⟨y, hy, _⟩ := hcell (j / (rowTy ty).length) (by rw [Nat.div_lt_iff_lt_mul hk0]; exact hj2) (j % (rowTy ty).length) (Nat.mod_lt _ hk0)
      rw [Nat.add_assoc, show j / (rowTy ty).length * (rowTy ty).length + j % (rowTy ty).length = j by rw [Nat.mul_comm]; exact Nat.div_add_mod _ _] at hy
      rw [hy]
      simpa [hy] using hj
theorem deleteNil_any (W : World) :
    Calls Try.prog 119 #[.slice none 0 0, .func (.func 121) #[] #[]] W fun e w' => e = .returned (.slice none 0 0) ∧ Below W.heap.size W w' := by
  have h : LK (rowTy .items) W W (fun _ => True) (.slice none ([] : List Nd).length 0) [] := ⟨none, 0, [], rfl, OutK.nil _ _, .inl rfl⟩
  have hIF := indexFunc_any W W none 0 [] h (by decide)
  rw [List.length_nil] at hIF
  go_enter Try.func119, Try.ntmps119
  go_wp2_with fail
  refine hIF.mono ?_
  clear hIF
  rintro e w1 ⟨hb1, ⟨i0, hi0, _⟩ | ⟨rfl, hall⟩⟩
  · exact absurd hi0 (by omega)
  · clear hall h
    go_wp2_with fail
    go_ret
    exact ⟨rfl, hb1⟩
theorem OutE.low {w0 wr : World} {B B' : Nat} {v : Value} {L : List Nd} (h : OutE w0 wr B v L) (hB : B' ≤ B) : OutE w0 wr B' v L := by
  obtain ⟨C, hC, hP⟩ := h
  refine ⟨C, ⟨hC.1, hC.2.imp id ?_⟩, hP⟩
  rintro ⟨g, cap, cur, e, hg, hr⟩
  exact ⟨g, cap, cur, e, Nat.le_trans hB hg, hr⟩
set_option maxRecDepth 100000 in
set_option maxHeartbeats 8000000 in
theorem exprsIn_any (w0 W : World) (c0 : Bool) (a1 : Option Addr) (n1 p1 : Nat) (a2 : Option Addr) (n2 p2 : Nat) (a3 : Option Addr) (n3 p3 : Nat) (a4 : Option Addr) (n4 p4 : Nat) (c5 : Int) (f1 f2 f3 f4 : Nat → Nat → Dat)
    (hb0 : Below w0.heap.size w0 W) (r1 : Rd w0 0 (.slice a1 n1 p1) (.sl n1 13 f1)) (q1 : Fits (.sl n1 13 f1) .items) (r2 : Rd w0 0 (.slice a2 n2 p2) (.sl n2 3 f2)) (q2 : Fits (.sl n2 3 f2) .sources)
    (r3 : Rd w0 0 (.slice a3 n3 p3) (.sl n3 10 f3)) (q3 : Fits (.sl n3 10 f3) .exprs) (r4 : Rd w0 0 (.slice a4 n4 p4) (.sl n4 11 f4)) (q4 : Fits (.sl n4 11 f4) .keys)
    (hN : n1 + (exFrom (.sl n2 3 f2)).length + n3 + n4 ≤ 1048576) :
    Calls Try.prog 79 #[.agg #[.bool c0, .slice a1 n1 p1, .slice a2 n2 p2, .slice a3 n3 p3, .slice a4 n4 p4, .int .i64 c5]] W fun e w' => ∃ v, e = .returned v ∧
      OutE w0 w' (W.heap.size + 1) v (((exItems (.sl n1 13 f1) ++ exFrom (.sl n2 3 f2)) ++ (Dat.sl n3 10 f3).els) ++ (Dat.sl n4 11 f4).els) ∧ Below W.heap.size W w' := by
  obtain ⟨_, hlk⟩ := Rd.lkK (ty := .items) (G := fun g => g < w0.heap.size) r1 q1 fun g hg => hg
  have hl1 : (Dat.sl n1 (rowTy .items).length f1).els.length = n1 := els_len _ _ _
  rw [← exprsIn_len]
  have hx : (Dat.sl n1 13 f1).els = (Dat.sl n1 (rowTy .items).length f1).els := rfl
  rw [hx]
  clear hx
  generalize (Dat.sl n1 (rowTy .items).length f1).els = L at hlk hl1 ⊢
  subst hl1
  clear r1 q1 f1
  have hlW := hlk.keep (w' := W) (G' := fun g => g < w0.heap.size) hb0.size (fun g _ hlt => hb0.block g hlt) fun _ h _ => h
  have HB := BX.new W 39 #[.bool c0, .slice a1 L.length p1, .slice a2 n2 p2, .slice a3 n3 p3, .slice a4 n4 p4, .int .i64 c5]
  go_enter Try.func79, Try.ntmps79
  have b1 := HB.box.cell (i := 1) (v := .slice a1 L.length p1) rfl
  go_wp2_with fail
  generalize W.alloc (.cells #[.bool c0, .slice a1 L.length p1, .slice a2 n2 p2, .slice a3 n3 p3, .slice a4 n4 p4, .int .i64 c5] 39) = w1 at HB b1 ⊢
  clear b1
  have hl1 := hlW.later ((Below.refl _ _).trans (HB.b))
  refine (clone_any w0 w1 a1 p1 L _ hl1 (by omega)).mono ?_
  rintro e w2 ⟨v, rfl, hb2, hcl⟩
  have HB2 := HB.next hb2
  have hs1 : W.heap.size < w1.heap.size := HB.box.lt
  have hf : (L.filter fun c => !star c).length ≤ L.length := List.length_filter_le _ _
  obtain ⟨w3pf⟩ : Nonempty (Calls Try.prog 119 #[v, .func (.func 121) #[] #[]] w2 fun e w' => ∃ v, e = .returned v ∧ LK (rowTy .items) w0 w' (fun q => q ≠ W.heap.size) v (L.filter fun c => !star c) ∧ Below w1.heap.size w2 w') := by
    rcases hcl with ⟨rfl, rfl⟩ | ⟨g, cap', rfl, hg, hrow⟩
    · refine ⟨(deleteNil_any w2).mono ?_⟩
      rintro e w' ⟨rfl, hb⟩
      exact ⟨_, rfl, ⟨none, 0, [], rfl, OutK.nil _ _, .inl rfl⟩, hb.mono hb2.size⟩
    · refine ⟨(deleteFunc_any w0 w2 g cap' w1.heap.size L hrow hg (by omega)).mono ?_⟩
      rintro e w' ⟨v, rfl, hl, hb⟩
      exact ⟨_, rfl, hl.keep (Nat.le_refl _) (fun _ _ _ => rfl) (fun q hq _ => by omega), hb⟩
  obtain ⟨v2, hv2⟩ : ∃ v2, v2 = v := ⟨_, rfl⟩
  rw [← hv2] at w3pf ⊢
  clear hcl hv2
  go_wp2_with fail
  refine w3pf.mono ?_
  clear w3pf
  rintro e w3 ⟨v3, rfl, hl3, hb3⟩
  obtain ⟨a3', p3', rfl⟩ := hl3.slice
  have HB3 : RowAt w3 W.heap.size 39 #[.bool c0, .slice a1 L.length p1, .slice a2 n2 p2, .slice a3 n3 p3, .slice a4 n4 p4, .int .i64 c5] := (hb3.block _ hs1).trans HB2.box
  have hbW : Below W.heap.size W w3 := HB2.b.trans (hb3.mono (Nat.le_of_lt hs1))
  have k1 := HB3.cell (i := 1) (v := .slice a1 L.length p1) rfl
  have k2 := HB3.soft 1
  have R4 : RowAt (w3.setCell ⟨W.heap.size, 1, none⟩ (.slice a3' (L.filter fun c => !star c).length p3')) W.heap.size 39 #[.bool c0, .slice a3' (L.filter fun c => !star c).length p3', .slice a2 n2 p2, .slice a3 n3 p3, .slice a4 n4 p4, .int .i64 c5] := HB3.set 1 _
  have x0 := R4.cell (i := 0) (v := .bool c0) rfl
  have x1 := R4.cell (i := 1) (v := .slice a3' (L.filter fun c => !star c).length p3') rfl
  have x2 := R4.cell (i := 2) (v := .slice a2 n2 p2) rfl
  have x3 := R4.cell (i := 3) (v := .slice a3 n3 p3) rfl
  have x4 := R4.cell (i := 4) (v := .slice a4 n4 p4) rfl
  have x5 := R4.cell (i := 5) (v := .int .i64 c5) rfl
  have hl4 : LK (rowTy .items) w0 (w3.setCell ⟨W.heap.size, 1, none⟩ (.slice a3' (L.filter fun c => !star c).length p3')) (fun _ => True) (.slice a3' (L.filter fun c => !star c).length p3') (L.filter fun c => !star c) :=
    hl3.keep (by simp) (fun q hq _ => heap_setCell_other w3 ⟨W.heap.size, 1, none⟩ q _ hq) fun _ _ _ => trivial
  have hW4 : Below W.heap.size W (w3.setCell ⟨W.heap.size, 1, none⟩ (.slice a3' (L.filter fun c => !star c).length p3')) := hbW.setCell (p := ⟨W.heap.size, 1, none⟩) (Nat.le_refl _) _
  have hb4 := hb0.trans (hW4.mono hb0.size)
  clear hl3 hb3 hb2 hbW HB3 HB2 HB hl1 hlW hlk
  generalize hLf : (L.filter fun c => !star c) = Lf at *
  go_wp2_with fail
  generalize w3.setCell ⟨W.heap.size, 1, none⟩ (.slice a3' Lf.length p3') = w4 at *
  refine (slots_any w0 w4 c0 a3' p3' Lf a2 n2 p2 a3 n3 p3 a4 n4 p4 c5 f2 f3 f4 hb4 hl4 r2 q2 r3 q3 r4 q4 (by omega)).mono ?_
  rintro e w5 ⟨v5, rfl, ho, hb5⟩
  clear x0 x1 x2 x3 x4 x5 k1 k2
  go_wp2_with fail
  go_ret
  subst hLf
  exact ⟨_, rfl, ho.low (B' := W.heap.size + 1) (by have := R4.lt; omega), hW4.trans (hb5.mono hW4.size)⟩
end Go.Proofs.Ytfmgkinindkedaa

/- append onto a list that came in, without room, or onto one of the call's own; bounds on what lies below a node. -/
namespace Go.Proofs.Ytfmgkinindkedaa
open Go.RowKit

theorem run_append_zero {P : Program} {w : World} {t ty e : TypeId} {i : TypeInfo} (ht : P.underlying t = some (.slice e)) (hi : P.info? e = some i) (b : Addr) (n c : Nat) (ax : Option Addr) :
    (Builtin.append_ #[t, t] ty #[.slice (some b) n n, .slice ax 0 c]).run P w = .ok (.slice (some b) n n) w := by
  cases ax <;> simp [Builtin.append_, run_underlying ht, sizeOf, typeInfo, hi, Builtin.lenOf, Builtin.firstCells, loadCells, loadCellsFrom, storeCells, Sem.run_pure]
/-- the list v: as it came in, without room behind it, or one of the call's own -/
def PB (w0 wr : World) (B : Nat) (v : Value) (L : List Nd) : Prop :=
  (∃ b n, v = .slice (some b) n n ∧ LK exprTy w0 w0 (fun g => g < w0.heap.size) v L) ∨ OutE w0 wr B v L
theorem PB.slice {w0 wr : World} {B : Nat} {v : Value} {L : List Nd} (h : PB w0 wr B v L) : ∃ a cap, v = .slice a L.length cap := by
  rcases h with ⟨b, n, rfl, h⟩ | h
  · obtain ⟨a, cap, e⟩ := h.slice
    exact ⟨a, cap, e⟩
  · exact h.slice
theorem PB.later {w0 wr w' : World} {B : Nat} {v : Value} {L : List Nd} (h : PB w0 wr B v L) (hb : Below wr.heap.size wr w') : PB w0 w' B v L := h.imp id fun h => h.later hb
theorem PB.lk {w0 wr : World} {B : Nat} {v : Value} {L : List Nd} (h : PB w0 wr B v L) (hb : Below w0.heap.size w0 wr) : LK exprTy w0 wr (fun g => g < w0.heap.size ∨ B ≤ g) v L := by
  rcases h with ⟨_, _, _, h⟩ | h
  · exact h.keep hb.size (fun g hg _ => hb.block g hg) fun g hg _ => .inl hg
  · exact h.lk fun g hg _ => .inr hg
theorem appO {ops : Array Oper} {rest : List Oper} {o : Oper} {a : Act} {Q : Exit → Act → World → Prop}
    (hgd : o.guard = none) (s x : Operand) (ho : o.op = .call { callee := .builtin .append, args := #[s, x], argTypes := #[36, 36] })
    (w0 : World) (B B' : Nat) (v vx : Value) (L Lx : List Nd) (W : World) (hs : a.eval s = v) (hx : a.eval x = vx)
    (hown : OutE w0 W B v L) (hr : OutE w0 W B' vx Lx) (hl : L.length + Lx.length ≤ 4000000) (hB : B ≤ W.heap.size)
    (h : ∀ (v' : Value) (w' : World), OutE w0 w' B v' (L ++ Lx) → Below B W w' → wpList Try.prog ops Q rest (a.put o.dst v') w') :
    wpList Try.prog ops Q (o :: rest) a W := by
  obtain ⟨i, hi, hz, hsize, hby⟩ := info_parts Try.infoEx
  obtain ⟨C, hC, hP⟩ := hown
  obtain ⟨C', hC', hP'⟩ := hr
  rcases hC'.2 with ⟨e, h0⟩ | ⟨g, cap, cur, e, hg, hrow, hnc, hcm, hsz, hcur⟩
  · have hLx : Lx = [] := List.eq_nil_of_length_eq_zero h0
    subst hLx
    rw [List.append_nil] at h
    exact wpList_append_own_none hgd s x 36 ho B 56 i 10 Try.underlying36 hi v L.length C hs hC (hx.trans e) (h v W ⟨C, hC, hP⟩ (Below.refl B W))
  · subst e
    refine wpList_append_own _ hgd s x 36 ho B 56 i _ 10 136 Try.underlying36 hi hz hsize hby rfl (by decide) v L.length C hs hC ⟨g, 0, none⟩ Lx.length cap C' hx hP'.1 (fun j u hj => hC'.cells rfl j u hj) hP'.ones (by unfold maxLen; omega) (by omega) hB ?_
    intro v' w' hown' hgrow _
    have hb : Below B W w' := (Below.refl B W).grown hgrow hB (fun q hq => (World.ownsRow.lt hC q hq).1)
    exact h v' w' ⟨C ++ C', by rw [List.length_append]; exact hown', hP.append hP'⟩ hb
set_option maxRecDepth 100000 in
theorem appF {ops : Array Oper} {rest : List Oper} {o : Oper} {a : Act} {Q : Exit → Act → World → Prop}
    (hgd : o.guard = none) (s x : Operand) (ho : o.op = .call { callee := .builtin .append, args := #[s, x], argTypes := #[36, 36] })
    (w0 : World) (B B' : Nat) (v vx : Value) (L Lx : List Nd) (W : World) (hs : a.eval s = v) (hx : a.eval x = vx) (hb0 : Below w0.heap.size w0 W)
    (hown : PB w0 W B v L) (hr : OutE w0 W B' vx Lx) (hl : L.length + Lx.length ≤ 4000000) (hB : B ≤ W.heap.size)
    (h : ∀ (v' : Value) (w' : World), PB w0 w' B v' (L ++ Lx) → Below B W w' → wpList Try.prog ops Q rest (a.put o.dst v') w') :
    wpList Try.prog ops Q (o :: rest) a W := by
  rcases hown with ⟨b, n, rfl, hlk⟩ | hown
  · obtain ⟨i, hi, hz, hsize, hby⟩ := info_parts Try.infoEx
    have hlk2 := hlk
    obtain ⟨a', cap', C, e, hC, hcell⟩ := hlk
    injection e with e1 e2 e3
    subst e1; subst e2; subst e3
    obtain ⟨C', hC', hP'⟩ := hr
    by_cases h0 : Lx.length = 0
    · have hLx : Lx = [] := List.eq_nil_of_length_eq_zero h0
      subst hLx
      rw [List.append_nil] at h
      refine wpList_plain hgd fun K hK => ?_
      obtain ⟨ax, cx, hvx⟩ : ∃ ax cx, vx = .slice ax 0 cx := by
        rcases hC'.2 with ⟨e, _⟩ | ⟨g, cap, cur, e, _⟩
        · exact ⟨none, 0, e⟩
        · exact ⟨_, cap, e⟩
      have hrun := run_append_zero (P := Try.prog) (w := W) (ty := o.type) Try.underlying36 hi b L.length cx ax
      unfold Oper.wp execOp
      simp only [ho, resolve, invoke, builtin, Sem.run_bind, Sem.run_pure, Result.andThen_ok, List.map_toArray, List.map_cons, List.map_nil, hs, hx, hvx, hrun]
      exact hK _ _ (h _ _ (.inl ⟨b, L.length, rfl, hlk2⟩) (Below.refl _ _))
    · rcases hC'.2 with ⟨e, h0'⟩ | ⟨g, cap, cur, e, hg, hrow, hnc, hcm, hsz, hcur⟩
      · exact absurd h0' h0
      · subst e
        have holds : ∀ j u, C[j]? = some u → W.cell? (b.add j) = some u := by
          intro j u hj
          rcases hcell with rfl | ⟨g', o', e, _, hg', _, hc⟩
          · have h1 := hC.1
            rw [List.length_nil, Nat.zero_mul] at h1
            have := (List.getElem?_eq_some_iff.1 hj).1
            omega
          · injection e with e
            subst e
            have hadd : (⟨g', o', none⟩ : Addr).add j = ⟨g', o' + j, none⟩ := by unfold Addr.add; split <;> simp_all
            rw [hadd]
            exact (hb0.cell (p := ⟨g', o' + j, none⟩) hg').trans (hc j u hj)
        have hCl : C.length = L.length * i.size := by rw [hsize]; exact hC.1
        have hCl' : C'.length = Lx.length * i.size := by rw [hsize]; exact hP'.1
        have hrun := run_append_grow (P := Try.prog) W 36 o.type 56 i _ Try.underlying36 hi hz b L.length L.length C hCl holds ⟨g, 0, none⟩ Lx.length cap C' hCl' (fun j u hj => hC'.cells rfl j u hj) (by omega) (by omega) (growslice_fits (by omega) (by rw [hby]; omega))
        refine wpList_plain hgd fun K hK => ?_
        unfold Oper.wp execOp
        simp only [ho, resolve, invoke, builtin, Sem.run_bind, Sem.run_pure, Result.andThen_ok, List.map_toArray, List.map_cons, List.map_nil, hs, hx, hrun]
        refine hK _ _ (h _ _ (.inr ⟨C ++ C', ⟨?_, .inr ⟨W.heap.size, _, _, by rw [List.length_append], hB, heap_alloc_new W.drew _, ?_, ?_, ?_, ?_⟩⟩, OutP.append hC hP'⟩) ?_)
        · rw [List.length_append, List.length_append, Nat.add_mul, hCl, hCl', hsize]
        · rw [List.length_append]; exact grownCap_ge _ _ _ _
        · exact grownCap_le_maxLen _ _ _ _ (by unfold maxLen; omega)
        · simp only [Array.size_append, List.size_toArray, size_zeroCells]
          rw [hCl, hCl', hsize]
          have hge := grownCap_ge W (L.length + Lx.length) L.length 56
          generalize grownCap W (L.length + Lx.length) L.length 56 = N at hge ⊢
          show L.length * 10 + Lx.length * 10 + (N - (L.length + Lx.length)) * 10 = N * 10
          omega
        · have : (C ++ C').length = (L ++ Lx).length * 10 := by rw [List.length_append, List.length_append, Nat.add_mul, hCl, hCl', hsize]
          rw [← this]
          simp only [Array.toList_append, List.append_assoc]
          rw [← List.append_assoc]
          exact List.take_left
        · exact (((Below.refl B W).drew).alloc hB _)
  · exact appO hgd s x ho w0 B B' v vx L Lx W hs hx hown hr hl hB fun v' w' h1 h2 => h v' w' (.inr h1) h2
/-- what is told of the nodes below, by the bounds of the tree -/
theorem preA_flat : ∀ l : List (List (Nat × Nd)), preA.of l = l.flatten
  | [] => rfl
  | a :: l => by rw [preA_good.of_cons, preA_flat l]; rfl
theorem pre_bd : ∀ (d : Dat) (ty : Ty), Fits d ty → ∀ p ∈ fold preA d ty, msr (p.2 8) ≤ msr d ∧ msr (p.2 9) ≤ msr d ∧ Fits (p.2 8) .exprs ∧ Fits (p.2 9) .queries
  | .v _, ty, hf => by cases ty <;> first | exact hf.elim | (intro p hp; exact absurd hp (by simp [fold, preA]))
  | .sl n k f, ty, hf => by
    obtain ⟨hd, _, hk, hfit⟩ := hf
    have IH : ∀ i j ty, Fits (f i j) ty → ∀ p ∈ fold preA (f i j) ty, msr (p.2 8) ≤ msr (f i j) ∧ msr (p.2 9) ≤ msr (f i j) ∧ Fits (p.2 8) .exprs ∧ Fits (p.2 9) .queries := fun i j ty h => pre_bd (f i j) ty h
    have sub : ∀ i j ty, i < n → j < k → Fits (f i j) ty → ∀ p ∈ fold preA (f i j) ty, msr (p.2 8) ≤ msr (.sl n k f) ∧ msr (p.2 9) ≤ msr (.sl n k f) ∧ Fits (p.2 8) .exprs ∧ Fits (p.2 9) .queries := fun i j ty hi hj h p hp => by
      obtain ⟨h1, h2, h3, h4⟩ := IH i j ty h p hp
      have := msr_el (n := n) (k := k) (f := f) hi hj
      exact ⟨by omega, by omega, h3, h4⟩
    have nodeE : ∀ (c : Nd) i a b, i < n → a < k → b < k → c 8 = f i a → c 9 = f i b → Fits (f i a) .exprs → Fits (f i b) .queries → ∀ p ∈ preA.node c (preA.up (fold preA (f i a) .exprs) (fold preA (f i b) .queries)), msr (p.2 8) ≤ msr (.sl n k f) ∧ msr (p.2 9) ≤ msr (.sl n k f) ∧ Fits (p.2 8) .exprs ∧ Fits (p.2 9) .queries := by
      intro c i a b hi ha hb e8 e9 f8 f9 p hp
      simp only [preA, List.mem_cons, List.mem_map, List.mem_append] at hp
      rcases hp with rfl | ⟨p', hp', rfl⟩
      · show msr (c 8) ≤ _ ∧ msr (c 9) ≤ _ ∧ Fits (c 8) _ ∧ Fits (c 9) _
        rw [e8, e9]
        exact ⟨msr_el hi ha, msr_el hi hb, f8, f9⟩
      · rcases hp' with h | h
        · exact sub i a .exprs hi ha f8 p' h
        · exact sub i b .queries hi hb f9 p' h
    cases ty
    case int => cases hd
    case bool => cases hd
    case str => cases hd
    case names => intro p hp; exact absurd hp (by simp [fold, preA])
    all_goals
      obtain rfl := hk
      intro p hp
      rw [fold, preA_flat, List.mem_flatten] at hp
      obtain ⟨l, hl, hp⟩ := hp
      rw [List.mem_map] at hl
      obtain ⟨i, hi, rfl⟩ := hl
      rw [List.mem_range] at hi
    case exprs => exact nodeE (f i) i 8 9 hi (by decide) (by decide) rfl rfl (hfit i hi 8 (by decide)) (hfit i hi 9 (by decide)) p hp
    case items =>
      by_cases ht : (f i 0).tru
      · rw [if_pos ht] at hp; exact absurd hp (by simp [preA])
      · rw [if_neg ht] at hp
        exact nodeE (cut 2 (f i)) i 10 11 hi (by decide) (by decide) rfl rfl (hfit i hi 10 (by decide)) (hfit i hi 11 (by decide)) p hp
    case rows => exact sub i 0 .exprs hi (by decide) (hfit i hi 0 (by decide)) p hp
    case sources => exact sub i 2 .exprs hi (by decide) (hfit i hi 2 (by decide)) p hp
    case keys => exact nodeE (f i) i 8 9 hi (by decide) (by decide) rfl rfl (hfit i hi 8 (by decide)) (hfit i hi 9 (by decide)) p hp
    case queries =>
      simp only [preA, List.mem_append] at hp
      rcases hp with ((h | h) | h) | h
      · exact sub i 1 .items hi (by decide) (hfit i hi 1 (by decide)) p h
      · exact sub i 2 .sources hi (by decide) (hfit i hi 2 (by decide)) p h
      · exact sub i 3 .exprs hi (by decide) (hfit i hi 3 (by decide)) p h
      · exact sub i 4 .keys hi (by decide) (hfit i hi 4 (by decide)) p h
/-- bounds of a node -/
structure Bd (c : Nd) : Prop where
  m8 : msr (c 8) ≤ 1048576
  m9 : msr (c 9) ≤ 1048576
  f8 : Fits (c 8) .exprs
  f9 : Fits (c 9) .queries
theorem Bd.pre {c : Nd} (h : Bd c) (d : Nat) : ∀ p ∈ pre d c, Bd p.2 := by
  intro p hp
  unfold Go.Proofs.Ytfmgkinindkedaa.pre at hp
  rw [List.mem_map] at hp
  obtain ⟨p', hp', rfl⟩ := hp
  show Bd p'.2
  unfold foldE at hp'
  simp only [preA, List.mem_cons, List.mem_map, List.mem_append] at hp'
  rcases hp' with rfl | ⟨q, hq, rfl⟩
  · exact h
  · have h8 := h.m8
    have h9 := h.m9
    rcases hq with hq | hq
    · obtain ⟨a, b, c, d⟩ := pre_bd _ _ h.f8 q hq
      exact ⟨by show msr (q.2 8) ≤ _; omega, by show msr (q.2 9) ≤ _; omega, c, d⟩
    · obtain ⟨a, b, c, d⟩ := pre_bd _ _ h.f9 q hq
      exact ⟨by show msr (q.2 8) ≤ _; omega, by show msr (q.2 9) ≤ _; omega, c, d⟩
end Go.Proofs.Ytfmgkinindkedaa

/- slices.Grow and slices.Concat at lists of expressions, as this program calls them. -/
namespace Go.Proofs.Ytfmgkinindkedaa
open Go.RowKit
set_option linter.unusedVariables false

set_option maxRecDepth 100000 in
set_option maxHeartbeats 4000000 in
/-- room for n expressions, and none yet -/
theorem grow_any (w0 W : World) (n : Nat) (hn : n ≤ 4000000) :
    Calls Try.prog 171 #[.slice none 0 0, .int .i64 (n : Int)] W fun e w' => ∃ v, e = .returned v ∧ OutE w0 w' W.heap.size v [] ∧ Below W.heap.size W w' := by
  have d0 : decide ((n : Int) < 0) = false := by simp
  by_cases h0 : n = 0
  · subst h0
    go_enter Try.func171, Try.ntmps171
    go_wp2_with fail
    go_ret
    exact ⟨_, rfl, ⟨[], World.ownsRow_nil _ _ _ _, OutP.nil w0⟩, Below.refl _ _⟩
  · have h1 : (0 : Int) < (n : Int) := by omega
    obtain ⟨i, hi, hz, hsize, hby⟩ := info_parts Try.infoEx
    have hrun := Lib.run_append_nil_zeros (P := Try.prog) W 36 3 36 56 i _ .i64 .i64 Try.underlying36 Try.underlying3 hi hz n (by omega) (by rw [hsize]; decide) (by omega) (by rw [hby]; omega)
    have hge := grownCap_ge W n 0 56
    have hle := grownCap_le_maxLen W n 0 56 (by unfold maxLen; omega)
    generalize hcap : grownCap W n 0 56 = cap at hrun hge hle
    clear hcap
    have hrow := heap_alloc_new W.drew (.cells (Builtin.zeroCells (Value.agg #[.int .i64 0, .int .i64 0, .bool false, .int .i64 0, .int .i64 0, .string ByteArray.empty, .string ByteArray.empty, .string ByteArray.empty, .slice none 0 0, .slice none 0 0]).cells n ++ Builtin.zeroCells (Value.agg #[.int .i64 0, .int .i64 0, .bool false, .int .i64 0, .int .i64 0, .string ByteArray.empty, .string ByteArray.empty, .string ByteArray.empty, .slice none 0 0, .slice none 0 0]).cells (cap - n)) 56)
    have hbe : Below W.heap.size W (W.drew.alloc (.cells (Builtin.zeroCells (Value.agg #[.int .i64 0, .int .i64 0, .bool false, .int .i64 0, .int .i64 0, .string ByteArray.empty, .string ByteArray.empty, .string ByteArray.empty, .slice none 0 0, .slice none 0 0]).cells n ++ Builtin.zeroCells (Value.agg #[.int .i64 0, .int .i64 0, .bool false, .int .i64 0, .int .i64 0, .string ByteArray.empty, .string ByteArray.empty, .string ByteArray.empty, .slice none 0 0, .slice none 0 0]).cells (cap - n)) 56)) := (Below.refl _ _).drew.alloc (by simp) _
    have hsz : (Builtin.zeroCells (Value.agg #[.int .i64 0, .int .i64 0, .bool false, .int .i64 0, .int .i64 0, .string ByteArray.empty, .string ByteArray.empty, .string ByteArray.empty, .slice none 0 0, .slice none 0 0]).cells n ++ Builtin.zeroCells (Value.agg #[.int .i64 0, .int .i64 0, .bool false, .int .i64 0, .int .i64 0, .string ByteArray.empty, .string ByteArray.empty, .string ByteArray.empty, .slice none 0 0, .slice none 0 0]).cells (cap - n)).size = cap * 10 := by
      rw [Array.size_append, size_zeroCells, size_zeroCells]
      show n * 10 + (cap - n) * 10 = _
      omega
    generalize (Builtin.zeroCells (Value.agg #[.int .i64 0, .int .i64 0, .bool false, .int .i64 0, .int .i64 0, .string ByteArray.empty, .string ByteArray.empty, .string ByteArray.empty, .slice none 0 0, .slice none 0 0]).cells n ++ Builtin.zeroCells (Value.agg #[.int .i64 0, .int .i64 0, .bool false, .int .i64 0, .int .i64 0, .string ByteArray.empty, .string ByteArray.empty, .string ByteArray.empty, .slice none 0 0, .slice none 0 0]).cells (cap - n)) = zs at *
    generalize hw2 : W.drew.alloc (.cells zs 56) = w2 at *
    have hgl : W.drew.heap.size = W.heap.size := rfl
    rw [hgl] at hrow
    have hout : OutE w0 w2 W.heap.size (.slice (some ⟨W.heap.size, 0, none⟩) 0 cap) [] := ⟨[], ⟨rfl, .inr ⟨W.heap.size, cap, zs, rfl, Nat.le_refl _, hrow, Nat.zero_le _, hle, hsz, by simp⟩⟩, OutP.nil w0⟩
    have hc2 : (n : Int) ≤ (cap : Int) := by omega
    have hc3 : (cap : Int) ≤ 9223372036854775807 := by unfold maxLen at hle; omega
    go_enter Try.func171, Try.ntmps171
    go_wp2_with (at_builtin; refine Lib.wpList_append_run _ rfl _ _ _ _ rfl _ _ rfl rfl _ _ hrun ?_)
    go_ret
    exact ⟨_, rfl, hout, hbe⟩
/-- a list that may be appended: as it came in, or one of the call's own -/
def SrcE (w0 W : World) (x : Value) (L : List Nd) : Prop := (∃ n f, Rd w0 0 x (.sl n 10 f) ∧ Fits (.sl n 10 f) .exprs ∧ L = (Dat.sl n 10 f).els ∧ Below w0.heap.size w0 W) ∨ ∃ B, OutE w0 W B x L
theorem SrcE.slice {w0 W : World} {x : Value} {L : List Nd} (h : SrcE w0 W x L) : ∃ a cap, x = .slice a L.length cap := by
  rcases h with ⟨n, f, hr, hf, rfl, _⟩ | ⟨B, h⟩
  · obtain ⟨a, cap, e⟩ := hr.slice
    exact ⟨a, cap, by rw [e, els_len]⟩
  · exact h.slice
theorem SrcE.later {w0 W W' : World} {x : Value} {L : List Nd} (h : SrcE w0 W x L) (hb : Below W.heap.size W W') : SrcE w0 W' x L := by
  rcases h with ⟨n, f, hr, hf, e, hb0⟩ | ⟨B, h⟩
  · exact .inl ⟨n, f, hr, hf, e, hb0.trans (hb.mono hb0.size)⟩
  · exact .inr ⟨B, h.later hb⟩
theorem appS_ {ops : Array Oper} {rest : List Oper} {o : Oper} {a : Act} {Q : Exit → Act → World → Prop}
    (hgd : o.guard = none) (s x : Operand) (ho : o.op = .call { callee := .builtin .append, args := #[s, x], argTypes := #[36, 36] })
    (w0 : World) (B : Nat) (v vx : Value) (L Lx : List Nd) (W : World) (hs : a.eval s = v) (hx : a.eval x = vx)
    (hown : OutE w0 W B v L) (hr : SrcE w0 W vx Lx) (hl : L.length + Lx.length ≤ 2000000) (hB : B ≤ W.heap.size)
    (h : ∀ (v' : Value) (w' : World), OutE w0 w' B v' (L ++ Lx) → Below B W w' → wpList Try.prog ops Q rest (a.put o.dst v') w') :
    wpList Try.prog ops Q (o :: rest) a W := by
  rcases hr with ⟨n, f, hr, hf, rfl, hb0⟩ | ⟨B', hr⟩
  · rw [els_len] at hl
    obtain ⟨ax, cap, e⟩ := hr.slice
    rw [e] at hx hr
    exact appM hgd s x ho w0 B v L ax n cap n 10 f W hs hx hown hr hf hb0 (by omega) (by omega) hB h
  · exact appO hgd s x ho w0 B B' v vx L Lx W hs hx hown hr (by omega) hB h
/-- the values xs in the slice v -/
def ValsE (W : World) (v : Value) (xs : List Value) : Prop := ∃ a cap, v = .slice a xs.length cap ∧ (xs = [] ∨ ∃ g o, a = some ⟨g, o, none⟩ ∧ g < W.heap.size ∧ ∀ (i : Nat) (x : Value), xs[i]? = some x → W.cell? ⟨g, o + i, none⟩ = some x)
theorem flat_take {Ls : List (List Nd)} {j : Nat} {L : List Nd} (h : Ls[j]? = some L) : (Ls.take (j + 1)).flatten = (Ls.take j).flatten ++ L := by
  rw [take_next h, List.flatten_append]; simp
theorem flat_take_le (Ls : List (List Nd)) (j : Nat) : (Ls.take j).flatten.length ≤ Ls.flatten.length := by
  have h : Ls.flatten = (Ls.take j).flatten ++ (Ls.drop j).flatten := by rw [← List.flatten_append, List.take_append_drop]
  rw [h, List.length_append]; omega
set_option maxRecDepth 100000 in
set_option maxHeartbeats 4000000 in
theorem concat_any (w0 W : World) (v : Value) (xs : List Value) (Ls : List (List Nd)) (hv : ValsE W v xs) (hl : xs.length = Ls.length) (hx : ∀ (i : Nat) (x : Value) (L : List Nd), xs[i]? = some x → Ls[i]? = some L → SrcE w0 W x L)
    (hN : Ls.flatten.length ≤ 2000000) (hM : xs.length ≤ 1048576) :
    Calls Try.prog 137 #[v] W fun e w' => ∃ v, e = .returned v ∧ OutE w0 w' W.heap.size v Ls.flatten ∧ Below W.heap.size W w' := by
  obtain ⟨a, cap, rfl, hc⟩ := hv
  have hLs := Lib.hid hl
  clear hl
  go_enter Try.func137, Try.ntmps137
  go_wp2_with fail
  go_loopw [3, 11] (fun sz i wr => ∃ (j S : Nat), j ≤ xs.length ∧ i = .int .i64 (j : Int) ∧ sz = .int .i64 (S : Int) ∧ Hid (S = (Ls.take j).flatten.length) ∧ S ≤ 2000000 ∧ W = wr) (fun _ i _ => xs.length - (intOf i).toNat)
  case atStart => exact ⟨0, 0, Nat.zero_le _, rfl, rfl, rfl, Nat.zero_le _, rfl⟩
  case round =>
    obtain ⟨j, S, hj, rfl, rfl, HS, hS, rfl⟩ := hrel
    by_cases hlt : j < xs.length
    · have hlt2 : (j : Int) < (xs.length : Int) := by omega
      have hltL : j < Ls.length := by have := HS; have := hLs.out; omega
      rcases hc with hc | ⟨g, o, rfl, hg, hcell⟩
      · rw [hc] at hlt; exact absurd hlt (Nat.not_lt_zero _)
      have hz := hcell j xs[j] (List.getElem?_eq_getElem hlt)
      obtain ⟨ax, cx, ex⟩ := (hx j xs[j] Ls[j] (List.getElem?_eq_getElem hlt) (List.getElem?_eq_getElem hltL)).slice
      rw [ex] at hz
      have HS2 : Hid (S + Ls[j].length = (Ls.take (j + 1)).flatten.length) := by
        show _ = _
        rw [flat_take (List.getElem?_eq_getElem hltL), List.length_append, HS.out]
      have hS2 : S + Ls[j].length ≤ 2000000 := by
        rw [HS2.out]
        exact Nat.le_trans (flat_take_le Ls (j + 1)) hN
      generalize Ls[j].length = q at hz HS2 hS2
      clear hcell hx
      have hd : decide ((S : Int) + (q : Int) < 0) = false := by simp; omega
      clear HS ex
      go_wp2_with fail
      go_roundw
      case rel => exact ⟨j + 1, S + q, by omega, by go_num, by go_num, HS2, hS2, by first | rfl | trivial⟩
      case measure => simp [intOf]; omega
    · obtain rfl : xs.length = j := by omega
      have hSS : S ≤ 4000000 := by omega
      have hG := grow_any w0 W S hSS
      clear hlt hj
      go_wp2_with fail
      refine hG.mono ?_
      rintro e w2 ⟨v0, rfl, ho0, hb0⟩
      clear hG HS
      obtain ⟨vv, hvv⟩ : ∃ vv, vv = v0 := ⟨_, rfl⟩
      rw [← hvv] at ho0 ⊢
      clear hvv
      go_wp2_with fail
      go_loopw [6, 27] (fun out i wr => ∃ (j : Nat) (vo : Value), j ≤ xs.length ∧ i = .int .i64 (j : Int) ∧ vo = out ∧ OutE w0 wr W.heap.size vo (Ls.take j).flatten ∧ Below W.heap.size W wr) (fun _ i _ => xs.length - (intOf i).toNat)
      case atStart => exact ⟨0, vv, Nat.zero_le _, rfl, rfl, ho0, hb0⟩
      case round =>
        obtain ⟨j, vo, hj, rfl, rfl, ho, hb⟩ := hrel
        by_cases hlt : j < xs.length
        · have hlt2 : (j : Int) < (xs.length : Int) := by omega
          have hltL : j < Ls.length := by have := hLs.out; omega
          rcases hc with hc | ⟨g, o, rfl, hg, hcell⟩
          · rw [hc] at hlt; exact absurd hlt (Nat.not_lt_zero _)
          have hz := (hb.cell (p := ⟨g, o + j, none⟩) hg).trans (hcell j xs[j] (List.getElem?_eq_getElem hlt))
          have hsrc := (hx j xs[j] Ls[j] (List.getElem?_eq_getElem hlt) (List.getElem?_eq_getElem hltL)).later hb
          have hfl := flat_take (List.getElem?_eq_getElem hltL)
          have hle := flat_take_le Ls (j + 1)
          have HF := Lib.hid hfl
          have hlen : (Ls.take j).flatten.length + Ls[j].length ≤ 2000000 := by rw [hfl, List.length_append] at hle; omega
          obtain ⟨ax, cx, ex⟩ := hsrc.slice
          rw [ex] at hz hsrc
          have hsrc2 := hsrc
          have HO := Lib.hid ho
          clear hfl hle ex hsrc ho hcell hx
          go_wp2_with (at_builtin; refine appS_ rfl (.tmp 31) (.tmp 32) rfl w0 W.heap.size vo _ _ _ wr rfl rfl HO.out hsrc2 hlen hb.size ?_; intro v' w' hout hbb)
          have hb2 := hb.trans (hbb.mono (Nat.le_refl _))
          rw [← HF.out] at hout
          go_roundw
          case rel => exact ⟨j + 1, v', by omega, by go_num, rfl, hout, hb2⟩
          case measure => simp [intOf]; omega
        · obtain rfl : xs.length = j := by omega
          have hfin : OutE w0 wr W.heap.size vo Ls.flatten := by
            have := ho
            rw [hLs.out, List.take_length] at this
            exact this
          clear ho hlt hj
          go_wp2_with fail
          go_ret
          exact ⟨_, rfl, hfin, hb⟩
end Go.Proofs.Ytfmgkinindkedaa

/- The program's below: what lies directly below an expression. -/
namespace Go.Proofs.Ytfmgkinindkedaa
open Go.RowKit

theorem Rd.openS {w : World} {x : Option Addr} {n p : Nat} {d : Dat} {ty : Ty} (r : Rd w 0 (.slice x n p) d) (q : Fits d ty) (hd : deep ty = true) :
    ∃ f, d = .sl n (rowTy ty).length f ∧ Rd w 0 (.slice x n p) (.sl n (rowTy ty).length f) ∧ Fits (.sl n (rowTy ty).length f) ty := by
  obtain ⟨n', k, f, rfl⟩ := q.deep hd
  have hk : k = _ := q.2.2.1
  subst hk
  have h2 : n = n' := by obtain ⟨_, _, e, _⟩ := r; injection e
  subst h2
  exact ⟨f, rfl, r, q⟩
theorem clip_any (a : Option Addr) (n cap : Nat) (hn : n ≤ cap) (h63 : n ≤ 1048576) (ha : n = 0 ∨ ∃ g o, a = some ⟨g, o, none⟩) (W : World) :
    Calls Try.prog 177 #[.slice a n cap] W fun e w' => e = .returned (.slice a n n) ∧ w' = W := by
  rcases Nat.eq_zero_or_pos n with rfl | hp
  · go_enter Try.func177, Try.ntmps177
    go_wp2_with fail
    go_ret
    exact ⟨rfl, rfl⟩
  · obtain ⟨g, o, rfl⟩ : ∃ g o, a = some ⟨g, o, none⟩ := ha.resolve_left (by omega)
    have h1 : ¬ n = 0 := by omega
    have h2 : (n : Int) ≤ (cap : Int) := by omega
    go_enter Try.func177, Try.ntmps177
    go_wp2_with fail
    go_ret
    exact ⟨rfl, rfl⟩
theorem row_msr {n i : Nat} {f : Nat → Nat → Dat} (hi : i < n) : msr (f i 1) + msr (f i 2) + msr (f i 3) + msr (f i 4) ≤ msr (.sl n 6 f) := by
  rw [msr_is]
  have h1 := partm_le f 6 (show i + 1 ≤ n by omega)
  rw [partm_succ] at h1
  have hs : rowm f 6 i = ((List.range 6).map fun j => msr (f i j)).sum := rfl
  simp only [List.range_succ, List.range_zero, List.nil_append, List.cons_append, List.map_cons, List.map_nil, List.sum_cons, List.sum_nil] at hs
  omega
theorem exFrom_msr {n : Nat} {f : Nat → Nat → Dat} (q : Fits (.sl n 3 f) .sources) : (exFrom (.sl n 3 f)).length ≤ msr (.sl n 3 f) := by
  have key : ∀ m, m ≤ n → (exFrom (.sl m 3 f)).length ≤ partm f 3 m := fun m => by
    induction m with
    | zero => intro _; exact Nat.zero_le _
    | succ m ih =>
      intro hm
      have h1 := ih (by omega)
      rw [exFrom_succ, List.length_append, partm_succ]
      have h2 : (f m 2).els.length ≤ msr (f m 2) := by
        have h3 : Fits (f m 2) .exprs := q.2.2.2 m (by omega) 2 (by decide)
        cases h4 : f m 2 with
        | v x => rw [h4] at h3; exact h3.elim
        | sl a b c => rw [els_len]; exact msr_n _ _ _
      have hs : rowm f 3 m = ((List.range 3).map fun j => msr (f m j)).sum := rfl
      simp only [List.range_succ, List.range_zero, List.nil_append, List.cons_append, List.map_cons, List.map_nil, List.sum_cons, List.sum_nil] at hs
      omega
  rw [msr_is]
  have := key n (Nat.le_refl _)
  omega
/-- every expression of a query, those of its stars too -/
def slotsOf (q : Nd) : List Nd := ((((q 1).els.map (cut 2)) ++ exFrom (q 2)) ++ (q 3).els) ++ (q 4).els
theorem els_msr {d : Dat} : d.els.length ≤ msr d := by
  cases d with
  | v x => exact Nat.zero_le _
  | sl n k f => rw [els_len]; exact msr_n _ _ _
theorem slotsOf_msr {n i : Nat} {f : Nat → Nat → Dat} (q : Fits (.sl n 6 f) .queries) (hi : i < n) : (slotsOf (f i)).length ≤ rowm f 6 i := by
  have h2 : (exFrom (f i 2)).length ≤ msr (f i 2) := by
    have h3 : Fits (f i 2) .sources := q.2.2.2 i hi 2 (by decide)
    cases h4 : f i 2 with
    | v x => rw [h4] at h3; exact h3.elim
    | sl a b c =>
      rw [h4] at h3
      have hb : b = 3 := h3.2.2.1
      subst hb
      exact exFrom_msr h3
  unfold slotsOf
  have k1 := els_msr (d := f i 1)
  have k3 := els_msr (d := f i 3)
  have k4 := els_msr (d := f i 4)
  have hs : rowm f 6 i = ((List.range 6).map fun j => msr (f i j)).sum := rfl
  simp only [List.range_succ, List.range_zero, List.nil_append, List.cons_append, List.map_cons, List.map_nil, List.sum_cons, List.sum_nil] at hs
  simp only [List.length_append, List.length_map]
  omega
theorem exprsOf_le (q : Nd) : (exprsOf q).length ≤ (slotsOf q).length := by
  unfold exprsOf slotsOf exItems
  simp only [List.length_append, List.length_map]
  have := List.length_filter_le (fun c : Nat → Dat => !(c 0).tru) (q 1).els
  omega
theorem flat_slots_msr {n : Nat} {f : Nat → Nat → Dat} (q : Fits (.sl n 6 f) .queries) {j : Nat} (hj : j ≤ n) : ((Dat.sl j 6 f).els.flatMap slotsOf).length ≤ msr (.sl n 6 f) := by
  have key : ∀ m, m ≤ n → ((Dat.sl m 6 f).els.flatMap slotsOf).length ≤ partm f 6 m := fun m => by
    induction m with
    | zero => intro _; exact Nat.zero_le _
    | succ m ih =>
      intro hm
      have h1 := ih (by omega)
      have h2 := slotsOf_msr q (show m < n by omega)
      rw [els_succ, List.flatMap_append, List.length_append, show [f m].flatMap slotsOf = slotsOf (f m) from List.append_nil _, partm_succ]
      omega
  rw [msr_is]
  have h1 := key j hj
  have h2 := partm_le f 6 hj
  omega
theorem flat_exprs_msr {n : Nat} {f : Nat → Nat → Dat} (q : Fits (.sl n 6 f) .queries) {j : Nat} (hj : j ≤ n) : ((Dat.sl j 6 f).els.flatMap exprsOf).length ≤ msr (.sl n 6 f) := by
  have h1 := flat_slots_msr q hj
  have h2 : ∀ l : List Nd, (l.flatMap exprsOf).length ≤ (l.flatMap slotsOf).length := fun l => by
    induction l with
    | nil => exact Nat.le_refl _
    | cons a l ih =>
      have := exprsOf_le a
      rw [List.flatMap_cons, List.flatMap_cons, List.length_append, List.length_append]
      omega
  exact Nat.le_trans (h2 _) h1
/-- the list so far -/
structure BS (w0 W wr : World) (out : Value) (L : List Nd) : Prop where
  own : PB w0 wr (W.heap.size + 1) out L
  b : Below W.heap.size W wr
  b0 : Below w0.heap.size w0 wr
  sz : W.heap.size + 1 ≤ wr.heap.size
theorem BS.next {w0 W wr w' : World} {out : Value} {L : List Nd} (H : BS w0 W wr out L) (h : Below wr.heap.size wr w') : BS w0 W w' out L :=
  ⟨H.own.later h, H.b.trans (h.mono H.b.size), H.b0.trans (h.mono H.b0.size), Nat.le_trans H.sz h.size⟩
theorem BS.app {w0 W wr w' : World} {out out' : Value} {L L' : List Nd} (H : BS w0 W wr out L) (h : PB w0 w' (W.heap.size + 1) out' L') (hb : Below (W.heap.size + 1) wr w') (hz : w0.heap.size ≤ W.heap.size) : BS w0 W w' out' L' :=
  ⟨h, H.b.trans (hb.mono (Nat.le_succ _)), H.b0.trans (hb.mono (Nat.le_succ_of_le hz)), Nat.le_trans H.sz hb.size⟩
set_option maxRecDepth 100000 in
set_option maxHeartbeats 8000000 in
theorem below_exprs (w0 W : World) (c : Nd) (ys : List Value) (hys : OutK exprTy w0 ys [c]) (hb0 : Below w0.heap.size w0 W) (hc : Bd c) :
    Calls Try.prog 154 #[.agg ys.toArray, .func (.func 79) #[] #[]] W fun e w' => ∃ v, e = .returned v ∧ PB w0 w' (W.heap.size + 1) v ((c 8).els ++ (c 9).els.flatMap exprsOf) ∧ Below W.heap.size W w' := by
  obtain ⟨c0, c1, c2, c3, c4, c5, c6, c7, a8, n8, p8, a9, n9, p9, rfl, -, -, -, -, -, -, -, -, ⟨r8, q8⟩, ⟨r9, q9⟩⟩ := hys.ten
  obtain ⟨f8, e8, r8, q8⟩ := r8.openS q8 rfl
  obtain ⟨f9, e9, r9, q9⟩ := r9.openS q9 rfl
  have m8 := hc.m8
  have m9 := hc.m9
  rw [e8] at m8
  rw [e9] at m9
  rw [e8, e9]
  replace m8 : msr (.sl n8 10 f8) ≤ 1048576 := m8
  replace m9 : msr (.sl n9 6 f9) ≤ 1048576 := m9
  replace r8 : Rd w0 0 (.slice a8 n8 p8) (.sl n8 10 f8) := r8
  replace r9 : Rd w0 0 (.slice a9 n9 p9) (.sl n9 6 f9) := r9
  replace q8 : Fits (.sl n8 10 f8) .exprs := q8
  replace q9 : Fits (.sl n9 6 f9) .queries := q9
  show Calls _ _ _ _ fun e w' => ∃ v, e = .returned v ∧ PB w0 w' (W.heap.size + 1) v ((Dat.sl n8 10 f8).els ++ (Dat.sl n9 6 f9).els.flatMap exprsOf) ∧ Below W.heap.size W w'
  have hn9 : n9 ≤ 9223372036854775807 := q9.2.1
  have hn8 : n8 ≤ 1048576 := Nat.le_trans (msr_n _ _ _) m8
  clear hys hc e8 e9
  have hz := hb0.size
  have HB := BX.new W 56 #[.int .i64 c0, .int .i64 c1, .bool c2, .int .i64 c3, .int .i64 c4, .string c5, .string c6, .string c7, .slice a8 n8 p8, .slice a9 n9 p9]
  have hlk := r8.lk (G := fun g => g < w0.heap.size) q8 fun g h => h
  have hl8 : (Dat.sl n8 10 f8).els.length = n8 := els_len _ _ _
  have hPB : PB w0 (W.alloc (.cells #[.int .i64 c0, .int .i64 c1, .bool c2, .int .i64 c3, .int .i64 c4, .string c5, .string c6, .string c7, .slice a8 n8 p8, .slice a9 n9 p9] 56)) (W.heap.size + 1) (.slice a8 n8 n8) (Dat.sl n8 10 f8).els := by
    obtain ⟨ax, cx, C, e, hC, hcell⟩ := hlk
    injection e with e1 e2 e3
    subst e1; subst e3
    cases a8 with
    | none =>
      have h0 : (Dat.sl n8 10 f8).els = [] := by
        rcases hcell with h | ⟨_, _, h, _⟩
        · exact h
        · cases h
      have hn0 : n8 = 0 := by rw [← hl8, h0]; rfl
      subst hn0
      exact .inr ⟨[], World.ownsRow_nil _ _ _ _, OutP.nil w0⟩
    | some b => exact .inl ⟨b, n8, rfl, _, n8, C, by rw [hl8], hC, hcell.imp id fun ⟨g, o, e, h1, h2⟩ => ⟨g, o, e, by rw [hl8]; exact Nat.le_refl _, h2⟩⟩
  have hclip := clip_any a8 n8 p8 (by obtain ⟨_, _, e, h, _⟩ := r8; injection e with _ _ e3; omega) (by omega) (by obtain ⟨_, _, e, _, _, h⟩ := r8; injection e with e1 e2 e3; subst e1; exact h.imp id fun ⟨g, o, e, _⟩ => ⟨g, o, e⟩)
  go_enter Try.func154, Try.ntmps154
  have b8 := HB.box.cell (i := 8) (v := .slice a8 n8 p8) rfl
  have b9 := HB.box.cell (i := 9) (v := .slice a9 n9 p9) rfl
  go_wp2_with fail
  generalize W.alloc (.cells #[.int .i64 c0, .int .i64 c1, .bool c2, .int .i64 c3, .int .i64 c4, .string c5, .string c6, .string c7, .slice a8 n8 p8, .slice a9 n9 p9] 56) = w1 at HB hPB b8 b9 ⊢
  refine (hclip w1).mono ?_
  rintro e w2 ⟨rfl, rfl⟩
  clear hclip b8
  go_wp2_with fail
  clear b9
  have HS : BS w0 W w2 (.slice a8 n8 n8) ((Dat.sl n8 10 f8).els ++ (Dat.sl 0 6 f9).els.flatMap exprsOf) := ⟨by show PB _ _ _ _ (_ ++ []); rw [List.append_nil]; exact hPB, HB.b, hb0.trans (HB.b.mono hz), HB.box.lt⟩
  clear HB hPB hlk
  go_loopw [5, 14] (fun out i wr => ∃ (j : Nat) (v : Value), j ≤ n9 ∧ i = .int .i64 (j : Int) ∧ v = out ∧ BS w0 W wr v ((Dat.sl n8 10 f8).els ++ (Dat.sl j 6 f9).els.flatMap exprsOf)) (fun _ i _ => n9 - (intOf i).toNat)
  case atStart => exact ⟨0, _, by omega, rfl, rfl, HS⟩
  case round =>
    obtain ⟨j, v, hj, rfl, rfl, H⟩ := hrel
    by_cases hlt : j < n9
    · have hlt2 : (j : Int) < (n9 : Int) := by omega
      obtain ⟨g, o, rfl, -, hg, d0, x1, x2, x3, x4, d5, ⟨z0, z1, z2, z3, z4, z5⟩, ⟨e0, ⟨r1, q1⟩, ⟨r2, q2⟩, ⟨r3, q3⟩, ⟨r4, q4⟩, ⟨e5, _⟩⟩⟩ := row_queries r9 q9 hlt
      obtain ⟨a1, n1, t1, rfl⟩ := r1.slice_of q1 rfl
      obtain ⟨a2, n2, t2, rfl⟩ := r2.slice_of q2 rfl
      obtain ⟨a3, n3, t3, rfl⟩ := r3.slice_of q3 rfl
      obtain ⟨a4, n4, t4, rfl⟩ := r4.slice_of q4 rfl
      have hrow := row_msr (n := n9) (f := f9) hlt
      obtain ⟨h1, E1, r1, q1⟩ := r1.openS q1 rfl
      obtain ⟨h2, E2, r2, q2⟩ := r2.openS q2 rfl
      obtain ⟨h3, E3, r3, q3⟩ := r3.openS q3 rfl
      obtain ⟨h4, E4, r4, q4⟩ := r4.openS q4 rfl
      have hN : n1 + (exFrom (.sl n2 3 h2)).length + n3 + n4 ≤ 1048576 := by
        rw [E1, E2, E3, E4] at hrow
        have k1 := msr_n n1 13 h1
        have k2 := exFrom_msr q2
        have k3 := msr_n n3 10 h3
        have k4 := msr_n n4 11 h4
        simp only [rowTy, exprTy, List.length_cons, List.length_nil, List.length_append, Nat.zero_add, Nat.reduceAdd] at hrow
        omega
      have hex : exprsOf (f9 j) = ((exItems (.sl n1 13 h1) ++ exFrom (.sl n2 3 h2)) ++ (Dat.sl n3 10 h3).els) ++ (Dat.sl n4 11 h4).els := by
        unfold exprsOf
        rw [E1, E2, E3, E4]
        rfl
      have hlen : ((Dat.sl n8 10 f8).els ++ (Dat.sl j 6 f9).els.flatMap exprsOf).length + (exprsOf (f9 j)).length ≤ 4000000 := by
        have k1 := flat_exprs_msr q9 (show j + 1 ≤ n9 by omega)
        rw [els_succ, List.flatMap_append, List.length_append, show [f9 j].flatMap exprsOf = exprsOf (f9 j) from List.append_nil _] at k1
        rw [List.length_append, hl8]
        omega
      have hs : (Dat.sl n8 10 f8).els ++ (Dat.sl (j + 1) 6 f9).els.flatMap exprsOf = ((Dat.sl n8 10 f8).els ++ (Dat.sl j 6 f9).els.flatMap exprsOf) ++ exprsOf (f9 j) := by
        rw [els_succ, List.flatMap_append, show [f9 j].flatMap exprsOf = exprsOf (f9 j) from List.append_nil _, List.append_assoc]
      replace z0 := (H.b0.cell (p := ⟨g, o + j * 6, none⟩) hg).trans z0
      replace z1 := (H.b0.cell (p := ⟨g, o + j * 6 + 1, none⟩) hg).trans z1
      replace z2 := (H.b0.cell (p := ⟨g, o + j * 6 + 2, none⟩) hg).trans z2
      replace z3 := (H.b0.cell (p := ⟨g, o + j * 6 + 3, none⟩) hg).trans z3
      replace z4 := (H.b0.cell (p := ⟨g, o + j * 6 + 4, none⟩) hg).trans z4
      replace z5 := (H.b0.cell (p := ⟨g, o + j * 6 + 5, none⟩) hg).trans z5
      have hal : Below wr.heap.size wr (wr.alloc (.cells #[.bool d0, .slice a1 n1 t1, .slice a2 n2 t2, .slice a3 n3 t3, .slice a4 n4 t4, .int .i64 d5] 39)) := (Below.refl _ _).alloc (Nat.le_refl _) _
      have H1 := H.next hal
      have hcall := exprsIn_any w0 (wr.alloc (.cells #[.bool d0, .slice a1 n1 t1, .slice a2 n2 t2, .slice a3 n3 t3, .slice a4 n4 t4, .int .i64 d5] 39)) d0 a1 n1 t1 a2 n2 t2 a3 n3 t3 a4 n4 t4 d5 h1 h2 h3 h4 H1.b0 r1 q1 r2 q2 r3 q3 r4 q4 hN
      rw [← hex] at hcall
      have HSS := Lib.hid hs
      have HL := Lib.hid hlen
      clear hs hlen hex hrow E1 E2 E3 E4 e0 e5 r1 r2 r3 r4 q1 q2 q3 q4 hN
      go_wp2_with fail
      refine hcall.mono ?_
      clear hcall
      rintro e w3 ⟨v3, rfl, ho, hb3⟩
      have H3 := H1.next (hb3.mono (by simp))
      clear z0 z1 z2 z3 z4 z5 hal H1 hb3
      go_wp2_with (at_builtin; refine appF rfl (.tmp 18) (.tmp 21) rfl w0 (W.heap.size + 1) _ v v3 ((Dat.sl n8 10 f8).els ++ (Dat.sl j 6 f9).els.flatMap exprsOf) (exprsOf (f9 j)) w3 rfl rfl H3.b0 H3.own ho HL.out H3.sz ?_; intro v' w' hown' hb')
      have H4 := H3.app hown' hb' hz
      rw [← HSS.out] at H4
      go_roundw
      case rel => exact ⟨j + 1, _, by omega, by go_num, rfl, H4⟩
      case measure => simp [intOf]; omega
    · obtain rfl : n9 = j := by omega
      clear hlt hj
      go_wp2_with fail
      go_ret
      exact ⟨v, rfl, H.own, H.b⟩
end Go.Proofs.Ytfmgkinindkedaa
