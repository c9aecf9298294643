
/- slices.DeleteFunc and Clone at the items of a query, as this program calls them; the program's exprsIn. -/
import Derived.Test.YtgihklohhjhjbaaDelF
import Derived.Laws.CopyRow
import Derived.Lib.SliceRun
namespace Go.Proofs.Ytgihklohhjhjbaa
open Go.RowKit

theorem run_clear_items (w : World) (g o n c : Nat) (cur : Array Value) (ty : TypeId) (hg : RowAt w g 102 cur) (hn : 0 < n) (hfit : o + n * 13 ≤ cur.size) :
    ∃ cs', (Builtin.clear_ #[34] ty #[.slice (some ⟨g, o, none⟩) n c]).run Try.prog w = .ok (.tuple #[]) (w.setRow g cs') ∧ cs'.size = cur.size ∧ ∀ x, x < o → cs'[x]? = cur[x]? := by
  obtain ⟨m, rfl⟩ : ∃ m, n = m + 1 := ⟨n - 1, by omega⟩
  have hz : ∀ v ∈ (Builtin.zeroCells #[.bool false, .string ⟨#[]⟩, .int .i64 0, .int .i64 0, .bool false, .int .i64 0, .int .i64 0, .string ⟨#[]⟩, .string ⟨#[]⟩, .string ⟨#[]⟩, .slice none 0 0, .slice none 0 0, .string ⟨#[]⟩] (m + 1)).toList, v.oneCell' = true := by
    intro v hv
    simp only [Builtin.zeroCells, Array.toList_map, List.mem_map] at hv
    obtain ⟨i, _, rfl⟩ := hv
    have hi : i % 13 < 13 := Nat.mod_lt _ (by decide)
    show (#[Value.bool false, .string ⟨#[]⟩, .int .i64 0, .int .i64 0, .bool false, .int .i64 0, .int .i64 0, .string ⟨#[]⟩, .string ⟨#[]⟩, .string ⟨#[]⟩, .slice none 0 0, .slice none 0 0, .string ⟨#[]⟩])[i % 13]!.oneCell' = true
    generalize i % 13 = k at hi
    match k, hi with
    | 0, _ | 1, _ | 2, _ | 3, _ | 4, _ | 5, _ | 6, _ | 7, _ | 8, _ | 9, _ | 10, _ | 11, _ | 12, _ => rfl
    | k + 13, h => exact absurd h (by omega)
  have hlen : (Builtin.zeroCells #[.bool false, .string ⟨#[]⟩, .int .i64 0, .int .i64 0, .bool false, .int .i64 0, .int .i64 0, .string ⟨#[]⟩, .string ⟨#[]⟩, .string ⟨#[]⟩, .slice none 0 0, .slice none 0 0, .string ⟨#[]⟩] (m + 1)).toList.length = (m + 1) * 13 := by
    rw [Array.length_toList, size_zeroCells]; rfl
  have hv : ∀ w, (zeroValue 102).run Try.prog w = .ok (.agg #[.bool false, .string ⟨#[]⟩, .int .i64 0, .int .i64 0, .bool false, .int .i64 0, .int .i64 0, .string ⟨#[]⟩, .string ⟨#[]⟩, .string ⟨#[]⟩, .slice none 0 0, .slice none 0 0, .string ⟨#[]⟩]) w := fun w => Try.zeroValue102 w
  generalize hZ : (Builtin.zeroCells #[.bool false, .string ⟨#[]⟩, .int .i64 0, .int .i64 0, .bool false, .int .i64 0, .int .i64 0, .string ⟨#[]⟩, .string ⟨#[]⟩, .string ⟨#[]⟩, .slice none 0 0, .slice none 0 0, .string ⟨#[]⟩] (m + 1)).toList = Z at hz hlen
  have hst := run_storeCells_at (P := Try.prog) g o 102 Z 0 cur w hg (by rw [hlen]; omega) hz
  refine ⟨(cur.toList.take o ++ Z ++ cur.toList.drop (o + Z.length)).toArray, ?_, ?_, ?_⟩
  · have hv2 := hv w
    simp only [Nat.add_zero] at hst
    simp [Builtin.clear_, run_underlying Try.underlying34, hv2, Value.cells, hZ, hst]
  · simp only [List.size_toArray, List.length_append, List.length_take, List.length_drop, hlen]
    have : cur.toList.length = cur.size := Array.length_toList
    omega
  · intro x hx
    have : cur.toList.length = cur.size := Array.length_toList
    rw [List.getElem?_toArray, List.append_assoc, List.getElem?_append_left (by rw [List.length_take]; omega), List.getElem?_take_of_lt hx]
    simp
theorem filter_snoc {L : List Nd} {j : Nat} {c : Nd} (h : L[j]? = some c) (p : Nd → Bool) : (L.take (j + 1)).filter p = (L.take j).filter p ++ (if p c then [c] else []) := by
  rw [take_next h, List.filter_append]
  congr 1
  simp only [List.filter_cons, List.filter_nil]
set_option maxRecDepth 100000 in
set_option maxHeartbeats 8000000 in
theorem deleteFunc_any (w0 W : World) (g cap B : Nat) (L : List Nd) (h : RowK (rowTy .items) 102 w0 W g cap L) (hB : B ≤ g) (hN : L.length ≤ 1048576) :
    Calls Try.prog 88 #[.slice (some ⟨g, 0, none⟩) L.length cap, .func (.func 90) #[] #[]] W fun e w' => ∃ v, e = .returned v ∧ LK (rowTy .items) w0 w' (fun q => q = g) v (L.filter fun c => !star c) ∧ Below B W w' := by
  have hcap : L.length ≤ cap := by obtain ⟨cs, _, _, h3, _⟩ := h; exact h3
  have hBW : B ≤ W.heap.size := Nat.le_of_lt (Nat.lt_of_le_of_lt hB h.lt)
  have hlk := h.lk (Nat.le_refl _) hcap
  rw [List.take_length] at hlk
  have hIF := indexFunc_any w0 W _ cap L (hlk.keep (Nat.le_refl _) (fun _ _ _ => rfl) fun _ _ _ => trivial) hN
  go_enter Try.func88, Try.ntmps88
  go_wp2_with fail
  refine hIF.mono ?_
  clear hIF
  rintro e w1 ⟨hb1, ⟨i0, hi0, rfl, hbef, c0, hc0, hs0⟩ | ⟨rfl, hall⟩⟩
  · have hR := h.later hb1
    have hb := hb1.mono hBW
    clear h hlk hb1
    have hne : ((i0 : Int) == -1) = false := by simp
    have h0 : (L.take (i0 + 1)).filter (fun c => !star c) = L.take i0 := by
      rw [filter_snoc hc0, hs0]
      have : (L.take i0).filter (fun c => !star c) = L.take i0 := List.filter_eq_self.2 fun c hc => by
        obtain ⟨k, hk⟩ := List.getElem?_of_mem hc
        have hki : k < i0 := by have := (List.getElem?_eq_some_iff.1 hk).1; rw [List.length_take] at this; omega
        rw [List.getElem?_take_of_lt hki] at hk
        rw [hbef k c hki hk]; rfl
      rw [this]; simp
    have H0 := Lib.hid h0
    clear h0 hbef hc0 hs0
    go_wp2_with fail
    go_loopw [5, 6] (fun a b wr => ∃ (i j : Nat) (R : List Nd), a = .int .i64 (i : Int) ∧ b = .int .i64 (j : Int) ∧ i < j ∧ j ≤ L.length ∧ R.length = L.length ∧ Hid (R.take i = (L.take j).filter fun c => !star c) ∧ Hid (R.drop j = L.drop j) ∧ RowK (rowTy .items) 102 w0 wr g cap R ∧ Below B W wr) (fun _ b _ => L.length - (intOf b).toNat)
    case atStart => exact ⟨i0, i0 + 1, L, rfl, by go_num, by omega, by omega, rfl, H0.out.symm, rfl, hR, hb⟩
    case round =>
      obtain ⟨i, j, R, rfl, rfl, hij, hj, hRl, hT, hD, hR, hb⟩ := hrel
      by_cases hlt : j < L.length
      · have hlt2 : (j : Int) < (L.length : Int) := by omega
        have hLj := List.getElem?_eq_getElem hlt
        have hRj : R[j]? = some L[j] := by
          have h1 : (R.drop j)[0]? = (L.drop j)[0]? := by rw [hD.out]
          rw [List.getElem?_drop, List.getElem?_drop, Nat.add_zero, hLj] at h1
          exact h1
        obtain ⟨ys, hys, hcell⟩ := hR.at hRj
        have hys2 := hys
        obtain ⟨x0, x1, x2, x3, x4, x5, x6, x7, x8, x9, ax10, nx10, px10, ax11, nx11, px11, x12, rfl, e0, -⟩ := hys.itemRow
        have z0 : wr.cell? ⟨g, j * 13, none⟩ = some (.bool x0) := hcell 0 _ rfl
        have z1 : wr.cell? ⟨g, j * 13 + 1, none⟩ = some (.string x1) := hcell 1 _ rfl
        have z2 : wr.cell? ⟨g, j * 13 + 2, none⟩ = some (.int .i64 x2) := hcell 2 _ rfl
        have z3 : wr.cell? ⟨g, j * 13 + 3, none⟩ = some (.int .i64 x3) := hcell 3 _ rfl
        have z4 : wr.cell? ⟨g, j * 13 + 4, none⟩ = some (.bool x4) := hcell 4 _ rfl
        have z5 : wr.cell? ⟨g, j * 13 + 5, none⟩ = some (.int .i64 x5) := hcell 5 _ rfl
        have z6 : wr.cell? ⟨g, j * 13 + 6, none⟩ = some (.int .i64 x6) := hcell 6 _ rfl
        have z7 : wr.cell? ⟨g, j * 13 + 7, none⟩ = some (.string x7) := hcell 7 _ rfl
        have z8 : wr.cell? ⟨g, j * 13 + 8, none⟩ = some (.string x8) := hcell 8 _ rfl
        have z9 : wr.cell? ⟨g, j * 13 + 9, none⟩ = some (.string x9) := hcell 9 _ rfl
        have z10 : wr.cell? ⟨g, j * 13 + 10, none⟩ = some (.slice ax10 nx10 px10) := hcell 10 _ rfl
        have z11 : wr.cell? ⟨g, j * 13 + 11, none⟩ = some (.slice ax11 nx11 px11) := hcell 11 _ rfl
        have z12 : wr.cell? ⟨g, j * 13 + 12, none⟩ = some (.string x12) := hcell 12 _ rfl
        clear hcell
        have hst : star L[j] = x0 := by unfold star; rw [e0]; rfl
        have hdn : Hid (∀ R' : List Nd, R'.drop (j + 1) = R.drop (j + 1) → R'.drop (j + 1) = L.drop (j + 1)) := fun R' h1 => by
          rw [h1, ← List.drop_drop, ← List.drop_drop, hD.out]
        have HS := Lib.hid hst
        have HLj := Lib.hid hLj
        clear e0 hst hRj hLj hys
        have bx0 := RowAt.new wr 102 #[.bool x0, .string x1, .int .i64 x2, .int .i64 x3, .bool x4, .int .i64 x5, .int .i64 x6, .string x7, .string x8, .string x9, .slice ax10 nx10 px10, .slice ax11 nx11 px11, .string x12]
        have hal : Below wr.heap.size wr (wr.alloc (.cells #[.bool x0, .string x1, .int .i64 x2, .int .i64 x3, .bool x4, .int .i64 x5, .int .i64 x6, .string x7, .string x8, .string x9, .slice ax10 nx10 px10, .slice ax11 nx11 px11, .string x12] 102)) := (Below.refl _ _).alloc (Nat.le_refl _) _
        cases x0
        case true =>
          go_wp2_with fail
          refine (isStar_any true x1 x2 x3 x4 x5 x6 x7 x8 x9 ax10 nx10 px10 ax11 nx11 px11 x12 (wr.alloc (.cells #[.bool true, .string x1, .int .i64 x2, .int .i64 x3, .bool x4, .int .i64 x5, .int .i64 x6, .string x7, .string x8, .string x9, .slice ax10 nx10 px10, .slice ax11 nx11 px11, .string x12] 102))).mono ?_
          rintro e w2 ⟨rfl, hb2⟩
          have hR1 := (hR.later hal).later hb2
          have hB1 : Below B W w2 := (hb.trans (hal.mono (by have := hR.lt; omega))).trans (hb2.mono (by have := hR.lt; simp; omega))
          clear hal hb2 bx0 hR hb z0 z1 z2 z3 z4 z5 z6 z7 z8 z9 z10 z11 z12
          go_wp2_with fail
          go_roundw
          case rel =>
            refine ⟨i, j + 1, R, rfl, by go_num, by omega, by omega, hRl, ?_, hdn R rfl, hR1, hB1⟩
            show R.take i = _
            rw [filter_snoc HLj.out, HS.out, hT.out]; simp
          case measure => simp [intOf]; omega
        case false =>
          go_wp2_with fail
          refine (isStar_any false x1 x2 x3 x4 x5 x6 x7 x8 x9 ax10 nx10 px10 ax11 nx11 px11 x12 (wr.alloc (.cells #[.bool false, .string x1, .int .i64 x2, .int .i64 x3, .bool x4, .int .i64 x5, .int .i64 x6, .string x7, .string x8, .string x9, .slice ax10 nx10 px10, .slice ax11 nx11 px11, .string x12] 102))).mono ?_
          rintro e w1 ⟨rfl, hb2⟩
          have hR1 := (hR.later hal).later hb2
          have hg := hR.lt
          have hB1 : Below B W w1 := (hb.trans (hal.mono (by omega))).trans (hb2.mono (by simp; omega))
          have box := bx0.later hb2
          have hi : i < R.length := by omega
          have y0 := box.cell (i := 0) (v := .bool false) rfl
          have y1 := box.cell (i := 1) (v := .string x1) rfl
          have y2 := box.cell (i := 2) (v := .int .i64 x2) rfl
          have y3 := box.cell (i := 3) (v := .int .i64 x3) rfl
          have y4 := box.cell (i := 4) (v := .bool x4) rfl
          have y5 := box.cell (i := 5) (v := .int .i64 x5) rfl
          have y6 := box.cell (i := 6) (v := .int .i64 x6) rfl
          have y7 := box.cell (i := 7) (v := .string x7) rfl
          have y8 := box.cell (i := 8) (v := .string x8) rfl
          have y9 := box.cell (i := 9) (v := .string x9) rfl
          have y10 := box.cell (i := 10) (v := .slice ax10 nx10 px10) rfl
          have y11 := box.cell (i := 11) (v := .slice ax11 nx11 px11) rfl
          have y12 := box.cell (i := 12) (v := .string x12) rfl
          obtain ⟨u0, p0, v0⟩ : ∃ u, w1.cell? ⟨g, i * 13, none⟩ = some u ∧ w1.frozen? ⟨g, i * 13, none⟩ = false := hR1.spot hi (m := 0) (by decide)
          obtain ⟨u1, p1, v1⟩ : ∃ u, w1.cell? ⟨g, i * 13 + 1, none⟩ = some u ∧ w1.frozen? ⟨g, i * 13 + 1, none⟩ = false := hR1.spot hi (m := 1) (by decide)
          obtain ⟨u2, p2, v2⟩ : ∃ u, w1.cell? ⟨g, i * 13 + 2, none⟩ = some u ∧ w1.frozen? ⟨g, i * 13 + 2, none⟩ = false := hR1.spot hi (m := 2) (by decide)
          obtain ⟨u3, p3, v3⟩ : ∃ u, w1.cell? ⟨g, i * 13 + 3, none⟩ = some u ∧ w1.frozen? ⟨g, i * 13 + 3, none⟩ = false := hR1.spot hi (m := 3) (by decide)
          obtain ⟨u4, p4, v4⟩ : ∃ u, w1.cell? ⟨g, i * 13 + 4, none⟩ = some u ∧ w1.frozen? ⟨g, i * 13 + 4, none⟩ = false := hR1.spot hi (m := 4) (by decide)
          obtain ⟨u5, p5, v5⟩ : ∃ u, w1.cell? ⟨g, i * 13 + 5, none⟩ = some u ∧ w1.frozen? ⟨g, i * 13 + 5, none⟩ = false := hR1.spot hi (m := 5) (by decide)
          obtain ⟨u6, p6, v6⟩ : ∃ u, w1.cell? ⟨g, i * 13 + 6, none⟩ = some u ∧ w1.frozen? ⟨g, i * 13 + 6, none⟩ = false := hR1.spot hi (m := 6) (by decide)
          obtain ⟨u7, p7, v7⟩ : ∃ u, w1.cell? ⟨g, i * 13 + 7, none⟩ = some u ∧ w1.frozen? ⟨g, i * 13 + 7, none⟩ = false := hR1.spot hi (m := 7) (by decide)
          obtain ⟨u8, p8, v8⟩ : ∃ u, w1.cell? ⟨g, i * 13 + 8, none⟩ = some u ∧ w1.frozen? ⟨g, i * 13 + 8, none⟩ = false := hR1.spot hi (m := 8) (by decide)
          obtain ⟨u9, p9, v9⟩ : ∃ u, w1.cell? ⟨g, i * 13 + 9, none⟩ = some u ∧ w1.frozen? ⟨g, i * 13 + 9, none⟩ = false := hR1.spot hi (m := 9) (by decide)
          obtain ⟨u10, p10, v10⟩ : ∃ u, w1.cell? ⟨g, i * 13 + 10, none⟩ = some u ∧ w1.frozen? ⟨g, i * 13 + 10, none⟩ = false := hR1.spot hi (m := 10) (by decide)
          obtain ⟨u11, p11, v11⟩ : ∃ u, w1.cell? ⟨g, i * 13 + 11, none⟩ = some u ∧ w1.frozen? ⟨g, i * 13 + 11, none⟩ = false := hR1.spot hi (m := 11) (by decide)
          obtain ⟨u12, p12, v12⟩ : ∃ u, w1.cell? ⟨g, i * 13 + 12, none⟩ = some u ∧ w1.frozen? ⟨g, i * 13 + 12, none⟩ = false := hR1.spot hi (m := 12) (by decide)
          have hR2 := hR1.put hi hys2
          have hB2 := puts_below (B := g) hB [.bool false, .string x1, .int .i64 x2, .int .i64 x3, .bool x4, .int .i64 x5, .int .i64 x6, .string x7, .string x8, .string x9, .slice ax10 nx10 px10, .slice ax11 nx11 px11, .string x12] (i * 13) hB1
          clear hal hb2 bx0 box hR hb hR1 hB1 z0 z1 z2 z3 z4 z5 z6 z7 z8 z9 z10 z11 z12
          go_wp2_with fail
          rw [show (((((((((((((w1.setCell ⟨g, i * 13, none⟩ (.bool false)).setCell ⟨g, i * 13 + 1, none⟩ (.string x1)).setCell ⟨g, i * 13 + 2, none⟩ (.int .i64 x2)).setCell ⟨g, i * 13 + 3, none⟩ (.int .i64 x3)).setCell ⟨g, i * 13 + 4, none⟩ (.bool x4)).setCell ⟨g, i * 13 + 5, none⟩ (.int .i64 x5)).setCell ⟨g, i * 13 + 6, none⟩ (.int .i64 x6)).setCell ⟨g, i * 13 + 7, none⟩ (.string x7)).setCell ⟨g, i * 13 + 8, none⟩ (.string x8)).setCell ⟨g, i * 13 + 9, none⟩ (.string x9)).setCell ⟨g, i * 13 + 10, none⟩ (.slice ax10 nx10 px10)).setCell ⟨g, i * 13 + 11, none⟩ (.slice ax11 nx11 px11)).setCell ⟨g, i * 13 + 12, none⟩ (.string x12)) = puts g (i * 13) [.bool false, .string x1, .int .i64 x2, .int .i64 x3, .bool x4, .int .i64 x5, .int .i64 x6, .string x7, .string x8, .string x9, .slice ax10 nx10 px10, .slice ax11 nx11 px11, .string x12] w1 from rfl]
          replace hR2 : RowK (rowTy .items) 102 w0 (puts g (i * 13) [.bool false, .string x1, .int .i64 x2, .int .i64 x3, .bool x4, .int .i64 x5, .int .i64 x6, .string x7, .string x8, .string x9, .slice ax10 nx10 px10, .slice ax11 nx11 px11, .string x12] w1) g cap (R.set i L[j]) := hR2
          generalize puts g (i * 13) [.bool false, .string x1, .int .i64 x2, .int .i64 x3, .bool x4, .int .i64 x5, .int .i64 x6, .string x7, .string x8, .string x9, .slice ax10 nx10 px10, .slice ax11 nx11 px11, .string x12] w1 = w3 at hR2 hB2 ⊢
          go_roundw
          case rel =>
            refine ⟨i + 1, j + 1, R.set i L[j], by go_num, by go_num, by omega, by omega, by rw [List.length_set]; exact hRl, ?_, hdn _ (by rw [List.drop_set_of_lt (by omega)]), hR2, hB2⟩
            show (R.set i L[j]).take (i + 1) = _
            rw [filter_snoc HLj.out, HS.out, take_next (List.getElem?_set_self hi), List.take_set_of_le (Nat.le_refl _), hT.out]; simp
          case measure => simp [intOf]; omega
      · obtain rfl : j = L.length := by omega
        clear hlt hj
        have hni : 0 < L.length - i := by omega
        obtain ⟨cs, c1, c2, c3, c4⟩ := hR
        have hRc : RowK (rowTy .items) 102 w0 wr g cap R := ⟨cs, c1, c2, c3, c4⟩
        have hfit : i * 13 + (L.length - i) * 13 ≤ cs.size := by
          rw [c2]; show _ ≤ cap * 13
          omega
        have hcl := fun ty => run_clear_items wr g (i * 13) (L.length - i) (cap - i) cs ty c1 hni hfit
        obtain ⟨cs', k1, k2, k3⟩ := hcl 0
        have hrow : RowAt (wr.setRow g cs') g 102 cs' := setRow_heap wr g cs cs' _ _ c1
        have hB3 : Below B W (wr.setRow g cs') := hb.trans ⟨rfl, rfl, rfl, by simp, fun k hk => setRow_other wr g k _ (by omega)⟩
        have hcut := hRc.cut (i := i) (by omega) _ hrow (k2.trans c2) (fun cs2 h2 x hx => by
          have e : cs2 = cs := by have h3 := h2.symm.trans c1; injection h3 with h3; injection h3
          rw [e]; exact k3 x hx)
        rw [hT.out, List.take_length] at hcut
        have hfl : (L.filter fun c => !star c).length = i := by
          have := congrArg List.length hT.out
          rw [List.length_take, List.take_length] at this
          omega
        have hlk2 := hcut.lk (Nat.le_refl _) (show _ ≤ cap by omega)
        rw [List.take_length, hfl] at hlk2
        clear hcl c4 hRc hcut hT hD
        go_wp2_with fail
        go_ret
        exact ⟨_, rfl, hlk2, hB3⟩
  · have he : (L.filter fun c => !star c) = L := List.filter_eq_self.2 fun c hc => by rw [hall c hc]; rfl
    have HL := Lib.hid he
    clear he hall
    go_wp2_with fail
    go_ret
    refine ⟨_, rfl, ?_, hb1.mono hBW⟩
    rw [HL.out]
    exact hlk.later hb1
theorem RowK.of_owns {tys : List Ty} {T : TypeId} {w0 w : World} {B n : Nat} {v : Value} {C : List Value} {L : List Nd} (h : w.ownsRow B T tys.length v n C) (hC : OutK tys w0 C L) (hn : L.length = n) :
    (v = .slice none 0 0 ∧ L = []) ∨ ∃ g cap, v = .slice (some ⟨g, 0, none⟩) n cap ∧ B ≤ g ∧ RowK tys T w0 w g cap L := by
  rcases h.2 with ⟨e, h0⟩ | ⟨g, cap, cur, e, hg, hrow, hnc, hcm, hsz, hcur⟩
  · exact .inl ⟨e, List.eq_nil_of_length_eq_zero (by omega)⟩
  · refine .inr ⟨g, cap, e, hg, cur, hrow, hsz, by omega, fun k c hk => ?_⟩
    have hkl : k < L.length := (List.getElem?_eq_some_iff.1 hk).1
    have hlen : k * tys.length + tys.length ≤ C.length := by
      rw [hC.1]
      have := Nat.mul_le_mul_right tys.length (show k + 1 ≤ L.length by omega)
      rw [Nat.add_mul, Nat.one_mul] at this
      exact this
    refine ⟨(C.drop (k * tys.length)).take tys.length, OutK.one (by rw [List.length_take, List.length_drop]; omega) fun m hm => ?_, fun m u hm => ?_⟩
    · obtain ⟨y, hy, hr⟩ := hC.2 k c hk m hm
      exact ⟨y, by rw [List.getElem?_take_of_lt hm, List.getElem?_drop]; exact hy, hr⟩
    · have hml : m < tys.length := by have := (List.getElem?_eq_some_iff.1 hm).1; rw [List.length_take] at this; omega
      rw [List.getElem?_take_of_lt hml, List.getElem?_drop, ← hcur, List.getElem?_take_of_lt (by rw [← hn]; exact mul_lt_of hkl hml)] at hm
      simpa using hm
theorem Try.infoItm : (Try.prog.info? 102).map (fun i => (i.zero, i.size, i.bytes)) = some (some (.agg #[.bool false, .string ByteArray.empty, .int .i64 0, .int .i64 0, .bool false, .int .i64 0, .int .i64 0, .string ByteArray.empty, .string ByteArray.empty, .string ByteArray.empty, .slice none 0 0, .slice none 0 0, .string ByteArray.empty]), 13, 176) := by kernel_rfl
set_option maxRecDepth 100000 in
set_option maxHeartbeats 4000000 in
theorem clone_any (w0 W : World) (a : Option Addr) (cap : Nat) (L : List Nd) (G : Nat → Prop) (h : LK (rowTy .items) w0 W G (.slice a L.length cap) L) (hN : L.length ≤ 1048576) :
    Calls Try.prog 89 #[.slice a L.length cap] W fun e w' => ∃ v, e = .returned v ∧ Below W.heap.size W w' ∧ ((v = .slice none 0 0 ∧ L = []) ∨ ∃ g cap', v = .slice (some ⟨g, 0, none⟩) L.length cap' ∧ W.heap.size ≤ g ∧ RowK (rowTy .items) 102 w0 w' g cap' L) := by
  obtain ⟨a', cap', C, e, hC, h⟩ := h
  injection e with e1 _ e3
  subst e1; subst e3
  cases a with
  | none =>
    have hL : L = [] := by
      rcases h with h | ⟨_, _, h, _⟩
      · exact h
      · cases h
    subst hL
    have hnil := Lib.run_eql_slice_nil (P := Try.prog) W 34 102 none 0 cap 0 0 Try.underlying34
    simp only [List.length_nil]
    go_enter Try.func89, Try.ntmps89
    go_wp2_with fail
    go_ret
    exact ⟨_, rfl, Below.refl _ _, .inl (by simp)⟩
  | some ad =>
    obtain ⟨i, hi, hz, hsize, hby⟩ := info_parts Try.infoItm
    have hcl : C.length = L.length * 13 := hC.1
    have hcell : ∀ j u, C[j]? = some u → (W.alloc (.cells #[] 102)).cell? (ad.add j) = some u := by
      intro j u hj
      rcases h with rfl | ⟨g, o, e, _, _, hlt, hc⟩
      · rw [List.length_nil, Nat.zero_mul] at hcl
        have := (List.getElem?_eq_some_iff.1 hj).1
        omega
      · injection e with e
        subst e
        have hadd : (⟨g, o, none⟩ : Addr).add j = ⟨g, o + j, none⟩ := by unfold Addr.add; split <;> simp_all
        rw [hadd]
        have h1 := hc j u hj
        exact (((Below.refl _ W).alloc (Nat.le_refl _) _).cell (p := ⟨g, o + j, none⟩) hlt).trans h1
    have hown := World.ownsRow_lit W (e := 102) (size := 13) #[] 0 (Nat.le_refl _) (by decide) (by rfl)
    have hones := hC.ones
    have hout := Lib.hid hC
    have HH := Lib.hid hcell
    have HO := Lib.hid hones
    have hcl2 := Lib.hid hcl
    have hnil := Lib.run_eql_slice_nil (P := Try.prog) W 34 102 (some ad) L.length cap 0 0 Try.underlying34
    clear hC h hcell hones hcl
    go_enter Try.func89, Try.ntmps89
    go_wp2_with (at_builtin; refine wpList_append_own _ rfl (.tmp 5) (.tmp 6) 34 rfl W.heap.size 102 i _ 13 176 Try.underlying34 hi hz hsize hby rfl (by decide) (.slice (some ⟨W.heap.size, 0, none⟩) 0 0) 0 [] rfl hown ad L.length cap C rfl hcl2.out HH.out HO.out (by unfold maxLen; omega) (by omega) (by simp) ?_; intro v' w' hown' hgrow _)
    go_ret
    refine ⟨_, rfl, ((Below.refl _ W).alloc (Nat.le_refl _) _).grown hgrow (by simp) (fun q hq => by cases hq; exact Nat.le_refl _), ?_⟩
    rw [Nat.zero_add, List.nil_append] at hown'
    exact RowK.of_owns (tys := rowTy .items) hown' hout.out rfl
theorem exprsIn_len (n : Nat) (k : Nat) (f : Nat → Nat → Dat) : ((Dat.sl n k f).els.filter fun c => !star c).map (cut 2) = exItems (.sl n k f) := rfl
theorem Rd.lkK {w : World} {n : Nat} {f : Nat → Nat → Dat} {a : Option Addr} {m cap : Nat} {ty : Ty} {G : Nat → Prop} (h : Rd w 0 (.slice a m cap) (.sl n (rowTy ty).length f)) (hf : Fits (.sl n (rowTy ty).length f) ty) (hG : ∀ g, g < w.heap.size → G g) :
    m = n ∧ LK (rowTy ty) w w G (.slice a n cap) (Dat.sl n (rowTy ty).length f).els := by
  obtain ⟨_, _, _, hfit⟩ := hf
  obtain ⟨a', cap', e, hc, hz, h⟩ := h
  injection e with e1 e2 e3
  subst e1; subst e2; subst e3
  refine ⟨rfl, ?_⟩
  have hlen : (Dat.sl m (rowTy ty).length f).els.length = m := els_len _ _ _
  rcases h with rfl | ⟨g, o, rfl, _, hg, hcell⟩
  · refine ⟨a, cap, [], by rw [hlen], ?_, .inl rfl⟩
    exact OutK.nil _ _
  · refine ⟨_, cap, (List.range (m * (rowTy ty).length)).map fun x => (w.cell? ⟨g, o + x, none⟩).getD undef, by rw [hlen], ⟨by rw [hlen]; simp, fun i c hi j hj => ?_⟩, .inr ⟨g, o, rfl, by rw [hlen]; exact hc, hG g hg, hg, fun j u hj => ?_⟩⟩
    · have him : i < m := by have := (List.getElem?_eq_some_iff.1 hi).1; omega
      obtain ⟨y, hy, hr⟩ := hcell i him j hj
      have hcf : c = f i := by simpa [Dat.els, Dat.len, Dat.el, him] using hi.symm
      subst hcf
      refine ⟨y, ?_, hr, hfit i him j hj⟩
      rw [List.getElem?_map, List.getElem?_range (mul_lt_of him hj)]
      rw [Nat.add_assoc] at hy
      simp [hy]
    · have hj2 : j < m * (rowTy ty).length := by have := (List.getElem?_eq_some_iff.1 hj).1; simpa using this
      rw [List.getElem?_map, List.getElem?_range hj2] at hj
      have hk0 : 0 < (rowTy ty).length := by
        rcases Nat.eq_zero_or_pos (rowTy ty).length with h | h
        · rw [h, Nat.mul_zero] at hj2; omega
        · exact h
      obtain ⟨y, hy, _⟩ := hcell (j / (rowTy ty).length) (by rw [Nat.div_lt_iff_lt_mul hk0]; exact hj2) (j % (rowTy ty).length) (Nat.mod_lt _ hk0)
      rw [Nat.add_assoc, show j / (rowTy ty).length * (rowTy ty).length + j % (rowTy ty).length = j by rw [Nat.mul_comm]; exact Nat.div_add_mod _ _] at hy
      rw [hy]
      simpa [hy] using hj
theorem deleteNil_any (W : World) :
    Calls Try.prog 88 #[.slice none 0 0, .func (.func 90) #[] #[]] W fun e w' => e = .returned (.slice none 0 0) ∧ Below W.heap.size W w' := by
  have h : LK (rowTy .items) W W (fun _ => True) (.slice none ([] : List Nd).length 0) [] := ⟨none, 0, [], rfl, OutK.nil _ _, .inl rfl⟩
  have hIF := indexFunc_any W W none 0 [] h (by decide)
  rw [List.length_nil] at hIF
  go_enter Try.func88, Try.ntmps88
  go_wp2_with fail
  refine hIF.mono ?_
  clear hIF
  rintro e w1 ⟨hb1, ⟨i0, hi0, _⟩ | ⟨rfl, hall⟩⟩
  · exact absurd hi0 (by omega)
  · clear hall h
    go_wp2_with fail
    go_ret
    exact ⟨rfl, hb1⟩
theorem OutE.low {w0 wr : World} {B B' : Nat} {v : Value} {L : List Nd} (h : OutE w0 wr B v L) (hB : B' ≤ B) : OutE w0 wr B' v L := by
  obtain ⟨C, hC, hP⟩ := h
  refine ⟨C, ⟨hC.1, hC.2.imp id ?_⟩, hP⟩
  rintro ⟨g, cap, cur, e, hg, hr⟩
  exact ⟨g, cap, cur, e, Nat.le_trans hB hg, hr⟩
set_option maxRecDepth 100000 in
set_option maxHeartbeats 8000000 in
theorem exprsIn_any (w0 W : World) (c0 : Bool) (a1 : Option Addr) (n1 p1 : Nat) (a2 : Option Addr) (n2 p2 : Nat) (a3 : Option Addr) (n3 p3 : Nat) (a4 : Option Addr) (n4 p4 : Nat) (c5 : Int) (f1 f2 f3 f4 : Nat → Nat → Dat)
    (hb0 : Below w0.heap.size w0 W) (r1 : Rd w0 0 (.slice a1 n1 p1) (.sl n1 13 f1)) (q1 : Fits (.sl n1 13 f1) .items) (r2 : Rd w0 0 (.slice a2 n2 p2) (.sl n2 3 f2)) (q2 : Fits (.sl n2 3 f2) .sources)
    (r3 : Rd w0 0 (.slice a3 n3 p3) (.sl n3 10 f3)) (q3 : Fits (.sl n3 10 f3) .exprs) (r4 : Rd w0 0 (.slice a4 n4 p4) (.sl n4 11 f4)) (q4 : Fits (.sl n4 11 f4) .keys)
    (hN : n1 + (exFrom (.sl n2 3 f2)).length + n3 + n4 ≤ 1048576) :
    Calls Try.prog 46 #[.agg #[.bool c0, .slice a1 n1 p1, .slice a2 n2 p2, .slice a3 n3 p3, .slice a4 n4 p4, .int .i64 c5]] W fun e w' => ∃ v, e = .returned v ∧
      OutE w0 w' (W.heap.size + 1) v (((exItems (.sl n1 13 f1) ++ exFrom (.sl n2 3 f2)) ++ (Dat.sl n3 10 f3).els) ++ (Dat.sl n4 11 f4).els) ∧ Below W.heap.size W w' := by
  obtain ⟨_, hlk⟩ := Rd.lkK (ty := .items) (G := fun g => g < w0.heap.size) r1 q1 fun g hg => hg
  have hl1 : (Dat.sl n1 (rowTy .items).length f1).els.length = n1 := els_len _ _ _
  rw [← exprsIn_len]
  have hx : (Dat.sl n1 13 f1).els = (Dat.sl n1 (rowTy .items).length f1).els := rfl
  rw [hx]
  clear hx
  generalize (Dat.sl n1 (rowTy .items).length f1).els = L at hlk hl1 ⊢
  subst hl1
  clear r1 q1 f1
  have hlW := hlk.keep (w' := W) (G' := fun g => g < w0.heap.size) hb0.size (fun g _ hlt => hb0.block g hlt) fun _ h _ => h
  have HB := BX.new W 38 #[.bool c0, .slice a1 L.length p1, .slice a2 n2 p2, .slice a3 n3 p3, .slice a4 n4 p4, .int .i64 c5]
  go_enter Try.func46, Try.ntmps46
  have b1 := HB.box.cell (i := 1) (v := .slice a1 L.length p1) rfl
  go_wp2_with fail
  generalize W.alloc (.cells #[.bool c0, .slice a1 L.length p1, .slice a2 n2 p2, .slice a3 n3 p3, .slice a4 n4 p4, .int .i64 c5] 38) = w1 at HB b1 ⊢
  clear b1
  have hl1 := hlW.later ((Below.refl _ _).trans (HB.b))
  refine (clone_any w0 w1 a1 p1 L _ hl1 (by omega)).mono ?_
  rintro e w2 ⟨v, rfl, hb2, hcl⟩
  have HB2 := HB.next hb2
  have hs1 : W.heap.size < w1.heap.size := HB.box.lt
  have hf : (L.filter fun c => !star c).length ≤ L.length := List.length_filter_le _ _
  obtain ⟨w3pf⟩ : Nonempty (Calls Try.prog 88 #[v, .func (.func 90) #[] #[]] w2 fun e w' => ∃ v, e = .returned v ∧ LK (rowTy .items) w0 w' (fun q => q ≠ W.heap.size) v (L.filter fun c => !star c) ∧ Below w1.heap.size w2 w') := by
    rcases hcl with ⟨rfl, rfl⟩ | ⟨g, cap', rfl, hg, hrow⟩
    · refine ⟨(deleteNil_any w2).mono ?_⟩
      rintro e w' ⟨rfl, hb⟩
      exact ⟨_, rfl, ⟨none, 0, [], rfl, OutK.nil _ _, .inl rfl⟩, hb.mono hb2.size⟩
    · refine ⟨(deleteFunc_any w0 w2 g cap' w1.heap.size L hrow hg (by omega)).mono ?_⟩
      rintro e w' ⟨v, rfl, hl, hb⟩
      exact ⟨_, rfl, hl.keep (Nat.le_refl _) (fun _ _ _ => rfl) (fun q hq _ => by omega), hb⟩
  obtain ⟨v2, hv2⟩ : ∃ v2, v2 = v := ⟨_, rfl⟩
  rw [← hv2] at w3pf ⊢
  clear hcl hv2
  go_wp2_with fail
  refine w3pf.mono ?_
  clear w3pf
  rintro e w3 ⟨v3, rfl, hl3, hb3⟩
  obtain ⟨a3', p3', rfl⟩ := hl3.slice
  have HB3 : RowAt w3 W.heap.size 38 #[.bool c0, .slice a1 L.length p1, .slice a2 n2 p2, .slice a3 n3 p3, .slice a4 n4 p4, .int .i64 c5] := (hb3.block _ hs1).trans HB2.box
  have hbW : Below W.heap.size W w3 := HB2.b.trans (hb3.mono (Nat.le_of_lt hs1))
  have k1 := HB3.cell (i := 1) (v := .slice a1 L.length p1) rfl
  have k2 := HB3.soft 1
  have R4 : RowAt (w3.setCell ⟨W.heap.size, 1, none⟩ (.slice a3' (L.filter fun c => !star c).length p3')) W.heap.size 38 #[.bool c0, .slice a3' (L.filter fun c => !star c).length p3', .slice a2 n2 p2, .slice a3 n3 p3, .slice a4 n4 p4, .int .i64 c5] := HB3.set 1 _
  have x0 := R4.cell (i := 0) (v := .bool c0) rfl
  have x1 := R4.cell (i := 1) (v := .slice a3' (L.filter fun c => !star c).length p3') rfl
  have x2 := R4.cell (i := 2) (v := .slice a2 n2 p2) rfl
  have x3 := R4.cell (i := 3) (v := .slice a3 n3 p3) rfl
  have x4 := R4.cell (i := 4) (v := .slice a4 n4 p4) rfl
  have x5 := R4.cell (i := 5) (v := .int .i64 c5) rfl
  have hl4 : LK (rowTy .items) w0 (w3.setCell ⟨W.heap.size, 1, none⟩ (.slice a3' (L.filter fun c => !star c).length p3')) (fun _ => True) (.slice a3' (L.filter fun c => !star c).length p3') (L.filter fun c => !star c) :=
    hl3.keep (by simp) (fun q hq _ => heap_setCell_other w3 ⟨W.heap.size, 1, none⟩ q _ hq) fun _ _ _ => trivial
  have hW4 : Below W.heap.size W (w3.setCell ⟨W.heap.size, 1, none⟩ (.slice a3' (L.filter fun c => !star c).length p3')) := hbW.setCell (p := ⟨W.heap.size, 1, none⟩) (Nat.le_refl _) _
  have hb4 := hb0.trans (hW4.mono hb0.size)
  clear hl3 hb3 hb2 hbW HB3 HB2 HB hl1 hlW hlk
  generalize hLf : (L.filter fun c => !star c) = Lf at *
  go_wp2_with fail
  generalize w3.setCell ⟨W.heap.size, 1, none⟩ (.slice a3' Lf.length p3') = w4 at *
  refine (slots_any w0 w4 c0 a3' p3' Lf a2 n2 p2 a3 n3 p3 a4 n4 p4 c5 f2 f3 f4 hb4 hl4 r2 q2 r3 q3 r4 q4 (by omega)).mono ?_
  rintro e w5 ⟨v5, rfl, ho, hb5⟩
  clear x0 x1 x2 x3 x4 x5 k1 k2
  go_wp2_with fail
  go_ret
  subst hLf
  exact ⟨_, rfl, ho.low (B' := W.heap.size + 1) (by have := R4.lt; omega), hW4.trans (hb5.mono hW4.size)⟩
end Go.Proofs.Ytgihklohhjhjbaa
