
/- slices.Clone, IndexFunc and DeleteFunc at the items of a query, as this program calls them; the program's exprsIn. -/
import Derived.Test.YtgihklohhjhjbaaSlots
namespace Go.Proofs.Ytgihklohhjhjbaa
open Go.RowKit

/-- block g holds the elements R -/
def RowK (tys : List Ty) (T : TypeId) (w0 w : World) (g cap : Nat) (R : List Nd) : Prop :=
  ∃ cs, RowAt w g T cs ∧ cs.size = cap * tys.length ∧ R.length ≤ cap ∧ ∀ k c, R[k]? = some c → ∃ ys, OutK tys w0 ys [c] ∧ ∀ m u, ys[m]? = some u → cs[k * tys.length + m]? = some u
section
variable {tys : List Ty} {T : TypeId} {w0 w : World} {g cap : Nat} {R : List Nd}
theorem RowK.lt (h : RowK tys T w0 w g cap R) : g < w.heap.size := by obtain ⟨cs, h1, _⟩ := h; exact h1.lt
theorem RowK.later {w' : World} (h : RowK tys T w0 w g cap R) (hb : Below w.heap.size w w') : RowK tys T w0 w' g cap R := by
  obtain ⟨cs, h1, h2⟩ := h
  exact ⟨cs, h1.later hb, h2⟩
theorem RowK.at {k : Nat} {c : Nd} (h : RowK tys T w0 w g cap R) (hk : R[k]? = some c) : ∃ ys, OutK tys w0 ys [c] ∧ ∀ m u, ys[m]? = some u → w.cell? ⟨g, k * tys.length + m, none⟩ = some u := by
  obtain ⟨cs, h1, _, _, h2⟩ := h
  obtain ⟨ys, hy, hc⟩ := h2 k c hk
  exact ⟨ys, hy, fun m u hm => h1.cell (hc m u hm)⟩
theorem RowK.spot {k m : Nat} (h : RowK tys T w0 w g cap R) (hk : k < R.length) (hm : m < tys.length) : ∃ u, w.cell? ⟨g, k * tys.length + m, none⟩ = some u ∧ w.frozen? ⟨g, k * tys.length + m, none⟩ = false := by
  obtain ⟨cs, h1, h2, h3, _⟩ := h
  have hlt : k * tys.length + m < cs.size := by rw [h2]; exact mul_lt_of (by omega) hm
  exact ⟨cs[k * tys.length + m], h1.cell (Array.getElem?_eq_getElem hlt), h1.soft _⟩
theorem putsA_high : ∀ (ys : List Value) (o : Nat) (cs : Array Value) (x : Nat), o + ys.length ≤ x → (putsA o ys cs)[x]? = cs[x]?
  | [], _, _, _, _ => rfl
  | y :: ys, o, cs, x, h => by
    simp only [List.length_cons] at h
    unfold putsA; rw [putsA_high ys (o + 1) _ x (by omega), Array.getElem?_setIfInBounds_ne (by omega)]
theorem RowK.put {i : Nat} {c : Nd} {ys : List Value} (h : RowK tys T w0 w g cap R) (hi : i < R.length) (hy : OutK tys w0 ys [c]) : RowK tys T w0 (puts g (i * tys.length) ys w) g cap (R.set i c) := by
  obtain ⟨cs, h1, h2, h3, h4⟩ := h
  have hyl : ys.length = tys.length := by have := hy.1; simpa using this
  refine ⟨putsA (i * tys.length) ys cs, puts_row ys _ h1, by rw [putsA_size, h2], by rw [List.length_set]; exact h3, fun k c' hk => ?_⟩
  by_cases e : k = i
  · subst e
    have hc : c = c' := by rw [List.getElem?_set_self hi] at hk; exact Option.some.inj hk
    subst hc
    refine ⟨ys, hy, fun m u hm => ?_⟩
    have hml : m < ys.length := (List.getElem?_eq_some_iff.1 hm).1
    rw [putsA_in ys _ cs m hml (by rw [h2, hyl]; have := Nat.mul_le_mul_right tys.length (show k + 1 ≤ cap by omega); rw [Nat.add_mul, Nat.one_mul] at this; exact this)]
    exact hm
  · rw [List.getElem?_set_ne (Ne.symm e)] at hk
    obtain ⟨zs, hz, hc⟩ := h4 k c' hk
    refine ⟨zs, hz, fun m u hm => ?_⟩
    have hzl : zs.length = tys.length := by have := hz.1; simpa using this
    have hml : m < tys.length := by have := (List.getElem?_eq_some_iff.1 hm).1; omega
    rcases Nat.lt_or_gt_of_ne e with hlt | hgt
    · rw [putsA_low ys _ cs _ (Nat.lt_of_lt_of_le (by have := Nat.mul_le_mul_right tys.length (show k + 1 ≤ i by omega); rw [Nat.add_mul, Nat.one_mul] at this; omega) (Nat.le_refl (i * tys.length)))]; exact hc m u hm
    · rw [putsA_high ys _ cs _ (by rw [hyl]; have := Nat.mul_le_mul_right tys.length (show i + 1 ≤ k by omega); rw [Nat.add_mul, Nat.one_mul] at this; omega)]; exact hc m u hm
theorem RowK.lk {i cap' : Nat} (h : RowK tys T w0 w g cap R) (hi : i ≤ R.length) (hc : i ≤ cap') : LK tys w0 w (fun q => q = g) (.slice (some ⟨g, 0, none⟩) i cap') (R.take i) := by
  have hlt := h.lt
  obtain ⟨cs, h1, h2, h3, h4⟩ := h
  have hl : (R.take i).length = i := by rw [List.length_take]; omega
  have hle : i * tys.length ≤ cs.size := by rw [h2]; exact Nat.mul_le_mul_right _ (by omega)
  refine ⟨_, cap', cs.toList.take (i * tys.length), by rw [hl], ⟨by rw [List.length_take, hl]; have : cs.toList.length = cs.size := Array.length_toList; omega, fun k c hk j hj => ?_⟩, .inr ⟨g, 0, rfl, by rw [hl]; exact hc, rfl, hlt, fun j u hj => ?_⟩⟩
  · have hki : k < i := by have := (List.getElem?_eq_some_iff.1 hk).1; omega
    rw [List.getElem?_take_of_lt hki] at hk
    obtain ⟨ys, hy, hyc⟩ := h4 k c hk
    obtain ⟨y, hyj, hr⟩ := hy.cellOf j hj
    exact ⟨y, by rw [List.getElem?_take_of_lt (mul_lt_of hki hj)]; simpa using hyc j y hyj, hr⟩
  · have hj' : j < i * tys.length := Nat.lt_of_lt_of_le (List.getElem?_eq_some_iff.1 hj).1 (by rw [List.length_take]; exact Nat.min_le_left _ _)
    rw [List.getElem?_take_of_lt hj'] at hj
    rw [Nat.zero_add]
    exact h1.cell (by simpa using hj)
theorem RowK.cut {i : Nat} {cs' : Array Value} (h : RowK tys T w0 w g cap R) (hi : i ≤ R.length) (w' : World) (hr : RowAt w' g T cs') (hs : cs'.size = cap * tys.length) (hl : ∀ cs, RowAt w g T cs → ∀ x, x < i * tys.length → cs'[x]? = cs[x]?) : RowK tys T w0 w' g cap (R.take i) := by
  obtain ⟨cs, h1, h2, h3, h4⟩ := h
  refine ⟨cs', hr, hs, by rw [List.length_take]; omega, fun k c hk => ?_⟩
  have hki : k < i := by have := (List.getElem?_eq_some_iff.1 hk).1; rw [List.length_take] at this; omega
  rw [List.getElem?_take_of_lt hki] at hk
  obtain ⟨ys, hy, hyc⟩ := h4 k c hk
  refine ⟨ys, hy, fun m u hm => ?_⟩
  have hml : m < tys.length := by have := (List.getElem?_eq_some_iff.1 hm).1; have h5 := hy.1; simp at h5; omega
  rw [hl cs h1 _ (mul_lt_of hki hml)]
  exact hyc m u hm
end
/-- is the item a star? -/
def star (c : Nd) : Bool := (c 0).tru
set_option maxHeartbeats 1000000 in
theorem isStar_any (c0 : Bool) (c1 : ByteArray) (c2 : Int) (c3 : Int) (c4 : Bool) (c5 : Int) (c6 : Int) (c7 : ByteArray) (c8 : ByteArray) (c9 : ByteArray) (a10 : Option Addr) (n10 p10 : Nat) (a11 : Option Addr) (n11 p11 : Nat) (c12 : ByteArray) (W : World) : Calls Try.prog 90 #[.agg #[.bool c0, .string c1, .int .i64 c2, .int .i64 c3, .bool c4, .int .i64 c5, .int .i64 c6, .string c7, .string c8, .string c9, .slice a10 n10 p10, .slice a11 n11 p11, .string c12]] W fun e w' => e = .returned (.bool c0) ∧ Below W.heap.size W w' := by
  go_enter Try.func90, Try.ntmps90
  go_wp2_with fail
  go_ret
  exact ⟨rfl, (Below.refl _ _).alloc (Nat.le_refl _) _⟩
set_option maxRecDepth 100000 in
set_option maxHeartbeats 4000000 in
theorem indexFunc_any (w0 W : World) (a : Option Addr) (cap : Nat) (L : List Nd) (h : LK (rowTy .items) w0 W (fun _ => True) (.slice a L.length cap) L) (hN : L.length ≤ 1048576) :
    Calls Try.prog 138 #[.slice a L.length cap, .func (.func 90) #[] #[]] W fun e w' => Below W.heap.size W w' ∧
      ((∃ i : Nat, i < L.length ∧ e = .returned (.int .i64 (i : Int)) ∧ (∀ k c, k < i → L[k]? = some c → star c = false) ∧ ∃ c, L[i]? = some c ∧ star c = true) ∨ (e = .returned (.int .i64 (-1)) ∧ ∀ c ∈ L, star c = false)) := by
  have hB0 := Below.refl W.heap.size W
  go_enter Try.func138, Try.ntmps138
  go_wp2_with fail
  go_loopw [8] (fun i wr => ∃ j : Nat, j ≤ L.length ∧ i = .int .i64 (j : Int) ∧ Below W.heap.size W wr ∧ ∀ k c, k < j → L[k]? = some c → star c = false) (fun i _ => L.length - (intOf i).toNat)
  case atStart => exact ⟨0, by omega, rfl, hB0, fun k c hk => by omega⟩
  case round =>
    obtain ⟨j, hj, rfl, hB, hno⟩ := hrel
    by_cases hlt : j < L.length
    · have hlt2 : (j : Int) < (L.length : Int) := by omega
      have hLj := List.getElem?_eq_getElem hlt
      obtain ⟨g, o, cap', ys, hv, hys, -, hg, hcell⟩ := h.at hLj
      injection hv with e1 _ e3
      subst e1; subst e3
      obtain ⟨x0, x1, x2, x3, x4, x5, x6, x7, x8, x9, ax10, nx10, px10, ax11, nx11, px11, x12, rfl, e0, -⟩ := hys.itemRow
      have z0 : wr.cell? ⟨g, o + j * 13, none⟩ = some (.bool x0) := (hB.cell (p := ⟨g, o + j * 13, none⟩) hg).trans (hcell 0 _ rfl)
      have z1 : wr.cell? ⟨g, o + j * 13 + 1, none⟩ = some (.string x1) := (hB.cell (p := ⟨g, o + j * 13 + 1, none⟩) hg).trans (hcell 1 _ rfl)
      have z2 : wr.cell? ⟨g, o + j * 13 + 2, none⟩ = some (.int .i64 x2) := (hB.cell (p := ⟨g, o + j * 13 + 2, none⟩) hg).trans (hcell 2 _ rfl)
      have z3 : wr.cell? ⟨g, o + j * 13 + 3, none⟩ = some (.int .i64 x3) := (hB.cell (p := ⟨g, o + j * 13 + 3, none⟩) hg).trans (hcell 3 _ rfl)
      have z4 : wr.cell? ⟨g, o + j * 13 + 4, none⟩ = some (.bool x4) := (hB.cell (p := ⟨g, o + j * 13 + 4, none⟩) hg).trans (hcell 4 _ rfl)
      have z5 : wr.cell? ⟨g, o + j * 13 + 5, none⟩ = some (.int .i64 x5) := (hB.cell (p := ⟨g, o + j * 13 + 5, none⟩) hg).trans (hcell 5 _ rfl)
      have z6 : wr.cell? ⟨g, o + j * 13 + 6, none⟩ = some (.int .i64 x6) := (hB.cell (p := ⟨g, o + j * 13 + 6, none⟩) hg).trans (hcell 6 _ rfl)
      have z7 : wr.cell? ⟨g, o + j * 13 + 7, none⟩ = some (.string x7) := (hB.cell (p := ⟨g, o + j * 13 + 7, none⟩) hg).trans (hcell 7 _ rfl)
      have z8 : wr.cell? ⟨g, o + j * 13 + 8, none⟩ = some (.string x8) := (hB.cell (p := ⟨g, o + j * 13 + 8, none⟩) hg).trans (hcell 8 _ rfl)
      have z9 : wr.cell? ⟨g, o + j * 13 + 9, none⟩ = some (.string x9) := (hB.cell (p := ⟨g, o + j * 13 + 9, none⟩) hg).trans (hcell 9 _ rfl)
      have z10 : wr.cell? ⟨g, o + j * 13 + 10, none⟩ = some (.slice ax10 nx10 px10) := (hB.cell (p := ⟨g, o + j * 13 + 10, none⟩) hg).trans (hcell 10 _ rfl)
      have z11 : wr.cell? ⟨g, o + j * 13 + 11, none⟩ = some (.slice ax11 nx11 px11) := (hB.cell (p := ⟨g, o + j * 13 + 11, none⟩) hg).trans (hcell 11 _ rfl)
      have z12 : wr.cell? ⟨g, o + j * 13 + 12, none⟩ = some (.string x12) := (hB.cell (p := ⟨g, o + j * 13 + 12, none⟩) hg).trans (hcell 12 _ rfl)
      clear hcell
      have hst : star L[j] = x0 := by unfold star; rw [e0]; rfl
      clear e0
      cases x0
      case true =>
        have HS := Lib.hid (And.intro hst (And.intro hno hLj))
        clear hst hno hLj
        go_wp2_with fail
        refine (isStar_any true x1 x2 x3 x4 x5 x6 x7 x8 x9 ax10 nx10 px10 ax11 nx11 px11 x12 wr).mono ?_
        rintro e w2 ⟨rfl, hb2⟩
        have hB2 := hB.trans (hb2.mono hB.size)
        clear hb2 z0 z1 z2 z3 z4 z5 z6 z7 z8 z9 z10 z11 z12
        go_wp2_with fail
        go_ret
        exact ⟨hB2, .inl ⟨j, hlt, rfl, HS.out.2.1, _, HS.out.2.2, HS.out.1⟩⟩
      case false =>
        have HS := Lib.hid (And.intro hst (And.intro hno hLj))
        clear hst hno hLj
        go_wp2_with fail
        refine (isStar_any false x1 x2 x3 x4 x5 x6 x7 x8 x9 ax10 nx10 px10 ax11 nx11 px11 x12 wr).mono ?_
        rintro e w2 ⟨rfl, hb2⟩
        have hB2 := hB.trans (hb2.mono hB.size)
        clear hb2 z0 z1 z2 z3 z4 z5 z6 z7 z8 z9 z10 z11 z12
        go_wp2_with fail
        go_roundw
        case rel =>
          refine ⟨j + 1, by omega, by go_num, hB2, fun k c hk hc => ?_⟩
          by_cases e : k = j
          · subst e
            have h1 := HS.out.2.2
            rw [hc] at h1
            rw [Option.some.inj h1]; exact HS.out.1
          · exact HS.out.2.1 k c (by omega) hc
        case measure => simp [intOf]; omega
    · obtain rfl : j = L.length := by omega
      have HN := Lib.hid hno
      clear hno hlt hj
      go_wp2_with fail
      go_ret
      refine ⟨hB, .inr ⟨rfl, fun c hc => ?_⟩⟩
      obtain ⟨k, hk⟩ := List.getElem?_of_mem hc
      exact HN.out k c (List.getElem?_eq_some_iff.1 hk).1 hk
end Go.Proofs.Ytgihklohhjhjbaa
