/- Joined texts: ArgStmt. -/
import Derived.Test.YtcliijfdlcagoaaGreatQHArgTree
namespace Go.Proofs.YtcliijfdlcagoaaGreat
set_option linter.unusedVariables false
set_option linter.unusedSimpArgs false
open Go.ChangeShapes Go.WideShapes Go.ChangeAt Go.RowKit Go.Deep
section
variable {H : Type} {enc : TypeId × Value → H} {W : World}
set_option maxRecDepth 100000 in
theorem slice_dat {T e : TypeId} {ty ety : Ty} (hT : Tryz.prog.underlying T = some (.slice e)) (hk : Tryz.prog.cellsOf e = 1) (hd : deep ty = true) (hr : rowTy ty = [ety])
    (IH : ∀ (m : Nat) (x : Value) (y : DataW H × List MemPlace), DataW.trod enc Tryz.prog W 0 (fun _ => true) true m e [x] = some y → ∃ d, Rd W 0 x d ∧ Fits d ety)
    {n : Nat} {x : Value} {y : DataW H × List MemPlace} (h : DataW.trod enc Tryz.prog W 0 (fun _ => true) true n T [x] = some y) : ∃ d, Rd W 0 x d ∧ Fits d ty := by
  have hl1 : (rowTy ty).length = 1 := by rw [hr]; rfl
  rcases DataW.trod_slice hT h with ⟨hcs, _⟩ | ⟨ad, len, cap, elems, rest, n', rfl, hcs, _, _, hlc, hcm, hel, hi, _, _⟩
  · obtain rfl : x = .slice none 0 0 := by simpa using hcs
    refine ⟨.sl 0 1 fun _ _ => .v undef, ⟨none, 0, rfl, Nat.le_refl _, fun _ => rfl, .inl rfl⟩, ?_⟩
    exact ⟨hd, by omega, hl1.symm, fun i hi => by omega⟩
  · obtain rfl : x = .slice (some ad) len cap := by simpa using hcs
    obtain ⟨g, o, spot⟩ := ad
    have row : ∀ i, i < len → ∃ (c : Value) (y : DataW H × List MemPlace), W.cell? ((Addr.mk g o spot).add (i * 1)) = some c ∧ DataW.trod enc Tryz.prog W 0 (fun _ => true) true n' e [c] = some y := fun i hil => by
      have h1 := hi i hil
      rw [List.getElem?_eq_getElem (by omega), Option.bind_eq_some_iff, hk] at h1
      obtain ⟨cs', h2, h3⟩ := h1
      obtain ⟨_, hl, hat⟩ := World.cells?_some h2
      match cs', hl with
      | [c], _ =>
        have c0 := hat 0 (by decide)
        have e0 : ((Addr.mk g o spot).add (i * 1)).add 0 = (Addr.mk g o spot).add (i * 1) := by unfold Addr.add; split <;> simp_all
        rw [e0] at c0
        exact ⟨c, _, c0, h3⟩
    have hsp : 0 < len → spot = none := fun h0 => by
      obtain ⟨c, y, h2, h3⟩ := row 0 h0
      have e0 : (Addr.mk g o spot).add (0 * 1) = Addr.mk g o spot := by unfold Addr.add; simp
      rw [e0] at h2
      simpa using World.cell?_spot h2
    have key : ∀ i, i < len → ∃ d : Dat, ∃ c, W.cell? ⟨g, o + i, none⟩ = some c ∧ Rd W 0 c d ∧ Fits d ety := fun i hil => by
      obtain ⟨c, y, h2, h3⟩ := row i hil
      have hs := hsp (by omega)
      subst hs
      rw [add_none, Nat.mul_one] at h2
      obtain ⟨d, hr, hf⟩ := IH _ _ _ h3
      exact ⟨d, c, h2, hr, hf⟩
    refine ⟨.sl len 1 fun i _ => if hil : i < len then Classical.choose (key i hil) else .v undef, ?_, ?_⟩
    · refine ⟨some ⟨g, o, spot⟩, cap, rfl, hlc, (fun h => by cases h), ?_⟩
      by_cases h0 : len = 0
      · exact .inl h0
      · refine .inr ?_
        have hs := hsp (by omega)
        subst hs
        have lt : g < W.heap.size := by
          obtain ⟨c, hy, _⟩ := Classical.choose_spec (key 0 (by omega))
          rcases Nat.lt_or_ge g W.heap.size with hb | hb
          · exact hb
          · exfalso
            have : W.heap[g]? = none := Array.getElem?_eq_none hb
            simp [World.cell?, this] at hy
        refine ⟨g, o, rfl, Nat.zero_le _, lt, fun i hil j hj => ?_⟩
        obtain rfl : j = 0 := by omega
        obtain ⟨c, hy, hr, _⟩ := Classical.choose_spec (key i hil)
        exact ⟨c, by rw [Nat.mul_one]; exact hy, by simp only [dif_pos hil]; exact hr⟩
    · refine ⟨hd, by unfold maxLen at hcm; omega, hl1.symm, fun i hil j hj => ?_⟩
      obtain ⟨c, hy, _, hf⟩ := Classical.choose_spec (key i hil)
      have hj0 : j = 0 := by omega
      subst hj0
      simp only [dif_pos hil]
      have : (rowTy ty)[0] = ety := by simp [hr]
      rw [this]; exact hf
theorem rows_dat {n : Nat} {x : Value} {y : DataW H × List MemPlace} (h : DataW.trod enc Tryz.prog W 0 (fun _ => true) true n 28 [x] = some y) : ∃ d, Rd W 0 x d ∧ Fits d .rows :=
  slice_dat (ety := .exprs) Tryz.underlying28 (by kernel_rfl) rfl rfl (fun m x y h => cell_dat m .exprs x y rfl h) h
theorem names_dat {n : Nat} {x : Value} {y : DataW H × List MemPlace} (h : DataW.trod enc Tryz.prog W 0 (fun _ => true) true n 29 [x] = some y) : ∃ d, Rd W 0 x d ∧ Fits d .names :=
  slice_dat (ety := .str) Tryz.underlying29 (by kernel_rfl) rfl rfl (fun m x y h => cell_dat m .str x y rfl h) h
set_option maxRecDepth 100000 in
theorem arg_Stmt {r : Reach} {b0 : Nat} {v : Value} {d : DataW H} {p : List MemPlace} (hv : Value.okWide Tryz.prog W r b0 31 v) (h : DataW.Trod enc Tryz.prog W 0 (fun _ => true) true 31 v d p) :
    ∃ (c0 : Int) (c1 : Bool) (c2 : Value) (c3 : Value) (c4 : Value) (c5 : Value) (c6 : Int) (c7 : ByteArray) (c8 : Value) (c9 : Value) (c10 : Value) (c11 : Value) (d2 : Dat) (d3 : Dat) (d4 : Dat) (d5 : Dat) (d8 : Dat) (d9 : Dat) (d10 : Dat) (d11 : Dat), v = .agg #[.int .i64 c0, .bool c1, c2, c3, c4, c5, .int .i64 c6, .string c7, c8, c9, c10, c11] ∧ (-9223372036854775808 ≤ c0 ∧ c0 ≤ 9223372036854775807) ∧ (Rd W 0 c2 d2 ∧ Fits d2 .items) ∧ (Rd W 0 c3 d3 ∧ Fits d3 .sources) ∧ (Rd W 0 c4 d4 ∧ Fits d4 .exprs) ∧ (Rd W 0 c5 d5 ∧ Fits d5 .keys) ∧ (-9223372036854775808 ≤ c6 ∧ c6 ≤ 9223372036854775807) ∧ c7.size ≤ 9223372036854775807 ∧ (Rd W 0 c8 d8 ∧ Fits d8 .rows) ∧ (Rd W 0 c9 d9 ∧ Fits d9 .names) ∧ (Rd W 0 c10 d10 ∧ Fits d10 .exprs) ∧ (Rd W 0 c11 d11 ∧ Fits d11 .exprs) := by
  obtain ⟨cs, rfl, hsz⟩ := okWide_struct Tryz.underlying31 hv
  have hc : Tryz.prog.cellsOf 31 = 12 := by kernel_rfl
  obtain ⟨l⟩ := cs
  match l, hsz.trans hc with
  | [x0, x1, x2, x3, x4, x5, x6, x7, x8, x9, x10, x11], _ =>
    obtain ⟨fuel, hf⟩ := h
    have hf2 : DataW.trod enc Tryz.prog W 0 (fun _ => true) true fuel 31 [x0, x1, x2, x3, x4, x5, x6, x7, x8, x9, x10, x11] = some (d, p) := hf
    obtain ⟨xs, n', rfl, -, hl, hlen, hi⟩ := DataW.trod_struct Tryz.underlying31 hf2
    have k_Query : Tryz.prog.cellsOf 27 = 6 := by kernel_rfl
    have k___Expr : Tryz.prog.cellsOf 24 = 1 := by kernel_rfl
    have k_____Expr : Tryz.prog.cellsOf 28 = 1 := by kernel_rfl
    have k___string : Tryz.prog.cellsOf 29 = 1 := by kernel_rfl
    have k_int : Tryz.prog.cellsOf 3 = 1 := by kernel_rfl
    have k_string : Tryz.prog.cellsOf 9 = 1 := by kernel_rfl
    have hx : ∀ i, i < 7 → ∃ y, xs[i]? = some y := fun i hi => ⟨xs[i]'(by have : xs.length = 7 := hlen; omega), List.getElem?_eq_getElem _⟩
    obtain ⟨y0, hy0⟩ := hx 0 (by decide)
    have e0 : DataW.trod enc Tryz.prog W 0 (fun _ => true) true n' 3 [x0] = some y0 := by
      have h := hi 0 _ rfl
      rw [hy0] at h
      simpa [k_Query, k___Expr, k_____Expr, k___string, k_int, k_string] using h
    obtain ⟨y1, hy1⟩ := hx 1 (by decide)
    have e1 : DataW.trod enc Tryz.prog W 0 (fun _ => true) true n' 27 [x1, x2, x3, x4, x5, x6] = some y1 := by
      have h := hi 1 _ rfl
      rw [hy1] at h
      simpa [k_Query, k___Expr, k_____Expr, k___string, k_int, k_string] using h
    obtain ⟨y2, hy2⟩ := hx 2 (by decide)
    have e2 : DataW.trod enc Tryz.prog W 0 (fun _ => true) true n' 9 [x7] = some y2 := by
      have h := hi 2 _ rfl
      rw [hy2] at h
      simpa [k_Query, k___Expr, k_____Expr, k___string, k_int, k_string] using h
    obtain ⟨y3, hy3⟩ := hx 3 (by decide)
    have e3 : DataW.trod enc Tryz.prog W 0 (fun _ => true) true n' 28 [x8] = some y3 := by
      have h := hi 3 _ rfl
      rw [hy3] at h
      simpa [k_Query, k___Expr, k_____Expr, k___string, k_int, k_string] using h
    obtain ⟨y4, hy4⟩ := hx 4 (by decide)
    have e4 : DataW.trod enc Tryz.prog W 0 (fun _ => true) true n' 29 [x9] = some y4 := by
      have h := hi 4 _ rfl
      rw [hy4] at h
      simpa [k_Query, k___Expr, k_____Expr, k___string, k_int, k_string] using h
    obtain ⟨y5, hy5⟩ := hx 5 (by decide)
    have e5 : DataW.trod enc Tryz.prog W 0 (fun _ => true) true n' 24 [x10] = some y5 := by
      have h := hi 5 _ rfl
      rw [hy5] at h
      simpa [k_Query, k___Expr, k_____Expr, k___string, k_int, k_string] using h
    obtain ⟨y6, hy6⟩ := hx 6 (by decide)
    have e6 : DataW.trod enc Tryz.prog W 0 (fun _ => true) true n' 24 [x11] = some y6 := by
      have h := hi 6 _ rfl
      rw [hy6] at h
      simpa [k_Query, k___Expr, k_____Expr, k___string, k_int, k_string] using h
    obtain ⟨d0, r0, f0⟩ := cell_dat _ .int _ _ rfl e0
    obtain ⟨c0, rfl, b0⟩ := Fits.int (d := d0) f0
    obtain rfl : x0 = .int .i64 c0 := r0
    have hC := flat_Query (W := W) (cs := [x1, x2, x3, x4, x5, x6]) e1
    obtain ⟨d1, r1, f1⟩ := hC.dat 0 (by decide)
    obtain ⟨c1, rfl⟩ := Fits.bool (d := d1) f1
    obtain rfl : x1 = .bool c1 := r1
    obtain ⟨d2, r2, f2⟩ := hC.dat 1 (by decide)
    obtain ⟨d3, r3, f3⟩ := hC.dat 2 (by decide)
    obtain ⟨d4, r4, f4⟩ := hC.dat 3 (by decide)
    obtain ⟨d5, r5, f5⟩ := hC.dat 4 (by decide)
    obtain ⟨d6, r6, f6⟩ := hC.dat 5 (by decide)
    obtain ⟨c6, rfl, b6⟩ := Fits.int (d := d6) f6
    obtain rfl : x6 = .int .i64 c6 := r6
    obtain ⟨d7, r7, f7⟩ := cell_dat _ .str _ _ rfl e2
    obtain ⟨c7, rfl, b7⟩ := Fits.str (d := d7) f7
    obtain rfl : x7 = .string c7 := r7
    obtain ⟨d8, r8, f8⟩ := rows_dat e3
    obtain ⟨d9, r9, f9⟩ := names_dat e4
    obtain ⟨d10, r10, f10⟩ := cell_dat _ .exprs _ _ rfl e5
    obtain ⟨d11, r11, f11⟩ := cell_dat _ .exprs _ _ rfl e6
    exact ⟨c0, c1, x2, x3, x4, x5, c6, c7, x8, x9, x10, x11, d2, d3, d4, d5, d8, d9, d10, d11, rfl, b0, ⟨r2, f2⟩, ⟨r3, f3⟩, ⟨r4, f4⟩, ⟨r5, f5⟩, b6, b7, ⟨r8, f8⟩, ⟨r9, f9⟩, ⟨r10, f10⟩, ⟨r11, f11⟩⟩
end
end Go.Proofs.YtcliijfdlcagoaaGreat
