/- Joined texts: StmtI. -/
import Derived.Test.YtcliijfdlcagoaaGreatQZAJ
import Derived.Test.YtcliijfdlcagoaaGreatQZAO
import Derived.Deep.RegionLaw
namespace Go.Proofs.YtcliijfdlcagoaaGreat
set_option linter.unusedVariables false
set_option linter.unusedSimpArgs false
open Go.RowKit
def stTy : List Ty := [.int, .bool, .items, .sources, .exprs, .keys, .int, .str, .rows, .names, .exprs, .exprs]
theorem OutK.stmtRow {w0 : World} {ys : List Value} {c : Nd} (h : OutK stTy w0 ys [c]) : ∃ (c0 : Int) (c1 : Bool) (a2 : Option Addr) (n2 p2 : Nat) (a3 : Option Addr) (n3 p3 : Nat) (a4 : Option Addr) (n4 p4 : Nat) (a5 : Option Addr) (n5 p5 : Nat) (c6 : Int) (c7 : ByteArray) (a8 : Option Addr) (n8 p8 : Nat) (a9 : Option Addr) (n9 p9 : Nat) (a10 : Option Addr) (n10 p10 : Nat) (a11 : Option Addr) (n11 p11 : Nat),
    ys = [.int .i64 c0, .bool c1, .slice a2 n2 p2, .slice a3 n3 p3, .slice a4 n4 p4, .slice a5 n5 p5, .int .i64 c6, .string c7, .slice a8 n8 p8, .slice a9 n9 p9, .slice a10 n10 p10, .slice a11 n11 p11] ∧
    ((c 0 = .v (.int .i64 c0) ∧ -9223372036854775808 ≤ c0 ∧ c0 ≤ 9223372036854775807) ∧ c 1 = .v (.bool c1) ∧ (Rd w0 0 (.slice a2 n2 p2) (c 2) ∧ Fits (c 2) .items) ∧ (Rd w0 0 (.slice a3 n3 p3) (c 3) ∧ Fits (c 3) .sources) ∧ (Rd w0 0 (.slice a4 n4 p4) (c 4) ∧ Fits (c 4) .exprs) ∧ (Rd w0 0 (.slice a5 n5 p5) (c 5) ∧ Fits (c 5) .keys) ∧ (c 6 = .v (.int .i64 c6) ∧ -9223372036854775808 ≤ c6 ∧ c6 ≤ 9223372036854775807) ∧ (c 7 = .v (.string c7) ∧ c7.size ≤ 9223372036854775807) ∧ (Rd w0 0 (.slice a8 n8 p8) (c 8) ∧ Fits (c 8) .rows) ∧ (Rd w0 0 (.slice a9 n9 p9) (c 9) ∧ Fits (c 9) .names) ∧ (Rd w0 0 (.slice a10 n10 p10) (c 10) ∧ Fits (c 10) .exprs) ∧ (Rd w0 0 (.slice a11 n11 p11) (c 11) ∧ Fits (c 11) .exprs)) := by
  have hl : ys.length = 12 := h.1
  obtain ⟨y0, z0, r0, f0⟩ := h.cellOf 0 (by decide)
  obtain ⟨c0, e0, b0⟩ := Fits.int f0
  rw [e0] at r0; obtain rfl : y0 = _ := r0
  obtain ⟨y1, z1, r1, f1⟩ := h.cellOf 1 (by decide)
  obtain ⟨c1, e1⟩ := Fits.bool f1
  rw [e1] at r1; obtain rfl : y1 = _ := r1
  obtain ⟨y2, z2, r2, f2⟩ := h.cellOf 2 (by decide)
  have g2 : Fits (c 2) .items := f2
  obtain ⟨a2, n2, p2, rfl⟩ := r2.slice_of g2 rfl
  obtain ⟨y3, z3, r3, f3⟩ := h.cellOf 3 (by decide)
  have g3 : Fits (c 3) .sources := f3
  obtain ⟨a3, n3, p3, rfl⟩ := r3.slice_of g3 rfl
  obtain ⟨y4, z4, r4, f4⟩ := h.cellOf 4 (by decide)
  have g4 : Fits (c 4) .exprs := f4
  obtain ⟨a4, n4, p4, rfl⟩ := r4.slice_of g4 rfl
  obtain ⟨y5, z5, r5, f5⟩ := h.cellOf 5 (by decide)
  have g5 : Fits (c 5) .keys := f5
  obtain ⟨a5, n5, p5, rfl⟩ := r5.slice_of g5 rfl
  obtain ⟨y6, z6, r6, f6⟩ := h.cellOf 6 (by decide)
  obtain ⟨c6, e6, b6⟩ := Fits.int f6
  rw [e6] at r6; obtain rfl : y6 = _ := r6
  obtain ⟨y7, z7, r7, f7⟩ := h.cellOf 7 (by decide)
  obtain ⟨c7, e7, b7⟩ := Fits.str f7
  rw [e7] at r7; obtain rfl : y7 = _ := r7
  obtain ⟨y8, z8, r8, f8⟩ := h.cellOf 8 (by decide)
  have g8 : Fits (c 8) .rows := f8
  obtain ⟨a8, n8, p8, rfl⟩ := r8.slice_of g8 rfl
  obtain ⟨y9, z9, r9, f9⟩ := h.cellOf 9 (by decide)
  have g9 : Fits (c 9) .names := f9
  obtain ⟨a9, n9, p9, rfl⟩ := r9.slice_of g9 rfl
  obtain ⟨y10, z10, r10, f10⟩ := h.cellOf 10 (by decide)
  have g10 : Fits (c 10) .exprs := f10
  obtain ⟨a10, n10, p10, rfl⟩ := r10.slice_of g10 rfl
  obtain ⟨y11, z11, r11, f11⟩ := h.cellOf 11 (by decide)
  have g11 : Fits (c 11) .exprs := f11
  obtain ⟨a11, n11, p11, rfl⟩ := r11.slice_of g11 rfl
  refine ⟨c0, c1, a2, n2, p2, a3, n3, p3, a4, n4, p4, a5, n5, p5, c6, c7, a8, n8, p8, a9, n9, p9, a10, n10, p10, a11, n11, p11, ?_, ⟨e0, b0⟩, e1, ⟨r2, g2⟩, ⟨r3, g3⟩, ⟨r4, g4⟩, ⟨r5, g5⟩, ⟨e6, b6⟩, ⟨e7, b7⟩, ⟨r8, g8⟩, ⟨r9, g9⟩, ⟨r10, g10⟩, ⟨r11, g11⟩⟩
  refine List.ext_getElem? fun j => ?_
  rcases j with _ | _ | _ | _ | _ | _ | _ | _ | _ | _ | _ | _ | j
  · exact z0
  · exact z1
  · exact z2
  · exact z3
  · exact z4
  · exact z5
  · exact z6
  · exact z7
  · exact z8
  · exact z9
  · exact z10
  · exact z11
  · rw [List.getElem?_eq_none (by omega), List.getElem?_eq_none (by simp)]
def rowsOf (d : Dat) : List Nd := d.els.flatMap fun r => (r 0).els
def outsideOf (c : Nd) : List Nd := (rowsOf (c 8) ++ (c 10).els) ++ (c 11).els
def stmtExprs (c : Nd) : List Nd := exprsOf (cut 1 c) ++ outsideOf c
structure BdS (c : Nd) : Prop where
  q : FitsQ (cut 1 c)
  f8 : Fits (c 8) .rows
  f9 : Fits (c 9) .names
  f10 : Fits (c 10) .exprs
  f11 : Fits (c 11) .exprs
  m : msr (c 2) + msr (c 3) + msr (c 4) + msr (c 5) + msr (c 8) + msr (c 9) + msr (c 10) + msr (c 11) ≤ 1048576
theorem BdS.query {c : Nd} (h : BdS c) : BdQ (cut 1 c) := ⟨h.q, by have := h.m; show msr (c 2) + msr (c 3) + msr (c 4) + msr (c 5) ≤ _; omega⟩
theorem rowsOf_succ (j k : Nat) (f : Nat → Nat → Dat) : rowsOf (.sl (j + 1) k f) = rowsOf (.sl j k f) ++ (f j 0).els := by
  unfold rowsOf
  rw [els_succ, List.flatMap_append]
  simp
theorem rowsOf_len {n : Nat} {f : Nat → Nat → Dat} : ∀ j, j ≤ n → (rowsOf (.sl j 1 f)).length ≤ partm f 1 j := fun j => by
  induction j with
  | zero => intro _; exact Nat.zero_le _
  | succ j ih =>
    intro h
    have h1 := ih (by omega)
    have h2 : (f j 0).els.length ≤ msr (f j 0) := els_msr
    have hs : rowm f 1 j = msr (f j 0) := by unfold rowm; simp [List.range_succ]
    rw [rowsOf_succ, List.length_append, partm_succ, hs]
    omega
theorem rowsOf_le {d : Dat} (h : Fits d .rows) : (rowsOf d).length + d.els.length ≤ msr d := by
  obtain ⟨n, k, f, rfl⟩ := h.deep rfl
  have hk : k = 1 := h.2.2.1
  subst hk
  have := rowsOf_len (n := n) (f := f) n (Nat.le_refl _)
  rw [msr_is, els_len]; omega
theorem BdS.outLen {c : Nd} (h : BdS c) : (outsideOf c).length ≤ 1048576 := by
  have h8 := rowsOf_le h.f8
  have h10 : (c 10).els.length ≤ msr (c 10) := els_msr
  have h11 : (c 11).els.length ≤ msr (c 11) := els_msr
  have hm := h.m
  unfold outsideOf
  rw [List.length_append, List.length_append]
  omega
theorem Rd.vals {w : World} {n : Nat} {f : Nat → Nat → Dat} {v : Value} (h : Rd w 0 v (.sl n 1 f)) : ∃ xs : List Value, xs.length = n ∧ ValsE w v xs ∧ ∀ (i : Nat) (x : Value), xs[i]? = some x → Rd w 0 x (f i 0) := by
  obtain ⟨a, cap, rfl, hc, hz, h⟩ := h
  rcases h with rfl | ⟨g, o, rfl, _, hg, hcell⟩
  · exact ⟨[], rfl, ⟨a, cap, rfl, .inl rfl⟩, fun i x h => by simp at h⟩
  · have key : ∀ i, i < n → ∃ y, w.cell? ⟨g, o + i, none⟩ = some y ∧ Rd w 0 y (f i 0) := fun i hi => by
      obtain ⟨y, hy, hr⟩ := hcell i hi 0 (by decide)
      rw [Nat.mul_one, Nat.add_zero] at hy
      exact ⟨y, hy, hr⟩
    have hat : ∀ (i : Nat) (x : Value), ((List.range n).map fun i => (w.cell? ⟨g, o + i, none⟩).getD undef)[i]? = some x → i < n ∧ w.cell? ⟨g, o + i, none⟩ = some x ∧ Rd w 0 x (f i 0) := fun i x hx => by
      have hi : i < n := by have := (List.getElem?_eq_some_iff.1 hx).1; simpa using this
      obtain ⟨y, hy, hr⟩ := key i hi
      rw [List.getElem?_map, List.getElem?_range hi] at hx
      simp only [Option.map_some, hy, Option.getD_some, Option.some.injEq] at hx
      subst hx
      exact ⟨hi, hy, hr⟩
    refine ⟨(List.range n).map fun i => (w.cell? ⟨g, o + i, none⟩).getD undef, by simp, ⟨_, cap, by simp, .inr ⟨g, o, rfl, hg, fun i x hx => (hat i x hx).2.1⟩⟩, fun i x hx => (hat i x hx).2.2⟩
theorem ValsE.later {W W' : World} {v : Value} {xs : List Value} (h : ValsE W v xs) (hb : Below W.heap.size W W') : ValsE W' v xs := by
  obtain ⟨a, cap, e, h⟩ := h
  refine ⟨a, cap, e, h.imp id ?_⟩
  rintro ⟨g, o, ea, hg, hc⟩
  exact ⟨g, o, ea, Nat.lt_of_lt_of_le hg hb.size, fun i x hx => (hb.cell (p := ⟨g, o + i, none⟩) hg).trans (hc i x hx)⟩
theorem Rd.srcE {w0 W : World} {x : Value} {d : Dat} (r : Rd w0 0 x d) (q : Fits d .exprs) (hb : Below w0.heap.size w0 W) : SrcE w0 W x d.els := by
  obtain ⟨n, k, f, rfl⟩ := q.deep rfl
  have hk : k = 10 := q.2.2.1
  subst hk
  exact .inl ⟨n, f, r, q, rfl, hb⟩
theorem concat3 (w0 W : World) (v1 v2 v3 : Value) (L1 L2 L3 : List Nd) (h1 : SrcE w0 W v1 L1) (h2 : SrcE w0 W v2 L2) (h3 : SrcE w0 W v3 L3) (hN : L1.length + L2.length + L3.length ≤ 2000000) :
    Calls Tryz.prog 89 #[.slice (some ⟨W.heap.size, 0, none⟩) 3 3] (W.alloc (.cells #[v1, v2, v3] 36)) fun e w' => ∃ v, e = .returned v ∧ OutE w0 w' W.heap.size v ((L1 ++ L2) ++ L3) ∧ Below W.heap.size W w' := by
  have hal : Below W.heap.size W (W.alloc (.cells #[v1, v2, v3] 36)) := (Below.refl _ _).alloc (Nat.le_refl _) _
  have R := RowAt.new W 36 #[v1, v2, v3]
  have hf : [L1, L2, L3].flatten = (L1 ++ L2) ++ L3 := by simp
  refine (concat_any w0 _ _ [v1, v2, v3] [L1, L2, L3] ⟨some ⟨W.heap.size, 0, none⟩, 3, rfl, .inr ⟨W.heap.size, 0, rfl, R.lt, fun i x hx => by rw [Nat.zero_add]; exact R.cell (by simpa using hx)⟩⟩ rfl (fun i x L hx hL => ?_) (by rw [hf, List.length_append, List.length_append]; exact hN) (by simp)).mono ?_
  · match i, hx, hL with
    | 0, hx, hL => obtain rfl : v1 = x := by simpa using hx
                   obtain rfl : L1 = L := by simpa using hL
                   exact h1.later hal
    | 1, hx, hL => obtain rfl : v2 = x := by simpa using hx
                   obtain rfl : L2 = L := by simpa using hL
                   exact h2.later hal
    | 2, hx, hL => obtain rfl : v3 = x := by simpa using hx
                   obtain rfl : L3 = L := by simpa using hL
                   exact h3.later hal
    | i + 3, hx, _ => simp at hx
  · rintro e w' ⟨v, rfl, ho, hb⟩
    rw [hf] at ho
    exact ⟨v, rfl, ho.low hal.size, hal.trans (hb.mono hal.size)⟩
set_option maxRecDepth 100000 in
set_option maxHeartbeats 8000000 in
theorem outside_any (w0 W : World) (c : Nd) (ys : List Value) (hys : OutK stTy w0 ys [c]) (hb0 : Below w0.heap.size w0 W) (hs : BdS c) :
    Calls Tryz.prog 50 #[.agg ys.toArray] W fun e w' => ∃ v, e = .returned v ∧ OutE w0 w' W.heap.size v (outsideOf c) ∧ Below W.heap.size W w' := by
  obtain ⟨c0, c1, a2, n2, p2, a3, n3, p3, a4, n4, p4, a5, n5, p5, c6, c7, a8, n8, p8, a9, n9, p9, a10, n10, p10, a11, n11, p11, rfl, -, -, -, -, -, -, -, -, ⟨r8, q8⟩, ⟨r9, q9⟩, ⟨r10, q10⟩, ⟨r11, q11⟩⟩ := hys.stmtRow
  have hm := hs.m
  have hlen := hs.outLen
  obtain ⟨f8, e8, r8, q8⟩ := r8.openS q8 rfl
  obtain ⟨xs, hxl, hxv, hxr⟩ := r8.vals
  have hC1 : ∀ W', Below w0.heap.size w0 W' → Calls Tryz.prog 89 #[.slice a8 n8 p8] W' fun e w' => ∃ v, e = .returned v ∧ OutE w0 w' W'.heap.size v (rowsOf (c 8)) ∧ Below W'.heap.size W' w' := fun W' hb => by
    have hfl : ((List.range n8).map fun i => (f8 i 0).els).flatten = rowsOf (c 8) := by
      rw [e8]
      show _ = ((List.range n8).map f8).flatMap fun r => (r 0).els
      rw [List.flatMap_map, List.flatMap_def]
    have hle := rowsOf_le (d := c 8) (by rw [e8]; exact q8)
    rw [e8, els_len, ← e8] at hle
    rw [← hfl]
    refine concat_any w0 W' _ xs _ (hxv.later hb) (by rw [hxl]; simp) (fun i x L hx hL => ?_) (by rw [hfl]; omega) (by omega)
    have hi : i < n8 := by have := (List.getElem?_eq_some_iff.1 hL).1; simpa using this
    rw [List.getElem?_map, List.getElem?_range hi] at hL
    simp only [Option.map_some, Option.some.injEq] at hL
    subst hL
    exact (hxr i x hx).srcE (q8.2.2.2 i hi 0 (by decide)) hb
  have hS10 := fun W' hb => r10.srcE (W := W') q10 hb
  have hS11 := fun W' hb => r11.srcE (W := W') q11 hb
  have R := RowAt.new W 42 #[.int .i64 c0, .bool c1, .slice a2 n2 p2, .slice a3 n3 p3, .slice a4 n4 p4, .slice a5 n5 p5, .int .i64 c6, .string c7, .slice a8 n8 p8, .slice a9 n9 p9, .slice a10 n10 p10, .slice a11 n11 p11]
  have hB : Below W.heap.size W (W.alloc (.cells #[.int .i64 c0, .bool c1, .slice a2 n2 p2, .slice a3 n3 p3, .slice a4 n4 p4, .slice a5 n5 p5, .int .i64 c6, .string c7, .slice a8 n8 p8, .slice a9 n9 p9, .slice a10 n10 p10, .slice a11 n11 p11] 42)) := (Below.refl _ _).alloc (Nat.le_refl _) _
  have hlen2 : (rowsOf (c 8)).length + (c 10).els.length + (c 11).els.length ≤ 1048576 := by unfold outsideOf at hlen; rw [List.length_append, List.length_append] at hlen; exact hlen
  have HLEN := Lib.hid hlen2
  unfold outsideOf
  clear hys hs hm hlen hlen2 e8 r8 q8 hxl hxv hxr r9 q9 r10 q10 r11 q11
  generalize rowsOf (c 8) = L8 at hC1 HLEN ⊢
  generalize (c 10).els = L10 at hS10 HLEN ⊢
  generalize (c 11).els = L11 at hS11 HLEN ⊢
  go_enter Tryz.func50, Tryz.ntmps50
  go_wp2_with fail
  generalize (W.alloc (.cells #[.int .i64 c0, .bool c1, .slice a2 n2 p2, .slice a3 n3 p3, .slice a4 n4 p4, .slice a5 n5 p5, .int .i64 c6, .string c7, .slice a8 n8 p8, .slice a9 n9 p9, .slice a10 n10 p10, .slice a11 n11 p11] 42)) = w1 at R hB ⊢
  have hz := hb0.trans (hB.mono hb0.size)
  have X3 := R.cell (i := 8) (v := .slice a8 n8 p8) rfl
  have X5 := R.cell (i := 10) (v := .slice a10 n10 p10) rfl
  have X6 := R.cell (i := 11) (v := .slice a11 n11 p11) rfl
  have HR := Lib.hid R
  have HB := Lib.hid hB
  clear R hB
  go_region_with (first
    | (go_at_call 89; refine (hC1 _ (by first | exact hz | exact hz.drew)).mono ?_; clear hC1; rintro e w2 ⟨v1, rfl, ho1, hb2⟩; have hb2' : Below w1.heap.size w1 w2 := (by first | exact hb2 | exact (Below.refl _ _).drew.trans hb2); have RA := HR.out.later hb2'; have hz2 := hz.trans (hb2'.mono hz.size); clear X3 X5 X6; have X5 := RA.cell (i := 10) (v := .slice a10 n10 p10) rfl; have X6 := RA.cell (i := 11) (v := .slice a11 n11 p11) rfl; obtain ⟨xa, xp, rfl⟩ := ho1.slice; clear RA; have C2 := concat3 w0 w2 (.slice xa L8.length xp) (.slice a10 n10 p10) (.slice a11 n11 p11) L8 L10 L11 (.inr ⟨_, ho1⟩) (hS10 _ hz2) (hS11 _ hz2) (by have := HLEN.out; omega))
    | (go_at_call 89; refine C2.mono ?_; clear C2 X5 X6; rintro e w4 ⟨v4, rfl, ho4, hb4⟩))
  all_goals
    have hf := HB.out.trans ((hb2'.trans (hb4.mono hb2'.size)).mono HB.out.size)
    have hlo := ho4.low (B' := W.heap.size) (Nat.le_trans HB.out.size hb2'.size)
    go_wp2_with fail
    go_ret
    exact ⟨_, rfl, hlo, hf⟩
theorem step_append_run_ {P : Program} {w : World} {ops : Array Oper} {o : Oper} {a : Act} {K : Act → World → Prop} {Q : Exit → Act → World → Prop} {E : Prop} (hgd : o.guard = none) (s x : Operand) (t tn : TypeId)
    (ho : o.op = .call { callee := .builtin .append, args := #[s, x], argTypes := #[t, tn] }) (vs vx : Value) (hs : a.eval s = vs) (hx : a.eval x = vx)
    (v' : Value) (w' : World) (hr : (Builtin.append_ #[t, tn] o.type #[vs, vx]).run P w = .ok v' w') (h : K (a.put o.dst v') w') :
    if Region.wanted o (yielded ops a.tmps) = true then Oper.wp P o a w K Q else E := by
  have hw : Region.wanted o (yielded ops a.tmps) = true := by simp [Region.wanted, hgd]
  rw [if_pos hw]
  exact Lib.wp_append_run w s x t tn ho vs vx hs hx v' w' hr h
theorem appO_run (w0 : World) (B B' : Nat) (v vx : Value) (L Lx : List Nd) (W : World) (ty : TypeId) (hown : OutE w0 W B v L) (hr : OutE w0 W B' vx Lx) (hl : L.length + Lx.length ≤ 4000000) (hB : B ≤ W.heap.size) :
    ∃ v' w', (Builtin.append_ #[36, 36] ty #[v, vx]).run Tryz.prog W = .ok v' w' ∧ OutE w0 w' B v' (L ++ Lx) ∧ Below B W w' := by
  obtain ⟨i, hi, hz, hsize, hby⟩ := info_parts Tryz.infoEx
  obtain ⟨C, hC, hP⟩ := hown
  obtain ⟨C', hC', hP'⟩ := hr
  rcases hC'.2 with ⟨e, h0⟩ | ⟨g, cap, cur, e, hg, hrow, hnc, hcm, hsz, hcur⟩
  · have hLx : Lx = [] := List.eq_nil_of_length_eq_zero h0
    subst hLx
    subst e
    refine ⟨v, W, run_append_owned_none (P := Tryz.prog) (w := W) B 36 ty 79 i 10 Tryz.underlying36 hi v L.length C hC, ?_, Below.refl B W⟩
    rw [List.append_nil]
    exact ⟨C, hC, hP⟩
  · subst e
    obtain ⟨v', w', hrun, hown', hgrow, _⟩ := run_append_own (P := Tryz.prog) W B 36 ty 79 i _ 10 136 Tryz.underlying36 hi hz hsize hby rfl (by decide) v L.length C hC ⟨g, 0, none⟩ Lx.length cap C' hP'.1 (fun j u hj => hC'.cells rfl j u hj) hP'.ones (by unfold maxLen; omega) (by omega) hB
    exact ⟨v', w', hrun, ⟨C ++ C', by rw [List.length_append]; exact hown', hP.append hP'⟩, (Below.refl B W).grown hgrow hB (fun q hq => (World.ownsRow.lt hC q hq).1)⟩
set_option maxRecDepth 100000 in
set_option maxHeartbeats 8000000 in
theorem atTop_any (w0 W : World) (c : Nd) (ys : List Value) (hys : OutK stTy w0 ys [c]) (hb0 : Below w0.heap.size w0 W) (hs : BdS c) :
    Calls Tryz.prog 24 #[.agg ys.toArray] W fun e w' => ∃ v, e = .returned v ∧ OutE w0 w' W.heap.size v (stmtExprs c) ∧ Below W.heap.size W w' := by
  have hO := fun w h => outside_any w0 w c ys hys h hs
  obtain ⟨c0, c1, a2, n2, p2, a3, n3, p3, a4, n4, p4, a5, n5, p5, c6, c7, a8, n8, p8, a9, n9, p9, a10, n10, p10, a11, n11, p11, rfl, -, e1, ⟨r2, q2⟩, ⟨r3, q3⟩, ⟨r4, q4⟩, ⟨r5, q5⟩, ⟨e6, b6⟩, -⟩ := hys.stmtRow
  have hqout : OutK (rowTy .queries) w0 [.bool c1, .slice a2 n2 p2, .slice a3 n3 p3, .slice a4 n4 p4, .slice a5 n5 p5, .int .i64 c6] [cut 1 c] := OutK.one rfl (fun m hm => match m, hm with
    | 0, _ => ⟨_, rfl, (show Rd w0 0 _ (c 1) by rw [e1]; exact rfl), (show Fits (c 1) .bool by rw [e1]; exact ⟨_, rfl⟩)⟩
    | 1, _ => ⟨_, rfl, r2, q2⟩
    | 2, _ => ⟨_, rfl, r3, q3⟩
    | 3, _ => ⟨_, rfl, r4, q4⟩
    | 4, _ => ⟨_, rfl, r5, q5⟩
    | 5, _ => ⟨_, rfl, (show Rd w0 0 _ (c 6) by rw [e6]; exact rfl), (show Fits (c 6) .int by rw [e6]; exact ⟨_, rfl, b6⟩)⟩
    | m + 6, hm => absurd hm (by simp [rowTy]))
  have hE := fun w h => exprsInQ_any w0 w (cut 1 c) _ hqout h hs.query
  have hl1 : (exprsOf (cut 1 c)).length ≤ 1048576 := by
    have h1 := exprs_len hs.q.1 hs.q.2.1 hs.q.2.2.1 hs.q.2.2.2
    have g1 := siz_le (c 2) _ hs.q.1
    have g2 := siz_le (c 3) _ hs.q.2.1
    have g3 := siz_le (c 4) _ hs.q.2.2.1
    have g4 := siz_le (c 5) _ hs.q.2.2.2
    have hm := hs.m
    have hsz : foldQ sizA (cut 1 c) ≤ 1048576 := by show fold sizA (c 2) .items + fold sizA (c 3) .sources + fold sizA (c 4) .exprs + fold sizA (c 5) .keys ≤ _; omega
    omega
  have hl2 := hs.outLen
  have HL1 := Lib.hid hl1
  have HL2 := Lib.hid hl2
  unfold stmtExprs
  generalize exprsOf (cut 1 c) = L1 at hE HL1 ⊢
  generalize outsideOf c = L2 at hO HL2 ⊢
  have R := RowAt.new W 42 #[.int .i64 c0, .bool c1, .slice a2 n2 p2, .slice a3 n3 p3, .slice a4 n4 p4, .slice a5 n5 p5, .int .i64 c6, .string c7, .slice a8 n8 p8, .slice a9 n9 p9, .slice a10 n10 p10, .slice a11 n11 p11]
  have hB : Below W.heap.size W (W.alloc (.cells #[.int .i64 c0, .bool c1, .slice a2 n2 p2, .slice a3 n3 p3, .slice a4 n4 p4, .slice a5 n5 p5, .int .i64 c6, .string c7, .slice a8 n8 p8, .slice a9 n9 p9, .slice a10 n10 p10, .slice a11 n11 p11] 42)) := (Below.refl _ _).alloc (Nat.le_refl _) _
  clear hys hs hl1 hl2 hqout e1 r2 q2 r3 q3 r4 q4 r5 q5 e6 b6
  go_enter Tryz.func24, Tryz.ntmps24
  go_wp2_with fail
  generalize (W.alloc (.cells #[.int .i64 c0, .bool c1, .slice a2 n2 p2, .slice a3 n3 p3, .slice a4 n4 p4, .slice a5 n5 p5, .int .i64 c6, .string c7, .slice a8 n8 p8, .slice a9 n9 p9, .slice a10 n10 p10, .slice a11 n11 p11] 42)) = w1 at R hB ⊢
  have hz := hb0.trans (hB.mono hb0.size)
  have X0 := R.cell (i := 0) (v := .int .i64 c0) rfl
  have X1 := R.cell (i := 1) (v := .bool c1) rfl
  have X2 := R.cell (i := 2) (v := .slice a2 n2 p2) rfl
  have X3 := R.cell (i := 3) (v := .slice a3 n3 p3) rfl
  have X4 := R.cell (i := 4) (v := .slice a4 n4 p4) rfl
  have X5 := R.cell (i := 5) (v := .slice a5 n5 p5) rfl
  have X6 := R.cell (i := 6) (v := .int .i64 c6) rfl
  have X7 := R.cell (i := 7) (v := .string c7) rfl
  have X8 := R.cell (i := 8) (v := .slice a8 n8 p8) rfl
  have X9 := R.cell (i := 9) (v := .slice a9 n9 p9) rfl
  have X10 := R.cell (i := 10) (v := .slice a10 n10 p10) rfl
  have X11 := R.cell (i := 11) (v := .slice a11 n11 p11) rfl
  have HR := Lib.hid R
  have HB := Lib.hid hB
  clear R hB
  go_region_law? (first
    | (refine step_append_run_ rfl (.tmp 5) (.tmp 7) _ _ rfl _ _ rfl rfl v9 w9 HRUN.out ?_)
    | (go_simp; go_at_call 59; refine (hE _ (by first | exact hz | exact hz.drew)).mono ?_; clear hE; rintro e w2 ⟨v1, rfl, ho1, hb2⟩; have hb2' : Below w1.heap.size w1 w2 := (by first | exact hb2 | exact (Below.refl _ _).drew.trans hb2); have RA := HR.out.later hb2'; have hz2 := hz.trans (hb2'.mono hz.size); obtain ⟨xa, xp, rfl⟩ := ho1.slice; clear X0 X1 X2 X3 X4 X5 X6 X7 X8 X9 X10 X11; have X0 := RA.cell (i := 0) (v := .int .i64 c0) rfl; have X1 := RA.cell (i := 1) (v := .bool c1) rfl; have X2 := RA.cell (i := 2) (v := .slice a2 n2 p2) rfl; have X3 := RA.cell (i := 3) (v := .slice a3 n3 p3) rfl; have X4 := RA.cell (i := 4) (v := .slice a4 n4 p4) rfl; have X5 := RA.cell (i := 5) (v := .slice a5 n5 p5) rfl; have X6 := RA.cell (i := 6) (v := .int .i64 c6) rfl; have X7 := RA.cell (i := 7) (v := .string c7) rfl; have X8 := RA.cell (i := 8) (v := .slice a8 n8 p8) rfl; have X9 := RA.cell (i := 9) (v := .slice a9 n9 p9) rfl; have X10 := RA.cell (i := 10) (v := .slice a10 n10 p10) rfl; have X11 := RA.cell (i := 11) (v := .slice a11 n11 p11) rfl; clear RA; go_simp)
    | (go_simp; go_at_call 50; refine (hO _ (by first | exact hz2 | exact hz2.drew)).mono ?_; clear hO; rintro e w3 ⟨v2, rfl, ho2, hb3⟩; have hb3' : Below w2.heap.size w2 w3 := (by first | exact hb3 | exact (Below.refl _ _).drew.trans hb3); clear X0 X1 X2 X3 X4 X5 X6 X7 X8 X9 X10 X11; obtain ⟨xb, xq, rfl⟩ := ho2.slice; obtain ⟨v9, w9, hrun, hout, hbb⟩ := appO_run w0 W.heap.size _ _ _ L1 L2 _ 36 ((ho1.later hb3').low (Nat.le_trans HB.out.size (Nat.le_succ _))) ho2 (by have := HL1.out; have := HL2.out; omega) (Nat.le_trans HB.out.size (Nat.le_trans hb2'.size hb3'.size)); have HRUN := Lib.hid hrun; clear hrun; go_simp))
  all_goals
    have hf : Below W.heap.size W w9 := (HB.out.trans ((hb2'.trans (hb3'.mono hb2'.size)).mono HB.out.size)).trans hbb
    go_wp2_with fail
    go_ret
    exact ⟨_, rfl, hout, hf⟩
end Go.Proofs.YtcliijfdlcagoaaGreat
