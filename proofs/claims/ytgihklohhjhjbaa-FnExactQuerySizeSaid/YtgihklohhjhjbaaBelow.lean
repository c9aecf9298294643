
/- The program's below: what lies directly below an expression. -/
import Derived.Test.YtgihklohhjhjbaaAppB
namespace Go.Proofs.Ytgihklohhjhjbaa
open Go.RowKit

theorem Rd.openS {w : World} {x : Option Addr} {n p : Nat} {d : Dat} {ty : Ty} (r : Rd w 0 (.slice x n p) d) (q : Fits d ty) (hd : deep ty = true) :
    ∃ f, d = .sl n (rowTy ty).length f ∧ Rd w 0 (.slice x n p) (.sl n (rowTy ty).length f) ∧ Fits (.sl n (rowTy ty).length f) ty := by
  obtain ⟨n', k, f, rfl⟩ := q.deep hd
  have hk : k = _ := q.2.2.1
  subst hk
  have h2 : n = n' := by obtain ⟨_, _, e, _⟩ := r; injection e
  subst h2
  exact ⟨f, rfl, r, q⟩
theorem clip_any (a : Option Addr) (n cap : Nat) (hn : n ≤ cap) (h63 : n ≤ 1048576) (ha : n = 0 ∨ ∃ g o, a = some ⟨g, o, none⟩) (W : World) :
    Calls Try.prog 163 #[.slice a n cap] W fun e w' => e = .returned (.slice a n n) ∧ w' = W := by
  rcases Nat.eq_zero_or_pos n with rfl | hp
  · go_enter Try.func163, Try.ntmps163
    go_wp2_with fail
    go_ret
    exact ⟨rfl, rfl⟩
  · obtain ⟨g, o, rfl⟩ : ∃ g o, a = some ⟨g, o, none⟩ := ha.resolve_left (by omega)
    have h1 : ¬ n = 0 := by omega
    have h2 : (n : Int) ≤ (cap : Int) := by omega
    go_enter Try.func163, Try.ntmps163
    go_wp2_with fail
    go_ret
    exact ⟨rfl, rfl⟩
theorem row_msr {n i : Nat} {f : Nat → Nat → Dat} (hi : i < n) : msr (f i 1) + msr (f i 2) + msr (f i 3) + msr (f i 4) ≤ msr (.sl n 6 f) := by
  rw [msr_is]
  have h1 := partm_le f 6 (show i + 1 ≤ n by omega)
  rw [partm_succ] at h1
  have hs : rowm f 6 i = ((List.range 6).map fun j => msr (f i j)).sum := rfl
  simp only [List.range_succ, List.range_zero, List.nil_append, List.cons_append, List.map_cons, List.map_nil, List.sum_cons, List.sum_nil] at hs
  omega
theorem exFrom_msr {n : Nat} {f : Nat → Nat → Dat} (q : Fits (.sl n 3 f) .sources) : (exFrom (.sl n 3 f)).length ≤ msr (.sl n 3 f) := by
  have key : ∀ m, m ≤ n → (exFrom (.sl m 3 f)).length ≤ partm f 3 m := fun m => by
    induction m with
    | zero => intro _; exact Nat.zero_le _
    | succ m ih =>
      intro hm
      have h1 := ih (by omega)
      rw [exFrom_succ, List.length_append, partm_succ]
      have h2 : (f m 2).els.length ≤ msr (f m 2) := by
        have h3 : Fits (f m 2) .exprs := q.2.2.2 m (by omega) 2 (by decide)
        cases h4 : f m 2 with
        | v x => rw [h4] at h3; exact h3.elim
        | sl a b c => rw [els_len]; exact msr_n _ _ _
      have hs : rowm f 3 m = ((List.range 3).map fun j => msr (f m j)).sum := rfl
      simp only [List.range_succ, List.range_zero, List.nil_append, List.cons_append, List.map_cons, List.map_nil, List.sum_cons, List.sum_nil] at hs
      omega
  rw [msr_is]
  have := key n (Nat.le_refl _)
  omega
/-- every expression of a query, those of its stars too -/
def slotsOf (q : Nd) : List Nd := ((((q 1).els.map (cut 2)) ++ exFrom (q 2)) ++ (q 3).els) ++ (q 4).els
theorem els_msr {d : Dat} : d.els.length ≤ msr d := by
  cases d with
  | v x => exact Nat.zero_le _
  | sl n k f => rw [els_len]; exact msr_n _ _ _
theorem slotsOf_msr {n i : Nat} {f : Nat → Nat → Dat} (q : Fits (.sl n 6 f) .queries) (hi : i < n) : (slotsOf (f i)).length ≤ rowm f 6 i := by
  have h2 : (exFrom (f i 2)).length ≤ msr (f i 2) := by
    have h3 : Fits (f i 2) .sources := q.2.2.2 i hi 2 (by decide)
    cases h4 : f i 2 with
    | v x => rw [h4] at h3; exact h3.elim
    | sl a b c =>
      rw [h4] at h3
      have hb : b = 3 := h3.2.2.1
      subst hb
      exact exFrom_msr h3
  unfold slotsOf
  have k1 := els_msr (d := f i 1)
  have k3 := els_msr (d := f i 3)
  have k4 := els_msr (d := f i 4)
  have hs : rowm f 6 i = ((List.range 6).map fun j => msr (f i j)).sum := rfl
  simp only [List.range_succ, List.range_zero, List.nil_append, List.cons_append, List.map_cons, List.map_nil, List.sum_cons, List.sum_nil] at hs
  simp only [List.length_append, List.length_map]
  omega
theorem exprsOf_le (q : Nd) : (exprsOf q).length ≤ (slotsOf q).length := by
  unfold exprsOf slotsOf exItems
  simp only [List.length_append, List.length_map]
  have := List.length_filter_le (fun c : Nat → Dat => !(c 0).tru) (q 1).els
  omega
theorem flat_slots_msr {n : Nat} {f : Nat → Nat → Dat} (q : Fits (.sl n 6 f) .queries) {j : Nat} (hj : j ≤ n) : ((Dat.sl j 6 f).els.flatMap slotsOf).length ≤ msr (.sl n 6 f) := by
  have key : ∀ m, m ≤ n → ((Dat.sl m 6 f).els.flatMap slotsOf).length ≤ partm f 6 m := fun m => by
    induction m with
    | zero => intro _; exact Nat.zero_le _
    | succ m ih =>
      intro hm
      have h1 := ih (by omega)
      have h2 := slotsOf_msr q (show m < n by omega)
      rw [els_succ, List.flatMap_append, List.length_append, show [f m].flatMap slotsOf = slotsOf (f m) from List.append_nil _, partm_succ]
      omega
  rw [msr_is]
  have h1 := key j hj
  have h2 := partm_le f 6 hj
  omega
theorem flat_exprs_msr {n : Nat} {f : Nat → Nat → Dat} (q : Fits (.sl n 6 f) .queries) {j : Nat} (hj : j ≤ n) : ((Dat.sl j 6 f).els.flatMap exprsOf).length ≤ msr (.sl n 6 f) := by
  have h1 := flat_slots_msr q hj
  have h2 : ∀ l : List Nd, (l.flatMap exprsOf).length ≤ (l.flatMap slotsOf).length := fun l => by
    induction l with
    | nil => exact Nat.le_refl _
    | cons a l ih =>
      have := exprsOf_le a
      rw [List.flatMap_cons, List.flatMap_cons, List.length_append, List.length_append]
      omega
  exact Nat.le_trans (h2 _) h1
/-- the list so far -/
structure BS (w0 W wr : World) (out : Value) (L : List Nd) : Prop where
  own : PB w0 wr (W.heap.size + 1) out L
  b : Below W.heap.size W wr
  b0 : Below w0.heap.size w0 wr
  sz : W.heap.size + 1 ≤ wr.heap.size
theorem BS.next {w0 W wr w' : World} {out : Value} {L : List Nd} (H : BS w0 W wr out L) (h : Below wr.heap.size wr w') : BS w0 W w' out L :=
  ⟨H.own.later h, H.b.trans (h.mono H.b.size), H.b0.trans (h.mono H.b0.size), Nat.le_trans H.sz h.size⟩
theorem BS.app {w0 W wr w' : World} {out out' : Value} {L L' : List Nd} (H : BS w0 W wr out L) (h : PB w0 w' (W.heap.size + 1) out' L') (hb : Below (W.heap.size + 1) wr w') (hz : w0.heap.size ≤ W.heap.size) : BS w0 W w' out' L' :=
  ⟨h, H.b.trans (hb.mono (Nat.le_succ _)), H.b0.trans (hb.mono (Nat.le_succ_of_le hz)), Nat.le_trans H.sz hb.size⟩
set_option maxRecDepth 100000 in
set_option maxHeartbeats 8000000 in
theorem below_exprs (w0 W : World) (c : Nd) (ys : List Value) (hys : OutK exprTy w0 ys [c]) (hb0 : Below w0.heap.size w0 W) (hc : Bd c) :
    Calls Try.prog 137 #[.agg ys.toArray, .func (.func 46) #[] #[]] W fun e w' => ∃ v, e = .returned v ∧ PB w0 w' (W.heap.size + 1) v ((c 8).els ++ (c 9).els.flatMap exprsOf) ∧ Below W.heap.size W w' := by
  obtain ⟨c0, c1, c2, c3, c4, c5, c6, c7, a8, n8, p8, a9, n9, p9, rfl, -, -, -, -, -, -, -, -, ⟨r8, q8⟩, ⟨r9, q9⟩⟩ := hys.ten
  obtain ⟨f8, e8, r8, q8⟩ := r8.openS q8 rfl
  obtain ⟨f9, e9, r9, q9⟩ := r9.openS q9 rfl
  have m8 := hc.m8
  have m9 := hc.m9
  rw [e8] at m8
  rw [e9] at m9
  rw [e8, e9]
  replace m8 : msr (.sl n8 10 f8) ≤ 1048576 := m8
  replace m9 : msr (.sl n9 6 f9) ≤ 1048576 := m9
  replace r8 : Rd w0 0 (.slice a8 n8 p8) (.sl n8 10 f8) := r8
  replace r9 : Rd w0 0 (.slice a9 n9 p9) (.sl n9 6 f9) := r9
  replace q8 : Fits (.sl n8 10 f8) .exprs := q8
  replace q9 : Fits (.sl n9 6 f9) .queries := q9
  show Calls _ _ _ _ fun e w' => ∃ v, e = .returned v ∧ PB w0 w' (W.heap.size + 1) v ((Dat.sl n8 10 f8).els ++ (Dat.sl n9 6 f9).els.flatMap exprsOf) ∧ Below W.heap.size W w'
  have hn9 : n9 ≤ 9223372036854775807 := q9.2.1
  have hn8 : n8 ≤ 1048576 := Nat.le_trans (msr_n _ _ _) m8
  clear hys hc e8 e9
  have hz := hb0.size
  have HB := BX.new W 29 #[.int .i64 c0, .int .i64 c1, .bool c2, .int .i64 c3, .int .i64 c4, .string c5, .string c6, .string c7, .slice a8 n8 p8, .slice a9 n9 p9]
  have hlk := r8.lk (G := fun g => g < w0.heap.size) q8 fun g h => h
  have hl8 : (Dat.sl n8 10 f8).els.length = n8 := els_len _ _ _
  have hPB : PB w0 (W.alloc (.cells #[.int .i64 c0, .int .i64 c1, .bool c2, .int .i64 c3, .int .i64 c4, .string c5, .string c6, .string c7, .slice a8 n8 p8, .slice a9 n9 p9] 29)) (W.heap.size + 1) (.slice a8 n8 n8) (Dat.sl n8 10 f8).els := by
    obtain ⟨ax, cx, C, e, hC, hcell⟩ := hlk
    injection e with e1 e2 e3
    subst e1; subst e3
    cases a8 with
    | none =>
      have h0 : (Dat.sl n8 10 f8).els = [] := by
        rcases hcell with h | ⟨_, _, h, _⟩
        · exact h
        · cases h
      have hn0 : n8 = 0 := by rw [← hl8, h0]; rfl
      subst hn0
      exact .inr ⟨[], World.ownsRow_nil _ _ _ _, OutP.nil w0⟩
    | some b => exact .inl ⟨b, n8, rfl, _, n8, C, by rw [hl8], hC, hcell.imp id fun ⟨g, o, e, h1, h2⟩ => ⟨g, o, e, by rw [hl8]; exact Nat.le_refl _, h2⟩⟩
  have hclip := clip_any a8 n8 p8 (by obtain ⟨_, _, e, h, _⟩ := r8; injection e with _ _ e3; omega) (by omega) (by obtain ⟨_, _, e, _, _, h⟩ := r8; injection e with e1 e2 e3; subst e1; exact h.imp id fun ⟨g, o, e, _⟩ => ⟨g, o, e⟩)
  go_enter Try.func137, Try.ntmps137
  have b8 := HB.box.cell (i := 8) (v := .slice a8 n8 p8) rfl
  have b9 := HB.box.cell (i := 9) (v := .slice a9 n9 p9) rfl
  go_wp2_with fail
  generalize W.alloc (.cells #[.int .i64 c0, .int .i64 c1, .bool c2, .int .i64 c3, .int .i64 c4, .string c5, .string c6, .string c7, .slice a8 n8 p8, .slice a9 n9 p9] 29) = w1 at HB hPB b8 b9 ⊢
  refine (hclip w1).mono ?_
  rintro e w2 ⟨rfl, rfl⟩
  clear hclip b8
  go_wp2_with fail
  clear b9
  have HS : BS w0 W w2 (.slice a8 n8 n8) ((Dat.sl n8 10 f8).els ++ (Dat.sl 0 6 f9).els.flatMap exprsOf) := ⟨by show PB _ _ _ _ (_ ++ []); rw [List.append_nil]; exact hPB, HB.b, hb0.trans (HB.b.mono hz), HB.box.lt⟩
  clear HB hPB hlk
  go_loopw [5, 14] (fun out i wr => ∃ (j : Nat) (v : Value), j ≤ n9 ∧ i = .int .i64 (j : Int) ∧ v = out ∧ BS w0 W wr v ((Dat.sl n8 10 f8).els ++ (Dat.sl j 6 f9).els.flatMap exprsOf)) (fun _ i _ => n9 - (intOf i).toNat)
  case atStart => exact ⟨0, _, by omega, rfl, rfl, HS⟩
  case round =>
    obtain ⟨j, v, hj, rfl, rfl, H⟩ := hrel
    by_cases hlt : j < n9
    · have hlt2 : (j : Int) < (n9 : Int) := by omega
      obtain ⟨g, o, rfl, -, hg, d0, x1, x2, x3, x4, d5, ⟨z0, z1, z2, z3, z4, z5⟩, ⟨e0, ⟨r1, q1⟩, ⟨r2, q2⟩, ⟨r3, q3⟩, ⟨r4, q4⟩, ⟨e5, _⟩⟩⟩ := row_queries r9 q9 hlt
      obtain ⟨a1, n1, t1, rfl⟩ := r1.slice_of q1 rfl
      obtain ⟨a2, n2, t2, rfl⟩ := r2.slice_of q2 rfl
      obtain ⟨a3, n3, t3, rfl⟩ := r3.slice_of q3 rfl
      obtain ⟨a4, n4, t4, rfl⟩ := r4.slice_of q4 rfl
      have hrow := row_msr (n := n9) (f := f9) hlt
      obtain ⟨h1, E1, r1, q1⟩ := r1.openS q1 rfl
      obtain ⟨h2, E2, r2, q2⟩ := r2.openS q2 rfl
      obtain ⟨h3, E3, r3, q3⟩ := r3.openS q3 rfl
      obtain ⟨h4, E4, r4, q4⟩ := r4.openS q4 rfl
      have hN : n1 + (exFrom (.sl n2 3 h2)).length + n3 + n4 ≤ 1048576 := by
        rw [E1, E2, E3, E4] at hrow
        have k1 := msr_n n1 13 h1
        have k2 := exFrom_msr q2
        have k3 := msr_n n3 10 h3
        have k4 := msr_n n4 11 h4
        simp only [rowTy, exprTy, List.length_cons, List.length_nil, List.length_append, Nat.zero_add, Nat.reduceAdd] at hrow
        omega
      have hex : exprsOf (f9 j) = ((exItems (.sl n1 13 h1) ++ exFrom (.sl n2 3 h2)) ++ (Dat.sl n3 10 h3).els) ++ (Dat.sl n4 11 h4).els := by
        unfold exprsOf
        rw [E1, E2, E3, E4]
        rfl
      have hlen : ((Dat.sl n8 10 f8).els ++ (Dat.sl j 6 f9).els.flatMap exprsOf).length + (exprsOf (f9 j)).length ≤ 4000000 := by
        have k1 := flat_exprs_msr q9 (show j + 1 ≤ n9 by omega)
        rw [els_succ, List.flatMap_append, List.length_append, show [f9 j].flatMap exprsOf = exprsOf (f9 j) from List.append_nil _] at k1
        rw [List.length_append, hl8]
        omega
      have hs : (Dat.sl n8 10 f8).els ++ (Dat.sl (j + 1) 6 f9).els.flatMap exprsOf = ((Dat.sl n8 10 f8).els ++ (Dat.sl j 6 f9).els.flatMap exprsOf) ++ exprsOf (f9 j) := by
        rw [els_succ, List.flatMap_append, show [f9 j].flatMap exprsOf = exprsOf (f9 j) from List.append_nil _, List.append_assoc]
      replace z0 := (H.b0.cell (p := ⟨g, o + j * 6, none⟩) hg).trans z0
      replace z1 := (H.b0.cell (p := ⟨g, o + j * 6 + 1, none⟩) hg).trans z1
      replace z2 := (H.b0.cell (p := ⟨g, o + j * 6 + 2, none⟩) hg).trans z2
      replace z3 := (H.b0.cell (p := ⟨g, o + j * 6 + 3, none⟩) hg).trans z3
      replace z4 := (H.b0.cell (p := ⟨g, o + j * 6 + 4, none⟩) hg).trans z4
      replace z5 := (H.b0.cell (p := ⟨g, o + j * 6 + 5, none⟩) hg).trans z5
      have hal : Below wr.heap.size wr (wr.alloc (.cells #[.bool d0, .slice a1 n1 t1, .slice a2 n2 t2, .slice a3 n3 t3, .slice a4 n4 t4, .int .i64 d5] 38)) := (Below.refl _ _).alloc (Nat.le_refl _) _
      have H1 := H.next hal
      have hcall := exprsIn_any w0 (wr.alloc (.cells #[.bool d0, .slice a1 n1 t1, .slice a2 n2 t2, .slice a3 n3 t3, .slice a4 n4 t4, .int .i64 d5] 38)) d0 a1 n1 t1 a2 n2 t2 a3 n3 t3 a4 n4 t4 d5 h1 h2 h3 h4 H1.b0 r1 q1 r2 q2 r3 q3 r4 q4 hN
      rw [← hex] at hcall
      have HSS := Lib.hid hs
      have HL := Lib.hid hlen
      clear hs hlen hex hrow E1 E2 E3 E4 e0 e5 r1 r2 r3 r4 q1 q2 q3 q4 hN
      go_wp2_with fail
      refine hcall.mono ?_
      clear hcall
      rintro e w3 ⟨v3, rfl, ho, hb3⟩
      have H3 := H1.next (hb3.mono (by simp))
      clear z0 z1 z2 z3 z4 z5 hal H1 hb3
      go_wp2_with (at_builtin; refine appF rfl (.tmp 18) (.tmp 21) rfl w0 (W.heap.size + 1) _ v v3 ((Dat.sl n8 10 f8).els ++ (Dat.sl j 6 f9).els.flatMap exprsOf) (exprsOf (f9 j)) w3 rfl rfl H3.b0 H3.own ho HL.out H3.sz ?_; intro v' w' hown' hb')
      have H4 := H3.app hown' hb' hz
      rw [← HSS.out] at H4
      go_roundw
      case rel => exact ⟨j + 1, _, by omega, by go_num, rfl, H4⟩
      case measure => simp [intOf]; omega
    · obtain rfl : n9 = j := by omega
      clear hlt hj
      go_wp2_with fail
      go_ret
      exact ⟨v, rfl, H.own, H.b⟩
end Go.Proofs.Ytgihklohhjhjbaa
