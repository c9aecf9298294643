/- Joined texts: Below WrapdI Deep TwMath. -/
import Derived.Test.YtfmgkinindkedaaQWRM
import Derived.Test.YtfmgkinindkedaaQHNeedI
import Derived.Test.YtfmgkinindkedaaQWRF
import Derived.Test.YtfmgkinindkedaaQWRB
import Derived.Test.YtfmgkinindkedaaQWRH
import Derived.Shelf.Abstract
/- The program's below: what lies directly below an expression. -/
namespace Go.Proofs.Ytfmgkinindkedaa
open Go.RowKit

theorem Rd.openS {w : World} {x : Option Addr} {n p : Nat} {d : Dat} {ty : Ty} (r : Rd w 0 (.slice x n p) d) (q : Fits d ty) (hd : deep ty = true) :
    ∃ f, d = .sl n (rowTy ty).length f ∧ Rd w 0 (.slice x n p) (.sl n (rowTy ty).length f) ∧ Fits (.sl n (rowTy ty).length f) ty := by
  obtain ⟨n', k, f, rfl⟩ := q.deep hd
  have hk : k = _ := q.2.2.1
  subst hk
  have h2 : n = n' := by obtain ⟨_, _, e, _⟩ := r; injection e
  subst h2
  exact ⟨f, rfl, r, q⟩
theorem clip_any (a : Option Addr) (n cap : Nat) (hn : n ≤ cap) (h63 : n ≤ 1048576) (ha : n = 0 ∨ ∃ g o, a = some ⟨g, o, none⟩) (W : World) :
    Calls Try.prog 177 #[.slice a n cap] W fun e w' => e = .returned (.slice a n n) ∧ w' = W := by
  rcases Nat.eq_zero_or_pos n with rfl | hp
  · go_enter Try.func177, Try.ntmps177
    go_wp2_with fail
    go_ret
    exact ⟨rfl, rfl⟩
  · obtain ⟨g, o, rfl⟩ : ∃ g o, a = some ⟨g, o, none⟩ := ha.resolve_left (by omega)
    have h1 : ¬ n = 0 := by omega
    have h2 : (n : Int) ≤ (cap : Int) := by omega
    go_enter Try.func177, Try.ntmps177
    go_wp2_with fail
    go_ret
    exact ⟨rfl, rfl⟩
theorem row_msr {n i : Nat} {f : Nat → Nat → Dat} (hi : i < n) : msr (f i 1) + msr (f i 2) + msr (f i 3) + msr (f i 4) ≤ msr (.sl n 6 f) := by
  rw [msr_is]
  have h1 := partm_le f 6 (show i + 1 ≤ n by omega)
  rw [partm_succ] at h1
  have hs : rowm f 6 i = ((List.range 6).map fun j => msr (f i j)).sum := rfl
  simp only [List.range_succ, List.range_zero, List.nil_append, List.cons_append, List.map_cons, List.map_nil, List.sum_cons, List.sum_nil] at hs
  omega
theorem exFrom_msr {n : Nat} {f : Nat → Nat → Dat} (q : Fits (.sl n 3 f) .sources) : (exFrom (.sl n 3 f)).length ≤ msr (.sl n 3 f) := by
  have key : ∀ m, m ≤ n → (exFrom (.sl m 3 f)).length ≤ partm f 3 m := fun m => by
    induction m with
    | zero => intro _; exact Nat.zero_le _
    | succ m ih =>
      intro hm
      have h1 := ih (by omega)
      rw [exFrom_succ, List.length_append, partm_succ]
      have h2 : (f m 2).els.length ≤ msr (f m 2) := by
        have h3 : Fits (f m 2) .exprs := q.2.2.2 m (by omega) 2 (by decide)
        cases h4 : f m 2 with
        | v x => rw [h4] at h3; exact h3.elim
        | sl a b c => rw [els_len]; exact msr_n _ _ _
      have hs : rowm f 3 m = ((List.range 3).map fun j => msr (f m j)).sum := rfl
      simp only [List.range_succ, List.range_zero, List.nil_append, List.cons_append, List.map_cons, List.map_nil, List.sum_cons, List.sum_nil] at hs
      omega
  rw [msr_is]
  have := key n (Nat.le_refl _)
  omega
/-- every expression of a query, those of its stars too -/
def slotsOf (q : Nd) : List Nd := ((((q 1).els.map (cut 2)) ++ exFrom (q 2)) ++ (q 3).els) ++ (q 4).els
theorem els_msr {d : Dat} : d.els.length ≤ msr d := by
  cases d with
  | v x => exact Nat.zero_le _
  | sl n k f => rw [els_len]; exact msr_n _ _ _
theorem slotsOf_msr {n i : Nat} {f : Nat → Nat → Dat} (q : Fits (.sl n 6 f) .queries) (hi : i < n) : (slotsOf (f i)).length ≤ rowm f 6 i := by
  have h2 : (exFrom (f i 2)).length ≤ msr (f i 2) := by
    have h3 : Fits (f i 2) .sources := q.2.2.2 i hi 2 (by decide)
    cases h4 : f i 2 with
    | v x => rw [h4] at h3; exact h3.elim
    | sl a b c =>
      rw [h4] at h3
      have hb : b = 3 := h3.2.2.1
      subst hb
      exact exFrom_msr h3
  unfold slotsOf
  have k1 := els_msr (d := f i 1)
  have k3 := els_msr (d := f i 3)
  have k4 := els_msr (d := f i 4)
  have hs : rowm f 6 i = ((List.range 6).map fun j => msr (f i j)).sum := rfl
  simp only [List.range_succ, List.range_zero, List.nil_append, List.cons_append, List.map_cons, List.map_nil, List.sum_cons, List.sum_nil] at hs
  simp only [List.length_append, List.length_map]
  omega
theorem exprsOf_le (q : Nd) : (exprsOf q).length ≤ (slotsOf q).length := by
  unfold exprsOf slotsOf exItems
  simp only [List.length_append, List.length_map]
  have := List.length_filter_le (fun c : Nat → Dat => !(c 0).tru) (q 1).els
  omega
theorem flat_slots_msr {n : Nat} {f : Nat → Nat → Dat} (q : Fits (.sl n 6 f) .queries) {j : Nat} (hj : j ≤ n) : ((Dat.sl j 6 f).els.flatMap slotsOf).length ≤ msr (.sl n 6 f) := by
  have key : ∀ m, m ≤ n → ((Dat.sl m 6 f).els.flatMap slotsOf).length ≤ partm f 6 m := fun m => by
    induction m with
    | zero => intro _; exact Nat.zero_le _
    | succ m ih =>
      intro hm
      have h1 := ih (by omega)
      have h2 := slotsOf_msr q (show m < n by omega)
      rw [els_succ, List.flatMap_append, List.length_append, show [f m].flatMap slotsOf = slotsOf (f m) from List.append_nil _, partm_succ]
      omega
  rw [msr_is]
  have h1 := key j hj
  have h2 := partm_le f 6 hj
  omega
theorem flat_exprs_msr {n : Nat} {f : Nat → Nat → Dat} (q : Fits (.sl n 6 f) .queries) {j : Nat} (hj : j ≤ n) : ((Dat.sl j 6 f).els.flatMap exprsOf).length ≤ msr (.sl n 6 f) := by
  have h1 := flat_slots_msr q hj
  have h2 : ∀ l : List Nd, (l.flatMap exprsOf).length ≤ (l.flatMap slotsOf).length := fun l => by
    induction l with
    | nil => exact Nat.le_refl _
    | cons a l ih =>
      have := exprsOf_le a
      rw [List.flatMap_cons, List.flatMap_cons, List.length_append, List.length_append]
      omega
  exact Nat.le_trans (h2 _) h1
/-- the list so far -/
structure BS (w0 W wr : World) (out : Value) (L : List Nd) : Prop where
  own : PB w0 wr (W.heap.size + 1) out L
  b : Below W.heap.size W wr
  b0 : Below w0.heap.size w0 wr
  sz : W.heap.size + 1 ≤ wr.heap.size
theorem BS.next {w0 W wr w' : World} {out : Value} {L : List Nd} (H : BS w0 W wr out L) (h : Below wr.heap.size wr w') : BS w0 W w' out L :=
  ⟨H.own.later h, H.b.trans (h.mono H.b.size), H.b0.trans (h.mono H.b0.size), Nat.le_trans H.sz h.size⟩
theorem BS.app {w0 W wr w' : World} {out out' : Value} {L L' : List Nd} (H : BS w0 W wr out L) (h : PB w0 w' (W.heap.size + 1) out' L') (hb : Below (W.heap.size + 1) wr w') (hz : w0.heap.size ≤ W.heap.size) : BS w0 W w' out' L' :=
  ⟨h, H.b.trans (hb.mono (Nat.le_succ _)), H.b0.trans (hb.mono (Nat.le_succ_of_le hz)), Nat.le_trans H.sz hb.size⟩
set_option maxRecDepth 100000 in
set_option maxHeartbeats 8000000 in
theorem below_exprs (w0 W : World) (c : Nd) (ys : List Value) (hys : OutK exprTy w0 ys [c]) (hb0 : Below w0.heap.size w0 W) (hc : Bd c) :
    Calls Try.prog 154 #[.agg ys.toArray, .func (.func 79) #[] #[]] W fun e w' => ∃ v, e = .returned v ∧ PB w0 w' (W.heap.size + 1) v ((c 8).els ++ (c 9).els.flatMap exprsOf) ∧ Below W.heap.size W w' := by
  obtain ⟨c0, c1, c2, c3, c4, c5, c6, c7, a8, n8, p8, a9, n9, p9, rfl, -, -, -, -, -, -, -, -, ⟨r8, q8⟩, ⟨r9, q9⟩⟩ := hys.ten
  obtain ⟨f8, e8, r8, q8⟩ := r8.openS q8 rfl
  obtain ⟨f9, e9, r9, q9⟩ := r9.openS q9 rfl
  have m8 := hc.m8
  have m9 := hc.m9
  rw [e8] at m8
  rw [e9] at m9
  rw [e8, e9]
  replace m8 : msr (.sl n8 10 f8) ≤ 1048576 := m8
  replace m9 : msr (.sl n9 6 f9) ≤ 1048576 := m9
  replace r8 : Rd w0 0 (.slice a8 n8 p8) (.sl n8 10 f8) := r8
  replace r9 : Rd w0 0 (.slice a9 n9 p9) (.sl n9 6 f9) := r9
  replace q8 : Fits (.sl n8 10 f8) .exprs := q8
  replace q9 : Fits (.sl n9 6 f9) .queries := q9
  show Calls _ _ _ _ fun e w' => ∃ v, e = .returned v ∧ PB w0 w' (W.heap.size + 1) v ((Dat.sl n8 10 f8).els ++ (Dat.sl n9 6 f9).els.flatMap exprsOf) ∧ Below W.heap.size W w'
  have hn9 : n9 ≤ 9223372036854775807 := q9.2.1
  have hn8 : n8 ≤ 1048576 := Nat.le_trans (msr_n _ _ _) m8
  clear hys hc e8 e9
  have hz := hb0.size
  have HB := BX.new W 56 #[.int .i64 c0, .int .i64 c1, .bool c2, .int .i64 c3, .int .i64 c4, .string c5, .string c6, .string c7, .slice a8 n8 p8, .slice a9 n9 p9]
  have hlk := r8.lk (G := fun g => g < w0.heap.size) q8 fun g h => h
  have hl8 : (Dat.sl n8 10 f8).els.length = n8 := els_len _ _ _
  have hPB : PB w0 (W.alloc (.cells #[.int .i64 c0, .int .i64 c1, .bool c2, .int .i64 c3, .int .i64 c4, .string c5, .string c6, .string c7, .slice a8 n8 p8, .slice a9 n9 p9] 56)) (W.heap.size + 1) (.slice a8 n8 n8) (Dat.sl n8 10 f8).els := by
    obtain ⟨ax, cx, C, e, hC, hcell⟩ := hlk
    injection e with e1 e2 e3
    subst e1; subst e3
    cases a8 with
    | none =>
      have h0 : (Dat.sl n8 10 f8).els = [] := by
        rcases hcell with h | ⟨_, _, h, _⟩
        · exact h
        · cases h
      have hn0 : n8 = 0 := by rw [← hl8, h0]; rfl
      subst hn0
      exact .inr ⟨[], World.ownsRow_nil _ _ _ _, OutP.nil w0⟩
    | some b => exact .inl ⟨b, n8, rfl, _, n8, C, by rw [hl8], hC, hcell.imp id fun ⟨g, o, e, h1, h2⟩ => ⟨g, o, e, by rw [hl8]; exact Nat.le_refl _, h2⟩⟩
  have hclip := clip_any a8 n8 p8 (by obtain ⟨_, _, e, h, _⟩ := r8; injection e with _ _ e3; omega) (by omega) (by obtain ⟨_, _, e, _, _, h⟩ := r8; injection e with e1 e2 e3; subst e1; exact h.imp id fun ⟨g, o, e, _⟩ => ⟨g, o, e⟩)
  go_enter Try.func154, Try.ntmps154
  have b8 := HB.box.cell (i := 8) (v := .slice a8 n8 p8) rfl
  have b9 := HB.box.cell (i := 9) (v := .slice a9 n9 p9) rfl
  go_wp2_with fail
  generalize W.alloc (.cells #[.int .i64 c0, .int .i64 c1, .bool c2, .int .i64 c3, .int .i64 c4, .string c5, .string c6, .string c7, .slice a8 n8 p8, .slice a9 n9 p9] 56) = w1 at HB hPB b8 b9 ⊢
  refine (hclip w1).mono ?_
  rintro e w2 ⟨rfl, rfl⟩
  clear hclip b8
  go_wp2_with fail
  clear b9
  have HS : BS w0 W w2 (.slice a8 n8 n8) ((Dat.sl n8 10 f8).els ++ (Dat.sl 0 6 f9).els.flatMap exprsOf) := ⟨by show PB _ _ _ _ (_ ++ []); rw [List.append_nil]; exact hPB, HB.b, hb0.trans (HB.b.mono hz), HB.box.lt⟩
  clear HB hPB hlk
  go_loopw [5, 14] (fun out i wr => ∃ (j : Nat) (v : Value), j ≤ n9 ∧ i = .int .i64 (j : Int) ∧ v = out ∧ BS w0 W wr v ((Dat.sl n8 10 f8).els ++ (Dat.sl j 6 f9).els.flatMap exprsOf)) (fun _ i _ => n9 - (intOf i).toNat)
  case atStart => exact ⟨0, _, by omega, rfl, rfl, HS⟩
  case round =>
    obtain ⟨j, v, hj, rfl, rfl, H⟩ := hrel
    by_cases hlt : j < n9
    · have hlt2 : (j : Int) < (n9 : Int) := by omega
      obtain ⟨g, o, rfl, -, hg, d0, x1, x2, x3, x4, d5, ⟨z0, z1, z2, z3, z4, z5⟩, ⟨e0, ⟨r1, q1⟩, ⟨r2, q2⟩, ⟨r3, q3⟩, ⟨r4, q4⟩, ⟨e5, _⟩⟩⟩ := row_queries r9 q9 hlt
      obtain ⟨a1, n1, t1, rfl⟩ := r1.slice_of q1 rfl
      obtain ⟨a2, n2, t2, rfl⟩ := r2.slice_of q2 rfl
      obtain ⟨a3, n3, t3, rfl⟩ := r3.slice_of q3 rfl
      obtain ⟨a4, n4, t4, rfl⟩ := r4.slice_of q4 rfl
      have hrow := row_msr (n := n9) (f := f9) hlt
      obtain ⟨h1, E1, r1, q1⟩ := r1.openS q1 rfl
      obtain ⟨h2, E2, r2, q2⟩ := r2.openS q2 rfl
      obtain ⟨h3, E3, r3, q3⟩ := r3.openS q3 rfl
      obtain ⟨h4, E4, r4, q4⟩ := r4.openS q4 rfl
      have hN : n1 + (exFrom (.sl n2 3 h2)).length + n3 + n4 ≤ 1048576 := by
        rw [E1, E2, E3, E4] at hrow
        have k1 := msr_n n1 13 h1
        have k2 := exFrom_msr q2
        have k3 := msr_n n3 10 h3
        have k4 := msr_n n4 11 h4
        simp only [rowTy, exprTy, List.length_cons, List.length_nil, List.length_append, Nat.zero_add, Nat.reduceAdd] at hrow
        omega
      have hex : exprsOf (f9 j) = ((exItems (.sl n1 13 h1) ++ exFrom (.sl n2 3 h2)) ++ (Dat.sl n3 10 h3).els) ++ (Dat.sl n4 11 h4).els := by
        unfold exprsOf
        rw [E1, E2, E3, E4]
        rfl
      have hlen : ((Dat.sl n8 10 f8).els ++ (Dat.sl j 6 f9).els.flatMap exprsOf).length + (exprsOf (f9 j)).length ≤ 4000000 := by
        have k1 := flat_exprs_msr q9 (show j + 1 ≤ n9 by omega)
        rw [els_succ, List.flatMap_append, List.length_append, show [f9 j].flatMap exprsOf = exprsOf (f9 j) from List.append_nil _] at k1
        rw [List.length_append, hl8]
        omega
      have hs : (Dat.sl n8 10 f8).els ++ (Dat.sl (j + 1) 6 f9).els.flatMap exprsOf = ((Dat.sl n8 10 f8).els ++ (Dat.sl j 6 f9).els.flatMap exprsOf) ++ exprsOf (f9 j) := by
        rw [els_succ, List.flatMap_append, show [f9 j].flatMap exprsOf = exprsOf (f9 j) from List.append_nil _, List.append_assoc]
      replace z0 := (H.b0.cell (p := ⟨g, o + j * 6, none⟩) hg).trans z0
      replace z1 := (H.b0.cell (p := ⟨g, o + j * 6 + 1, none⟩) hg).trans z1
      replace z2 := (H.b0.cell (p := ⟨g, o + j * 6 + 2, none⟩) hg).trans z2
      replace z3 := (H.b0.cell (p := ⟨g, o + j * 6 + 3, none⟩) hg).trans z3
      replace z4 := (H.b0.cell (p := ⟨g, o + j * 6 + 4, none⟩) hg).trans z4
      replace z5 := (H.b0.cell (p := ⟨g, o + j * 6 + 5, none⟩) hg).trans z5
      have hal : Below wr.heap.size wr (wr.alloc (.cells #[.bool d0, .slice a1 n1 t1, .slice a2 n2 t2, .slice a3 n3 t3, .slice a4 n4 t4, .int .i64 d5] 39)) := (Below.refl _ _).alloc (Nat.le_refl _) _
      have H1 := H.next hal
      have hcall := exprsIn_any w0 (wr.alloc (.cells #[.bool d0, .slice a1 n1 t1, .slice a2 n2 t2, .slice a3 n3 t3, .slice a4 n4 t4, .int .i64 d5] 39)) d0 a1 n1 t1 a2 n2 t2 a3 n3 t3 a4 n4 t4 d5 h1 h2 h3 h4 H1.b0 r1 q1 r2 q2 r3 q3 r4 q4 hN
      rw [← hex] at hcall
      have HSS := Lib.hid hs
      have HL := Lib.hid hlen
      clear hs hlen hex hrow E1 E2 E3 E4 e0 e5 r1 r2 r3 r4 q1 q2 q3 q4 hN
      go_wp2_with fail
      refine hcall.mono ?_
      clear hcall
      rintro e w3 ⟨v3, rfl, ho, hb3⟩
      have H3 := H1.next (hb3.mono (by simp))
      clear z0 z1 z2 z3 z4 z5 hal H1 hb3
      go_wp2_with (at_builtin; refine appF rfl (.tmp 18) (.tmp 21) rfl w0 (W.heap.size + 1) _ v v3 ((Dat.sl n8 10 f8).els ++ (Dat.sl j 6 f9).els.flatMap exprsOf) (exprsOf (f9 j)) w3 rfl rfl H3.b0 H3.own ho HL.out H3.sz ?_; intro v' w' hown' hb')
      have H4 := H3.app hown' hb' hz
      rw [← HSS.out] at H4
      go_roundw
      case rel => exact ⟨j + 1, _, by omega, by go_num, rfl, H4⟩
      case measure => simp [intOf]; omega
    · obtain rfl : n9 = j := by omega
      clear hlt hj
      go_wp2_with fail
      go_ret
      exact ⟨v, rfl, H.own, H.b⟩
end Go.Proofs.Ytfmgkinindkedaa

/- The program's Wrapped. -/
namespace Go.Proofs.Ytfmgkinindkedaa
open Go.RowKit

set_option maxRecDepth 100000 in
set_option maxHeartbeats 8000000 in
theorem wrapped_any (w0 : World) (c : Nd) (ys : List Value) (w : World) (hys : OutK exprTy w0 ys [c]) (hb0 : Below w0.heap.size w0 w) (k : Int) :
    Calls Try.prog 26 #[.agg ys.toArray, .int .i64 k] w (BoolE (wrapB c k) w) := by
  obtain ⟨c0, c1, c2, c3, c4, c5, c6, c7, a8, n8, p8, a9, n9, p9, rfl, ⟨e0, -⟩, ⟨e1, -⟩, -, -, -, -, -, -, ⟨r8, q8⟩, -⟩ := hys.ten
  obtain ⟨f8, e8, r8, q8⟩ := r8.openS q8 rfl
  replace r8 := Rd.later r8 hb0
  replace e8 : c 8 = .sl n8 10 f8 := e8
  have hR := wrapB_is e0 e1 e8 k
  clear e0 e1 e8 hb0 hys
  have hn8 := q8.2.1
  have HB := BX.new w 56 #[.int .i64 c0, .int .i64 c1, .bool c2, .int .i64 c3, .int .i64 c4, .string c5, .string c6, .string c7, .slice a8 n8 p8, .slice a9 n9 p9]
  have x0 := HB.box.cell (i := 0) (v := .int .i64 c0) rfl
  have x1 := HB.box.cell (i := 1) (v := .int .i64 c1) rfl
  have x2 := HB.box.cell (i := 2) (v := .bool c2) rfl
  have x3 := HB.box.cell (i := 3) (v := .int .i64 c3) rfl
  have x4 := HB.box.cell (i := 4) (v := .int .i64 c4) rfl
  have x5 := HB.box.cell (i := 5) (v := .string c5) rfl
  have x6 := HB.box.cell (i := 6) (v := .string c6) rfl
  have x7 := HB.box.cell (i := 7) (v := .string c7) rfl
  have x8 := HB.box.cell (i := 8) (v := .slice a8 n8 p8) rfl
  have x9 := HB.box.cell (i := 9) (v := .slice a9 n9 p9) rfl
  have hN := fun w => needs_impl c0 c1 c2 c3 c4 c5 c6 c7 a8 n8 p8 a9 n9 p9 k w
  have hI := fun w => hasKid_any c0 c1 c2 c3 c4 c5 c6 c7 a8 n8 p8 a9 n9 p9 k w
  generalize needV c0 (levV c0 c1) n8 k = N at hN hR
  generalize wrapB c k = R at hR ⊢
  have HR := Lib.hid hR
  clear hR
  go_enter Try.func26, Try.ntmps26
  go_wp2_with fail
  have hbw := HB.b
  generalize w.alloc (.cells #[.int .i64 c0, .int .i64 c1, .bool c2, .int .i64 c3, .int .i64 c4, .string c5, .string c6, .string c7, .slice a8 n8 p8, .slice a9 n9 p9] 56) = W at HB hbw x0 x1 x2 x3 x4 x5 x6 x7 x8 x9 ⊢
  cases hk : isKid n8 k
  · rw [hk] at hI
    have hr : R = false := by rw [HR.out, hk]; rfl
    subst hr
    clear hk hN HR
    replace x0 := lat_cell x0
    replace x1 := lat_cell x1
    replace x2 := lat_cell x2
    replace x3 := lat_cell x3
    replace x4 := lat_cell x4
    replace x5 := lat_cell x5
    replace x6 := lat_cell x6
    replace x7 := lat_cell x7
    replace x8 := lat_cell x8
    replace x9 := lat_cell x9
    refine region_lat (by kernel_rfl) (by kernel_rfl) ?_
    iterate 2 go_big_quiet_step (fail)
    go_big_quiet_step ((refine (hI _).mono ?_; rintro e w'' ⟨rfl, hb''⟩; exact ⟨rfl, lat_to hb''⟩))
    iterate 13 go_big_quiet_step (fail)
    refine wpQuiet_nil ?_
    rintro _ ⟨nq, rfl⟩
    have hbq := hbw.trans ((lat_below W nq).mono hbw.size)
    go_wp2_with fail
    go_ret
    exact ⟨rfl, hbq⟩
  · obtain ⟨j, rfl, hj⟩ := isKid_true hk
    rw [hk] at hI
    have HR2 : Hid (R = decide (levV (f8 j 0).num (f8 j 1).num < N)) := by show R = _; rw [HR.out, hk]; rfl
    clear hk HR
    obtain ⟨g, o, rfl, -, hg, y0, y1, y2, y3, y4, y5, y6, y7, y8, y9, ⟨z0, z1, z2, z3, z4, z5, z6, z7, z8, z9⟩, ⟨⟨e0, -⟩, ⟨e1, -⟩, -, -, -, -, -, -, ⟨s8, t8⟩, ⟨s9, t9⟩⟩⟩ := row_exprs (r8.later hbw) q8 hj
    obtain ⟨ka, kn, kp, rfl⟩ := s8.slice_of t8 rfl
    obtain ⟨la, ln, lp, rfl⟩ := s9.slice_of t9 rfl
    have hj2 : (j : Int) < (n8 : Int) := by omega
    have hL := fun w => levelOf_impl y0 y1 y2 y3 y4 y5 y6 y7 ka kn kp la ln lp w
    have hR3 : R = decide (levV y0 y1 < N) := by rw [HR2.out, num_is e0, num_is e1]
    clear HR2
    generalize levV y0 y1 = L at hL hR3
    clear e0 e1 s8 t8 s9 t9
    replace x0 := lat_cell x0
    replace x1 := lat_cell x1
    replace x2 := lat_cell x2
    replace x3 := lat_cell x3
    replace x4 := lat_cell x4
    replace x5 := lat_cell x5
    replace x6 := lat_cell x6
    replace x7 := lat_cell x7
    replace x8 := lat_cell x8
    replace x9 := lat_cell x9
    replace z0 := lat_cell z0
    replace z1 := lat_cell z1
    replace z2 := lat_cell z2
    replace z3 := lat_cell z3
    replace z4 := lat_cell z4
    replace z5 := lat_cell z5
    replace z6 := lat_cell z6
    replace z7 := lat_cell z7
    replace z8 := lat_cell z8
    replace z9 := lat_cell z9
    cases R
    all_goals
      have hV2 := hR3.symm
      clear hR3
      refine region_lat (by kernel_rfl) (by kernel_rfl) ?_
      iterate 2 go_big_quiet_step (fail)
      go_big_quiet_step ((refine (hI _).mono ?_; rintro e w'' ⟨rfl, hb''⟩; exact ⟨rfl, lat_to hb''⟩))
      iterate 6 go_big_quiet_step (fail)
      go_big_quiet_step ((refine (hL _).mono ?_; rintro e w'' ⟨rfl, hb''⟩; exact ⟨rfl, lat_to hb''⟩))
      iterate 2 go_big_quiet_step (fail)
      go_big_quiet_step ((refine (hN _).mono ?_; rintro e w'' ⟨rfl, hb''⟩; exact ⟨rfl, lat_to hb''⟩))
      iterate 3 go_big_quiet_step (fail)
      refine wpQuiet_nil ?_
      rintro _ ⟨nq, rfl⟩
      have hbq := hbw.trans ((lat_below W nq).mono hbw.size)
      go_wp2_with fail
      go_ret
      exact ⟨rfl, hbq⟩
end Go.Proofs.Ytfmgkinindkedaa

/- The program's depth and size of expressions and queries. -/
namespace Go.Proofs.Ytfmgkinindkedaa
open Go.RowKit
attribute [local go_sem] Oper.semAt_some

set_option maxRecDepth 100000 in
theorem partsOf_any (w0 : World) (c : Nd) (hc : Bd c) : PartsE 108 parts w0 c := by
  intro ys W hys hb0
  have hB := below_exprs w0
  obtain ⟨c0, c1, c2, c3, c4, c5, c6, c7, a8, n8, p8, a9, n9, p9, rfl, -⟩ := hys.ten
  have H := RowAt.new W 56 #[.int .i64 c0, .int .i64 c1, .bool c2, .int .i64 c3, .int .i64 c4, .string c5, .string c6, .string c7, .slice a8 n8 p8, .slice a9 n9 p9]
  have hal : Below W.heap.size W (W.alloc (.cells #[.int .i64 c0, .int .i64 c1, .bool c2, .int .i64 c3, .int .i64 c4, .string c5, .string c6, .string c7, .slice a8 n8 p8, .slice a9 n9 p9] 56)) := (Below.refl _ _).alloc (Nat.le_refl _) _
  have x0 := H.cell (i := 0) (v := .int .i64 c0) rfl
  have x1 := H.cell (i := 1) (v := .int .i64 c1) rfl
  have x2 := H.cell (i := 2) (v := .bool c2) rfl
  have x3 := H.cell (i := 3) (v := .int .i64 c3) rfl
  have x4 := H.cell (i := 4) (v := .int .i64 c4) rfl
  have x5 := H.cell (i := 5) (v := .string c5) rfl
  have x6 := H.cell (i := 6) (v := .string c6) rfl
  have x7 := H.cell (i := 7) (v := .string c7) rfl
  have x8 := H.cell (i := 8) (v := .slice a8 n8 p8) rfl
  have x9 := H.cell (i := 9) (v := .slice a9 n9 p9) rfl
  go_enter Try.func108, Try.ntmps108
  go_wp2_with fail
  generalize W.alloc (.cells #[.int .i64 c0, .int .i64 c1, .bool c2, .int .i64 c3, .int .i64 c4, .string c5, .string c6, .string c7, .slice a8 n8 p8, .slice a9 n9 p9] 56) = w1 at H hal ⊢
  have hb1 := hb0.trans (hal.mono hb0.size)
  refine (hB w1 c _ hys hb1 hc).mono ?_
  rintro e w2 ⟨v, rfl, hp, hb⟩
  have hb2 := hal.trans (hb.mono hal.size)
  go_wp2_with fail
  go_ret
  refine ⟨v, rfl, (hp.lk (hb1.trans (hb.mono hb1.size))).keep (Nat.le_refl _) (fun _ _ _ => rfl) (fun g hg _ => hg.imp id fun h => by have := hal.size; omega), hb2⟩
theorem pre_hd (d : Nat) (c : Nd) : ∃ l, pre d c = (d, c) :: l := by
  unfold pre foldE
  exact ⟨_, by show (0 + d, c) :: _ = _; rw [Nat.zero_add]⟩
theorem visitsE_any (v pf : Value) (hv : ∃ a n p, v = .slice a n p) (hp : ∃ g, pf = .func (.func g) #[] #[]) (W : World) :
    Calls Try.prog 107 #[v, pf] W fun e w' => e = .returned (.func (.func VE) #[] #[.pointer (some ⟨W.heap.size, 0, none⟩), .pointer (some ⟨W.heap.size + 1, 0, none⟩)]) ∧
      w' = (W.alloc (.cells #[v] 36)).alloc (.cells #[pf] 134) := by
  obtain ⟨a, n, p, rfl⟩ := hv
  obtain ⟨g, rfl⟩ := hp
  go_enter Try.func107, Try.ntmps107
  go_wp2_with fail
  go_ret
  exact ⟨rfl, rfl⟩
set_option maxRecDepth 100000 in
set_option maxHeartbeats 4000000 in
theorem total_any (w0 W : World) (L : List Nd) (v : Value) (hb0 : Below w0.heap.size w0 W) (hv : LK exprTy w0 W (fun _ => True) v L) (hL : ∀ c ∈ L, Bd c) (hlen : (L.flatMap (pre 1)).length ≤ 2000000) :
    Calls Try.prog 57 #[v] W fun e w' => e = .returned (.int .i64 (((L.flatMap (pre 1)).length : Nat) : Int)) ∧ Below W.heap.size W w' := by
  obtain ⟨a0, cap, rfl⟩ := hv.slice
  have hz := hb0.size
  generalize hxs : L.flatMap (pre 1) = xs at hlen ⊢
  have HB : ∀ d c, (d, c) ∈ xs → Bd c := fun d c h => by
    rw [← hxs, List.mem_flatMap] at h
    obtain ⟨c', hc', h⟩ := h
    exact (hL c' hc').pre 1 _ h
  refine (callsIn_wide (n := 5)).1 ?_
  refine callsIn_of_wp_marks Try.func57 rfl trivial ?_ rfl
  simp only [Try.ntmps57, List.size_toArray, List.length_cons, List.length_nil, Nat.reduceAdd, Nat.reduceSub, Array.replicate_succ, Array.replicate_zero, List.push_toArray, List.append_toArray, List.nil_append, List.cons_append]
  have H0 := RowAt.new W 3 #[.int .i64 0]
  have B0 : Below W.heap.size W (W.alloc (.cells #[.int .i64 0] 3)) := (Below.refl _ _).alloc (Nat.le_refl _) _
  have s0 : (W.alloc (.cells #[.int .i64 0] 3)).heap.size = W.heap.size + 1 := by simp
  gi_wp2
  generalize W.alloc (.cells #[.int .i64 0] 3) = w1 at *
  refine ⟨trivial, (callsIn_wide.2 (visitsE_any _ _ ⟨_, _, _, rfl⟩ ⟨_, rfl⟩ w1)).mono ?_⟩
  rintro e w3 ⟨rfl, hw3⟩
  have k1 : w3.cell? ⟨w1.heap.size, 0, none⟩ = some (.slice a0 L.length cap) := by rw [hw3]; exact ((RowAt.new w1 36 #[.slice a0 L.length cap]).alloc _).cell (i := 0) rfl
  have k2 : w3.cell? ⟨w1.heap.size + 1, 0, none⟩ = some (.func (.func 108) #[] #[]) := by
    have h := (RowAt.new (w1.alloc (.cells #[.slice a0 L.length cap] 36)) 134 #[.func (.func 108) #[] #[]]).cell (i := 0) rfl
    rw [World.size_alloc] at h
    rw [hw3]; exact h
  have b3 : Below w1.heap.size w1 w3 := by rw [hw3]; exact ((Below.refl _ _).alloc (Nat.le_refl _) _).alloc (by simp) _
  have s3 : w3.heap.size = W.heap.size + 3 := by rw [hw3]; simp [s0]
  clear hw3
  have H3 := H0.later b3
  have B3 : Below W.heap.size W w3 := B0.trans (b3.mono (by omega))
  rw [s0] at k1 k2
  gi_wp2
  refine wpIn_rangeV (α := Nat × Nd) rfl (by decide) (gf := VE) (lb := #[.pointer (some ⟨W.heap.size + 1, 0, none⟩), .pointer (some ⟨W.heap.size + 1 + 1, 0, none⟩)]) rfl trivial (enters_of Try.func153 (by kernel_rfl) rfl)
    (visE_any pre parts (fun _ => True) w0 w3 L _ _ _ (fun k => k = W.heap.size) xs _ hxs.symm hlen (hb0.trans (B3.mono hz)) (fun k hk => ⟨by omega, by omega⟩) k1 k2 (by omega)
      (hv.keep B3.size (fun g _ hlt => B3.block g hlt) fun g _ hlt => by omega) (fun d c h _ => partsOf_any w0 c (HB d c h)) pre_hd (fun d c h _ => pre_eq d (HB d c h).f8 (HB d c h).f9))
    (fun k hk => by omega) (fun x v h => by obtain ⟨ys, _, rfl⟩ := h; rfl)
    (fun i Wr => RowAt Wr W.heap.size 3 #[.int .i64 ((i : Nat) : Int)] ∧ Below W.heap.size W Wr) (fun _ _ _ => False)
    (fun i A B h hb => ⟨(hb.block _ (by omega)).trans h.1, h.2.trans (hb.mono (by omega))⟩) (fun _ _ _ _ h _ => h) ⟨H3, B3⟩
    (fun x a _ => ∃ ys : List Value, a = { tmps := #[.slice a0 L.length cap, undef, .int .i64 0, .pointer (some ⟨W.heap.size, 0, none⟩), .slice a0 L.length cap, .func (.func VE) #[] #[.pointer (some ⟨W.heap.size + 1, 0, none⟩), .pointer (some ⟨W.heap.size + 1 + 1, 0, none⟩)], .int .i64 (x.1 : Int), .agg ys.toArray, undef, undef, undef], defers := [] }) (fun x a A B h _ => h) ?assign ?body ?done ?stop
  case assign =>
    rintro l x v W1 K ⟨ys, hys, rfl⟩ _ hK
    gi_wp2
    exact hK _ _ ⟨ys, by simp⟩ (Below.refl _ _)
  case body =>
    rintro l i ⟨d, c⟩ a1 W1 hx ⟨hI, hB⟩ hsz ⟨ys, rfl⟩
    have x0 := hI.cell (i := 0) (v := .int .i64 ((i : Nat) : Int)) rfl
    have x1 := hI.soft 0
    have hil : i < xs.length := (List.getElem?_eq_some_iff.1 hx).1
    have hI2 : ∀ u, RowAt (W1.setCell ⟨W.heap.size, 0, none⟩ u) W.heap.size 3 #[u] := fun u => hI.set 0 u
    gi_wp2
    exact ⟨But.setCell _ ⟨W.heap.size, 0, none⟩ _ rfl, trivial, hI2 _, hB.setCell (p := ⟨W.heap.size, 0, none⟩) (Nat.le_refl _) _⟩
  case done =>
    rintro D W1 hD ⟨hI, hB⟩ hK
    have x0 := hI.cell (i := 0) (v := .int .i64 ((xs.length : Nat) : Int)) rfl
    gi_wp2
    refine ⟨by simp, .inl ⟨_, _, rfl, run_takeDeferred hK, ?_⟩⟩
    exact ⟨_, results_tmp rfl _ _ _, rfl, hB.trans (below_put _ _ _ (by omega))⟩
  case stop => exact fun _ _ _ _ _ _ h _ => h.elim
end Go.Proofs.Ytfmgkinindkedaa

/- Two trees beside one another: what stands at the same places, and when they are the same. No program. -/
namespace Go.Proofs.Ytfmgkinindkedaa
open Go.RowKit

/-- two expressions as one element of twenty cells -/
def pairT (a b : Nd) : Nd := fun j => if j < 10 then a j else b (j - 10)
theorem pairT_a (a b : Nd) {j : Nat} (h : j < 10) : pairT a b j = a j := if_pos h
theorem pairT_b (a b : Nd) (j : Nat) : cut 10 (pairT a b) j = b j := by
  show (if 10 + j < 10 then _ else b (10 + j - 10)) = _
  rw [if_neg (by omega), show 10 + j - 10 = j by omega]
/-- what lies directly below an expression, the stars' expressions too -/
def slotParts (c : Nd) : List Nd := (c 8).els ++ (c 9).els.flatMap slotsOf
def partsT (t : Nd) : List Nd := List.zipWith pairT (slotParts t) (slotParts (cut 10 t))
/-- two leaves -/
def eqL (c c' : Nd) (j : Nat) (ty : Ty) : Bool := same (c j) (c' j) ty
def itemSame (c c' : Nd) : Bool := eqL c c' 0 .bool && (eqL c c' 1 .str && eqL c c' 12 .str)
def sourceSame (c c' : Nd) : Bool := eqL c c' 0 .str && (eqL c c' 1 .str && ((c 2).len == (c' 2).len))
def keySame (c c' : Nd) : Bool := eqL c c' 10 .bool
/-- all elements of two lists of one length, pair by pair -/
def allZ (p : Nd → Nd → Bool) (l r : List Nd) : Bool := (l.length == r.length) && (List.zipWith p l r).all id
/-- two queries, but for their expressions -/
def frameSame (q q' : Nd) : Bool :=
  eqL q q' 0 .bool && (eqL q q' 5 .int && (((q 3).len == (q' 3).len) && (allZ itemSame (q 1).els (q' 1).els && (allZ sourceSame (q 2).els (q' 2).els && allZ keySame (q 4).els (q' 4).els))))
def headSame (c c' : Nd) : Bool :=
  eqL c c' 0 .int && (eqL c c' 1 .int && (eqL c c' 2 .bool && (eqL c c' 3 .int && (eqL c c' 4 .int && (eqL c c' 5 .str && (eqL c c' 6 .str && eqL c c' 7 .str))))))
def aloneD (t : Nd) : Bool := headSame t (cut 10 t) && (((t 8).len == (t 18).len) && allZ frameSame (t 9).els (t 19).els)
theorem allZ_nil (p : Nd → Nd → Bool) : allZ p [] [] = true := rfl
theorem allZ_cons (p : Nd → Nd → Bool) (a b : Nd) (l r : List Nd) : allZ p (a :: l) (b :: r) = (p a b && allZ p l r) := by
  unfold allZ
  simp only [List.length_cons, List.zipWith_cons_cons, List.all_cons, id]
  have : (l.length + 1 == r.length + 1) = (l.length == r.length) := by
    by_cases h : l.length = r.length <;> simp [h]
  rw [this]
  cases l.length == r.length <;> cases p a b <;> rfl
theorem allZ_len {p : Nd → Nd → Bool} {l r : List Nd} (h : l.length ≠ r.length) : allZ p l r = false := by
  unfold allZ
  rw [show (l.length == r.length) = false by simpa using h]; rfl
theorem allZ_append (p : Nd → Nd → Bool) : ∀ {l l' r r' : List Nd}, l.length = l'.length → allZ p (l ++ r) (l' ++ r') = (allZ p l l' && allZ p r r')
  | [], [], r, r', _ => by show allZ p r r' = _; rw [allZ_nil]; rfl
  | a :: l, b :: l', r, r', h => by
    rw [List.cons_append, List.cons_append, allZ_cons, allZ_cons, allZ_append p (by simpa using h), Bool.and_assoc]
theorem allZ_map (p : Nd → Nd → Bool) (g g' : Nd → Nd) : ∀ l r : List Nd, allZ p (l.map g) (r.map g') = allZ (fun a b => p (g a) (g' b)) l r
  | [], [] => rfl
  | [], b :: r => by rw [allZ_len (by simp), allZ_len (by simp)]
  | a :: l, [] => by rw [allZ_len (by simp), allZ_len (by simp)]
  | a :: l, b :: r => by rw [List.map_cons, List.map_cons, allZ_cons, allZ_cons, allZ_map p g g' l r]
theorem allZ_and (p q : Nd → Nd → Bool) : ∀ l r : List Nd, allZ (fun a b => p a b && q a b) l r = (allZ p l r && allZ q l r)
  | [], [] => rfl
  | [], b :: r => by rw [allZ_len (by simp), allZ_len (by simp)]; rfl
  | a :: l, [] => by rw [allZ_len (by simp), allZ_len (by simp)]; rfl
  | a :: l, b :: r => by
    rw [allZ_cons, allZ_cons, allZ_cons, allZ_and p q l r]
    cases p a b <;> cases q a b <;> cases allZ p l r <;> cases allZ q l r <;> rfl
theorem allZ_congr {p q : Nd → Nd → Bool} : ∀ {l r : List Nd}, (∀ a ∈ l, ∀ b ∈ r, p a b = q a b) → allZ p l r = allZ q l r
  | [], [], _ => rfl
  | [], b :: r, _ => by rw [allZ_len (by simp), allZ_len (by simp)]
  | a :: l, [], _ => by rw [allZ_len (by simp), allZ_len (by simp)]
  | a :: l, b :: r, h => by
    rw [allZ_cons, allZ_cons, h a (List.mem_cons_self ..) b (List.mem_cons_self ..), allZ_congr fun x hx y hy => h x (List.mem_cons_of_mem _ hx) y (List.mem_cons_of_mem _ hy)]
/-- told of lists of lists: where each two are of one length -/
theorem allZ_flat (p : Nd → Nd → Bool) (g g' : Nd → List Nd) : ∀ {l r : List Nd}, allZ (fun a b => (g a).length == (g' b).length) l r = true → allZ p (l.flatMap g) (r.flatMap g') = allZ (fun a b => allZ p (g a) (g' b)) l r
  | [], [], _ => rfl
  | [], b :: r, h => by rw [allZ_len (by simp)] at h; cases h
  | a :: l, [], h => by rw [allZ_len (by simp)] at h; cases h
  | a :: l, b :: r, h => by
    rw [allZ_cons, Bool.and_eq_true] at h
    rw [List.flatMap_cons, List.flatMap_cons, allZ_append p (by simpa using h.1), allZ_cons, allZ_flat p g g' h.2]
theorem allZ_range (p : Nd → Nd → Bool) (f f' : Nat → Nd) (n : Nat) : allZ p ((List.range n).map f) ((List.range n).map f') = (List.range n).all fun i => p (f i) (f' i) := by
  induction n with
  | zero => rfl
  | succ n ih =>
    rw [List.range_succ, List.map_append, List.map_append, allZ_append p (by simp), ih]
    simp only [List.map_cons, List.map_nil, allZ_cons, allZ_nil, Bool.and_true, List.all_append, List.all_cons, List.all_nil]
/-- two slices of one type -/
theorem same_els {d d' : Dat} {ty : Ty} (h : Fits d ty) (h' : Fits d' ty) (hd : deep ty = true) : same d d' ty = allZ (sameC (rowTy ty)) d.els d'.els := by
  obtain ⟨n, k, f, rfl⟩ := h.deep hd
  obtain ⟨n', k', f', rfl⟩ := h'.deep hd
  rw [same_sl]
  by_cases e : n = n'
  · subst e
    rw [show (n == n) = true by simp, Bool.true_and]
    exact (allZ_range (sameC (rowTy ty)) f f' n).symm
  · rw [allZ_len (by rw [els_len, els_len]; exact e), show (n == n') = false by simpa using e]; rfl
theorem len_els (d : Dat) : d.els.length = d.len := by simp [Dat.els]
theorem cut_cut (c : Nd) : cut 0 c = c := by funext j; show c (0 + j) = c j; rw [Nat.zero_add]
theorem sameC_item (c c' : Nd) : sameC (rowTy .items) c c' = (itemSame c c' && sameC exprTy (cut 2 c) (cut 2 c')) := by
  unfold sameC itemSame eqL cut
  simp only [rowTy, exprTy, List.length_cons, List.length_nil, List.cons_append, List.nil_append, Nat.zero_add, Nat.reduceAdd, List.range_succ, List.range_zero, List.all_cons, List.all_nil, Bool.and_true, List.getD_cons_succ, List.getD_cons_zero]
  generalize same (c 0) (c' 0) .bool = u0
  generalize same (c 1) (c' 1) .str = u1
  generalize same (c 12) (c' 12) .str = u2
  generalize same (c 2) (c' 2) .int = v0
  cases u0 <;> cases u1 <;> cases u2 <;> cases v0 <;> simp
theorem sameC_source (c c' : Nd) : sameC (rowTy .sources) c c' = (eqL c c' 0 .str && (eqL c c' 1 .str && same (c 2) (c' 2) .exprs)) := by
  unfold sameC eqL
  simp only [rowTy, List.length_cons, List.length_nil, Nat.zero_add, Nat.reduceAdd, List.range_succ, List.range_zero, List.nil_append, List.cons_append, List.all_cons, List.all_nil, Bool.and_true, List.getD_cons_succ, List.getD_cons_zero]
theorem sameC_key (c c' : Nd) : sameC (rowTy .keys) c c' = (keySame c c' && sameC exprTy c c') := by
  unfold sameC keySame eqL
  simp only [rowTy, exprTy, List.length_cons, List.length_nil, List.cons_append, List.nil_append, Nat.zero_add, Nat.reduceAdd, List.range_succ, List.range_zero, List.all_cons, List.all_nil, Bool.and_true, List.getD_cons_succ, List.getD_cons_zero]
  generalize same (c 10) (c' 10) .bool = u0
  cases u0 <;> simp
theorem sameC_query (q q' : Nd) : sameC (rowTy .queries) q q' = (eqL q q' 0 .bool && (same (q 1) (q' 1) .items && (same (q 2) (q' 2) .sources && (same (q 3) (q' 3) .exprs && (same (q 4) (q' 4) .keys && eqL q q' 5 .int))))) := by
  unfold sameC eqL
  simp only [rowTy, List.length_cons, List.length_nil, Nat.zero_add, Nat.reduceAdd, List.range_succ, List.range_zero, List.nil_append, List.cons_append, List.all_cons, List.all_nil, Bool.and_true, List.getD_cons_succ, List.getD_cons_zero]
theorem sameC_head (c c' : Nd) : sameC exprTy c c' = (headSame c c' && (same (c 8) (c' 8) .exprs && same (c 9) (c' 9) .queries)) := by
  unfold sameC headSame eqL
  simp only [exprTy, List.length_cons, List.length_nil, Nat.zero_add, Nat.reduceAdd, List.range_succ, List.range_zero, List.nil_append, List.cons_append, List.all_cons, List.all_nil, Bool.and_true, List.getD_cons_succ, List.getD_cons_zero, Bool.and_assoc]
/-- a query is the frame and the expressions -/
def FitsQ (q : Nd) : Prop := Fits (q 1) .items ∧ Fits (q 2) .sources ∧ Fits (q 3) .exprs ∧ Fits (q 4) .keys
theorem fitsQ_of {d : Dat} (h : Fits d .queries) {q : Nd} (hq : q ∈ d.els) : FitsQ q := ⟨els_fits h hq 1 (by decide), els_fits h hq 2 (by decide), els_fits h hq 3 (by decide), els_fits h hq 4 (by decide)⟩
theorem source_len {c c' : Nd} (h : sourceSame c c' = true) : (c 2).els.length = (c' 2).els.length := by
  unfold sourceSame at h
  rw [Bool.and_eq_true, Bool.and_eq_true] at h
  rw [len_els, len_els]
  simpa using h.2.2
theorem allZ_true {p : Nd → Nd → Bool} {l r : List Nd} (h : allZ p l r = true) : l.length = r.length := by
  by_cases e : l.length = r.length
  · exact e
  · rw [allZ_len e] at h; cases h
theorem flat_len (g g' : Nd → List Nd) : ∀ {l r : List Nd}, allZ (fun a b => (g a).length == (g' b).length) l r = true → (l.flatMap g).length = (r.flatMap g').length
  | [], [], _ => rfl
  | [], b :: r, h => by rw [allZ_len (by simp)] at h; cases h
  | a :: l, [], h => by rw [allZ_len (by simp)] at h; cases h
  | a :: l, b :: r, h => by
    rw [allZ_cons, Bool.and_eq_true] at h
    rw [List.flatMap_cons, List.flatMap_cons, List.length_append, List.length_append, flat_len g g' h.2]
    have := h.1
    simp at this
    omega
theorem allZ_imp {p q : Nd → Nd → Bool} : ∀ {l r : List Nd}, (∀ a b, p a b = true → q a b = true) → allZ p l r = true → allZ q l r = true
  | [], [], _, _ => rfl
  | [], b :: r, _, h => by rw [allZ_len (by simp)] at h; cases h
  | a :: l, [], _, h => by rw [allZ_len (by simp)] at h; cases h
  | a :: l, b :: r, hi, h => by
    rw [allZ_cons, Bool.and_eq_true] at h ⊢
    exact ⟨hi a b h.1, allZ_imp hi h.2⟩
theorem frame_from {q q' : Nd} (h : frameSame q q' = true) : allZ (fun a b => ((a 2).els.length == (b 2).els.length)) (q 2).els (q' 2).els = true := by
  unfold frameSame at h
  simp only [Bool.and_eq_true] at h
  exact allZ_imp (fun a b hab => by simpa using source_len hab) h.2.2.2.2.1
theorem slots_len {q q' : Nd} (h : frameSame q q' = true) : (slotsOf q).length = (slotsOf q').length := by
  have hf := flat_len (fun c => (c 2).els) (fun c => (c 2).els) (frame_from h)
  unfold frameSame at h
  simp only [Bool.and_eq_true, beq_iff_eq] at h
  obtain ⟨_, _, h3, h1, _, h4⟩ := h
  have k1 := allZ_true h1
  have k4 := allZ_true h4
  unfold slotsOf exFrom
  simp only [List.length_append, List.length_map]
  rw [hf, k1, k4, len_els (q 3), len_els (q' 3), h3]
theorem query_same {q q' : Nd} (h : FitsQ q) (h' : FitsQ q') : sameC (rowTy .queries) q q' = (frameSame q q' && allZ (sameC exprTy) (slotsOf q) (slotsOf q')) := by
  rw [sameC_query, same_els h.1 h'.1 rfl, same_els h.2.1 h'.2.1 rfl, same_els h.2.2.1 h'.2.2.1 rfl, same_els h.2.2.2 h'.2.2.2 rfl]
  rw [allZ_congr (q := fun a b => itemSame a b && sameC exprTy (cut 2 a) (cut 2 b)) fun a _ b _ => sameC_item a b, allZ_and]
  rw [allZ_congr (p := sameC (rowTy .sources)) (q := fun a b => sourceSame a b && allZ (sameC exprTy) (a 2).els (b 2).els) fun a ha b hb => by
    rw [sameC_source, same_els (ty := .exprs) (els_fits h.2.1 ha 2 (by decide)) (els_fits h'.2.1 hb 2 (by decide)) rfl]
    unfold sourceSame
    by_cases e : (a 2).len = (b 2).len
    · rw [show ((a 2).len == (b 2).len) = true by simpa using e]
      show (_ && (_ && allZ (sameC exprTy) _ _)) = _
      rw [Bool.and_true, Bool.and_assoc]
    · rw [show ((a 2).len == (b 2).len) = false by simpa using e]
      show (_ && (_ && allZ (sameC exprTy) _ _)) = _
      rw [allZ_len (by rw [len_els, len_els]; exact e)]
      simp, allZ_and]
  rw [allZ_congr (p := sameC (rowTy .keys)) (q := fun a b => keySame a b && sameC exprTy a b) fun a _ b _ => sameC_key a b, allZ_and]
  by_cases hfr : frameSame q q' = true
  · have hfrom := frame_from hfr
    have e : allZ (sameC exprTy) (slotsOf q) (slotsOf q') = (((allZ (fun a b => sameC exprTy (cut 2 a) (cut 2 b)) (q 1).els (q' 1).els && allZ (fun a b => allZ (sameC exprTy) (a 2).els (b 2).els) (q 2).els (q' 2).els) && allZ (sameC exprTy) (q 3).els (q' 3).els) && allZ (sameC exprTy) (q 4).els (q' 4).els) := by
      have hl2 := flat_len (fun c => (c 2).els) (fun c => (c 2).els) hfrom
      have hfr2 := hfr
      unfold frameSame at hfr2
      simp only [Bool.and_eq_true, beq_iff_eq] at hfr2
      obtain ⟨_, _, h3, h1, _, _⟩ := hfr2
      have k1 := allZ_true h1
      unfold slotsOf exFrom
      have l3 : (q 3).els.length = (q' 3).els.length := by rw [len_els, len_els]; exact h3
      rw [allZ_append _ (by simp only [List.length_append, List.length_map]; rw [hl2, k1, l3]), allZ_append _ (by simp only [List.length_append, List.length_map]; rw [hl2, k1]), allZ_append _ (by simp only [List.length_map]; exact k1), allZ_map, allZ_flat _ _ _ hfrom]
    rw [e, hfr]
    unfold frameSame at hfr
    simp only [Bool.and_eq_true] at hfr
    obtain ⟨f0, f5, f3, f1, f2, f4⟩ := hfr
    rw [f0, f5, f1, f2, f4]
    show _ = _
    generalize allZ (fun a b => sameC exprTy (cut 2 a) (cut 2 b)) (q 1).els (q' 1).els = u1
    generalize allZ (fun a b => allZ (sameC exprTy) (a 2).els (b 2).els) (q 2).els (q' 2).els = u2
    generalize allZ (sameC exprTy) (q 4).els (q' 4).els = u4
    show (true && ((true && u1) && ((true && u2) && (allZ (sameC exprTy) (q 3).els (q' 3).els && ((true && u4) && true))))) = _
    generalize allZ (sameC exprTy) (q 3).els (q' 3).els = u3
    cases u1 <;> cases u2 <;> cases u3 <;> cases u4 <;> rfl
  · rw [show frameSame q q' = false by simpa using hfr, Bool.false_and]
    have : frameSame q q' = false := by simpa using hfr
    unfold frameSame at this
    by_cases e3 : (q 3).len = (q' 3).len
    · rw [show ((q 3).len == (q' 3).len) = true by simpa using e3] at this
      generalize eqL q q' 0 .bool = u0 at this ⊢
      generalize eqL q q' 5 .int = u5 at this ⊢
      generalize allZ itemSame (q 1).els (q' 1).els = u1 at this ⊢
      generalize allZ sourceSame (q 2).els (q' 2).els = u2 at this ⊢
      generalize allZ keySame (q 4).els (q' 4).els = u4 at this ⊢
      cases u0 <;> cases u5 <;> cases u1 <;> cases u2 <;> cases u4 <;> first | (simp at this; done) | simp
    · have : allZ (sameC (rowTy .exprs)) (q 3).els (q' 3).els = false := allZ_len (by rw [len_els, len_els]; exact e3)
      rw [this]
      simp
/-- an expression is what stands in it alone and what lies below -/
theorem expr_same {c c' : Nd} (h8 : Fits (c 8) .exprs) (h9 : Fits (c 9) .queries) (h8' : Fits (c' 8) .exprs) (h9' : Fits (c' 9) .queries) :
    sameC exprTy c c' = ((headSame c c' && (((c 8).len == (c' 8).len) && allZ frameSame (c 9).els (c' 9).els)) && allZ (sameC exprTy) (slotParts c) (slotParts c')) := by
  rw [sameC_head, same_els h8 h8' rfl, same_els h9 h9' rfl]
  rw [allZ_congr (p := sameC (rowTy .queries)) (q := fun a b => frameSame a b && allZ (sameC exprTy) (slotsOf a) (slotsOf b)) fun a ha b hb => query_same (fitsQ_of h9 ha) (fitsQ_of h9' hb), allZ_and]
  by_cases hf : allZ frameSame (c 9).els (c' 9).els = true
  · by_cases e : (c 8).len = (c' 8).len
    · unfold slotParts
      rw [allZ_append _ (by rw [len_els, len_els]; exact e), allZ_flat _ _ _ (allZ_imp (fun a b hab => by simpa using slots_len hab) hf), hf, show ((c 8).len == (c' 8).len) = true by simpa using e]
      show _ = _
      generalize headSame c c' = u0
      show (u0 && (allZ (sameC exprTy) (c 8).els (c' 8).els && (true && _))) = _
      generalize allZ (sameC exprTy) (c 8).els (c' 8).els = u1
      generalize allZ (fun a b => allZ (sameC exprTy) (slotsOf a) (slotsOf b)) (c 9).els (c' 9).els = u2
      cases u0 <;> cases u1 <;> cases u2 <;> rfl
    · rw [show ((c 8).len == (c' 8).len) = false by simpa using e]
      have : allZ (sameC (rowTy .exprs)) (c 8).els (c' 8).els = false := allZ_len (by rw [len_els, len_els]; exact e)
      rw [this]
      simp
  · rw [show allZ frameSame (c 9).els (c' 9).els = false by simpa using hf]
    simp
end Go.Proofs.Ytfmgkinindkedaa
