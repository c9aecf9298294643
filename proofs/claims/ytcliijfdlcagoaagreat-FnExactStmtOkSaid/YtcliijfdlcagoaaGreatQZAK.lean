/- Joined texts: Below SameMath TwMath EqFI EqFS. -/
import Derived.Test.YtcliijfdlcagoaaGreatQZAJ
import Derived.Test.YtcliijfdlcagoaaGreatQZAF
namespace Go.Proofs.YtcliijfdlcagoaaGreat
set_option linter.unusedVariables false
set_option linter.unusedSimpArgs false
open Go.RowKit
theorem Rd.openS {w : World} {x : Option Addr} {n p : Nat} {d : Dat} {ty : Ty} (r : Rd w 0 (.slice x n p) d) (q : Fits d ty) (hd : deep ty = true) :
    ∃ f, d = .sl n (rowTy ty).length f ∧ Rd w 0 (.slice x n p) (.sl n (rowTy ty).length f) ∧ Fits (.sl n (rowTy ty).length f) ty := by
  obtain ⟨n', k, f, rfl⟩ := q.deep hd
  have hk : k = _ := q.2.2.1
  subst hk
  have h2 : n = n' := by obtain ⟨_, _, e, _⟩ := r; injection e
  subst h2
  exact ⟨f, rfl, r, q⟩
theorem clip_any (a : Option Addr) (n cap : Nat) (hn : n ≤ cap) (h63 : n ≤ 1048576) (ha : n = 0 ∨ ∃ g o, a = some ⟨g, o, none⟩) (W : World) :
    Calls Tryz.prog 123 #[.slice a n cap] W fun e w' => e = .returned (.slice a n n) ∧ w' = W := by
  rcases Nat.eq_zero_or_pos n with rfl | hp
  · go_enter Tryz.func123, Tryz.ntmps123
    go_wp2_with fail
    go_ret
    exact ⟨rfl, rfl⟩
  · obtain ⟨g, o, rfl⟩ : ∃ g o, a = some ⟨g, o, none⟩ := ha.resolve_left (by omega)
    have h1 : ¬ n = 0 := by omega
    have h2 : (n : Int) ≤ (cap : Int) := by omega
    go_enter Tryz.func123, Tryz.ntmps123
    go_wp2_with fail
    go_ret
    exact ⟨rfl, rfl⟩
theorem row_msr {n i : Nat} {f : Nat → Nat → Dat} (hi : i < n) : msr (f i 1) + msr (f i 2) + msr (f i 3) + msr (f i 4) ≤ msr (.sl n 6 f) := by
  rw [msr_is]
  have h1 := partm_le f 6 (show i + 1 ≤ n by omega)
  rw [partm_succ] at h1
  have hs : rowm f 6 i = ((List.range 6).map fun j => msr (f i j)).sum := rfl
  simp only [List.range_succ, List.range_zero, List.nil_append, List.cons_append, List.map_cons, List.map_nil, List.sum_cons, List.sum_nil] at hs
  omega
theorem exFrom_msr {n : Nat} {f : Nat → Nat → Dat} (q : Fits (.sl n 3 f) .sources) : (exFrom (.sl n 3 f)).length ≤ msr (.sl n 3 f) := by
  have key : ∀ m, m ≤ n → (exFrom (.sl m 3 f)).length ≤ partm f 3 m := fun m => by
    induction m with
    | zero => intro _; exact Nat.zero_le _
    | succ m ih =>
      intro hm
      have h1 := ih (by omega)
      rw [exFrom_succ, List.length_append, partm_succ]
      have h2 : (f m 2).els.length ≤ msr (f m 2) := by
        have h3 : Fits (f m 2) .exprs := q.2.2.2 m (by omega) 2 (by decide)
        cases h4 : f m 2 with
        | v x => rw [h4] at h3; exact h3.elim
        | sl a b c => rw [els_len]; exact msr_n _ _ _
      have hs : rowm f 3 m = ((List.range 3).map fun j => msr (f m j)).sum := rfl
      simp only [List.range_succ, List.range_zero, List.nil_append, List.cons_append, List.map_cons, List.map_nil, List.sum_cons, List.sum_nil] at hs
      omega
  rw [msr_is]
  have := key n (Nat.le_refl _)
  omega
def slotsOf (q : Nd) : List Nd := ((((q 1).els.map (cut 2)) ++ exFrom (q 2)) ++ (q 3).els) ++ (q 4).els
theorem els_msr {d : Dat} : d.els.length ≤ msr d := by
  cases d with
  | v x => exact Nat.zero_le _
  | sl n k f => rw [els_len]; exact msr_n _ _ _
theorem slotsOf_msr {n i : Nat} {f : Nat → Nat → Dat} (q : Fits (.sl n 6 f) .queries) (hi : i < n) : (slotsOf (f i)).length ≤ rowm f 6 i := by
  have h2 : (exFrom (f i 2)).length ≤ msr (f i 2) := by
    have h3 : Fits (f i 2) .sources := q.2.2.2 i hi 2 (by decide)
    cases h4 : f i 2 with
    | v x => rw [h4] at h3; exact h3.elim
    | sl a b c =>
      rw [h4] at h3
      have hb : b = 3 := h3.2.2.1
      subst hb
      exact exFrom_msr h3
  unfold slotsOf
  have k1 := els_msr (d := f i 1)
  have k3 := els_msr (d := f i 3)
  have k4 := els_msr (d := f i 4)
  have hs : rowm f 6 i = ((List.range 6).map fun j => msr (f i j)).sum := rfl
  simp only [List.range_succ, List.range_zero, List.nil_append, List.cons_append, List.map_cons, List.map_nil, List.sum_cons, List.sum_nil] at hs
  simp only [List.length_append, List.length_map]
  omega
theorem exprsOf_le (q : Nd) : (exprsOf q).length ≤ (slotsOf q).length := by
  unfold exprsOf slotsOf exItems
  simp only [List.length_append, List.length_map]
  have := List.length_filter_le (fun c : Nat → Dat => !(c 0).tru) (q 1).els
  omega
theorem flat_slots_msr {n : Nat} {f : Nat → Nat → Dat} (q : Fits (.sl n 6 f) .queries) {j : Nat} (hj : j ≤ n) : ((Dat.sl j 6 f).els.flatMap slotsOf).length ≤ msr (.sl n 6 f) := by
  have key : ∀ m, m ≤ n → ((Dat.sl m 6 f).els.flatMap slotsOf).length ≤ partm f 6 m := fun m => by
    induction m with
    | zero => intro _; exact Nat.zero_le _
    | succ m ih =>
      intro hm
      have h1 := ih (by omega)
      have h2 := slotsOf_msr q (show m < n by omega)
      rw [els_succ, List.flatMap_append, List.length_append, show [f m].flatMap slotsOf = slotsOf (f m) from List.append_nil _, partm_succ]
      omega
  rw [msr_is]
  have h1 := key j hj
  have h2 := partm_le f 6 hj
  omega
theorem flat_exprs_msr {n : Nat} {f : Nat → Nat → Dat} (q : Fits (.sl n 6 f) .queries) {j : Nat} (hj : j ≤ n) : ((Dat.sl j 6 f).els.flatMap exprsOf).length ≤ msr (.sl n 6 f) := by
  have h1 := flat_slots_msr q hj
  have h2 : ∀ l : List Nd, (l.flatMap exprsOf).length ≤ (l.flatMap slotsOf).length := fun l => by
    induction l with
    | nil => exact Nat.le_refl _
    | cons a l ih =>
      have := exprsOf_le a
      rw [List.flatMap_cons, List.flatMap_cons, List.length_append, List.length_append]
      omega
  exact Nat.le_trans (h2 _) h1
structure BS (w0 W wr : World) (out : Value) (L : List Nd) : Prop where
  own : PB w0 wr (W.heap.size + 1) out L
  b : Below W.heap.size W wr
  b0 : Below w0.heap.size w0 wr
  sz : W.heap.size + 1 ≤ wr.heap.size
theorem BS.next {w0 W wr w' : World} {out : Value} {L : List Nd} (H : BS w0 W wr out L) (h : Below wr.heap.size wr w') : BS w0 W w' out L :=
  ⟨H.own.later h, H.b.trans (h.mono H.b.size), H.b0.trans (h.mono H.b0.size), Nat.le_trans H.sz h.size⟩
theorem BS.app {w0 W wr w' : World} {out out' : Value} {L L' : List Nd} (H : BS w0 W wr out L) (h : PB w0 w' (W.heap.size + 1) out' L') (hb : Below (W.heap.size + 1) wr w') (hz : w0.heap.size ≤ W.heap.size) : BS w0 W w' out' L' :=
  ⟨h, H.b.trans (hb.mono (Nat.le_succ _)), H.b0.trans (hb.mono (Nat.le_succ_of_le hz)), Nat.le_trans H.sz hb.size⟩
set_option maxRecDepth 100000 in
set_option maxHeartbeats 8000000 in
theorem below_exprs (w0 W : World) (c : Nd) (ys : List Value) (hys : OutK exprTy w0 ys [c]) (hb0 : Below w0.heap.size w0 W) (hc : Bd c) :
    Calls Tryz.prog 95 #[.agg ys.toArray, .func (.func 59) #[] #[]] W fun e w' => ∃ v, e = .returned v ∧ PB w0 w' (W.heap.size + 1) v ((c 8).els ++ (c 9).els.flatMap exprsOf) ∧ Below W.heap.size W w' := by
  obtain ⟨c0, c1, c2, c3, c4, c5, c6, c7, a8, n8, p8, a9, n9, p9, rfl, -, -, -, -, -, -, -, -, ⟨r8, q8⟩, ⟨r9, q9⟩⟩ := hys.ten
  obtain ⟨f8, e8, r8, q8⟩ := r8.openS q8 rfl
  obtain ⟨f9, e9, r9, q9⟩ := r9.openS q9 rfl
  have m8 := hc.m8
  have m9 := hc.m9
  rw [e8] at m8
  rw [e9] at m9
  rw [e8, e9]
  replace m8 : msr (.sl n8 10 f8) ≤ 1048576 := m8
  replace m9 : msr (.sl n9 6 f9) ≤ 1048576 := m9
  replace r8 : Rd w0 0 (.slice a8 n8 p8) (.sl n8 10 f8) := r8
  replace r9 : Rd w0 0 (.slice a9 n9 p9) (.sl n9 6 f9) := r9
  replace q8 : Fits (.sl n8 10 f8) .exprs := q8
  replace q9 : Fits (.sl n9 6 f9) .queries := q9
  show Calls _ _ _ _ fun e w' => ∃ v, e = .returned v ∧ PB w0 w' (W.heap.size + 1) v ((Dat.sl n8 10 f8).els ++ (Dat.sl n9 6 f9).els.flatMap exprsOf) ∧ Below W.heap.size W w'
  have hn9 : n9 ≤ 9223372036854775807 := q9.2.1
  have hn8 : n8 ≤ 1048576 := Nat.le_trans (msr_n _ _ _) m8
  clear hys hc e8 e9
  have hz := hb0.size
  have HB := BX.new W 79 #[.int .i64 c0, .int .i64 c1, .bool c2, .int .i64 c3, .int .i64 c4, .string c5, .string c6, .string c7, .slice a8 n8 p8, .slice a9 n9 p9]
  have hlk := r8.lk (G := fun g => g < w0.heap.size) q8 fun g h => h
  have hl8 : (Dat.sl n8 10 f8).els.length = n8 := els_len _ _ _
  have hPB : PB w0 (W.alloc (.cells #[.int .i64 c0, .int .i64 c1, .bool c2, .int .i64 c3, .int .i64 c4, .string c5, .string c6, .string c7, .slice a8 n8 p8, .slice a9 n9 p9] 79)) (W.heap.size + 1) (.slice a8 n8 n8) (Dat.sl n8 10 f8).els := by
    obtain ⟨ax, cx, C, e, hC, hcell⟩ := hlk
    injection e with e1 e2 e3
    subst e1; subst e3
    cases a8 with
    | none =>
      have h0 : (Dat.sl n8 10 f8).els = [] := by
        rcases hcell with h | ⟨_, _, h, _⟩
        · exact h
        · cases h
      have hn0 : n8 = 0 := by rw [← hl8, h0]; rfl
      subst hn0
      exact .inr ⟨[], World.ownsRow_nil _ _ _ _, OutP.nil w0⟩
    | some b => exact .inl ⟨b, n8, rfl, _, n8, C, by rw [hl8], hC, hcell.imp id fun ⟨g, o, e, h1, h2⟩ => ⟨g, o, e, by rw [hl8]; exact Nat.le_refl _, h2⟩⟩
  have hclip := clip_any a8 n8 p8 (by obtain ⟨_, _, e, h, _⟩ := r8; injection e with _ _ e3; omega) (by omega) (by obtain ⟨_, _, e, _, _, h⟩ := r8; injection e with e1 e2 e3; subst e1; exact h.imp id fun ⟨g, o, e, _⟩ => ⟨g, o, e⟩)
  go_enter Tryz.func95, Tryz.ntmps95
  have b8 := HB.box.cell (i := 8) (v := .slice a8 n8 p8) rfl
  have b9 := HB.box.cell (i := 9) (v := .slice a9 n9 p9) rfl
  go_wp2_with fail
  generalize W.alloc (.cells #[.int .i64 c0, .int .i64 c1, .bool c2, .int .i64 c3, .int .i64 c4, .string c5, .string c6, .string c7, .slice a8 n8 p8, .slice a9 n9 p9] 79) = w1 at HB hPB b8 b9 ⊢
  refine (hclip w1).mono ?_
  rintro e w2 ⟨rfl, rfl⟩
  clear hclip b8
  go_wp2_with fail
  clear b9
  have HS : BS w0 W w2 (.slice a8 n8 n8) ((Dat.sl n8 10 f8).els ++ (Dat.sl 0 6 f9).els.flatMap exprsOf) := ⟨by show PB _ _ _ _ (_ ++ []); rw [List.append_nil]; exact hPB, HB.b, hb0.trans (HB.b.mono hz), HB.box.lt⟩
  clear HB hPB hlk
  go_loopw [5, 14] (fun out i wr => ∃ (j : Nat) (v : Value), j ≤ n9 ∧ i = .int .i64 (j : Int) ∧ v = out ∧ BS w0 W wr v ((Dat.sl n8 10 f8).els ++ (Dat.sl j 6 f9).els.flatMap exprsOf)) (fun _ i _ => n9 - (intOf i).toNat)
  case atStart => exact ⟨0, _, by omega, rfl, rfl, HS⟩
  case round =>
    obtain ⟨j, v, hj, rfl, rfl, H⟩ := hrel
    by_cases hlt : j < n9
    · have hlt2 : (j : Int) < (n9 : Int) := by omega
      obtain ⟨g, o, rfl, -, hg, d0, x1, x2, x3, x4, d5, ⟨z0, z1, z2, z3, z4, z5⟩, ⟨e0, ⟨r1, q1⟩, ⟨r2, q2⟩, ⟨r3, q3⟩, ⟨r4, q4⟩, ⟨e5, _⟩⟩⟩ := row_queries r9 q9 hlt
      obtain ⟨a1, n1, t1, rfl⟩ := r1.slice_of q1 rfl
      obtain ⟨a2, n2, t2, rfl⟩ := r2.slice_of q2 rfl
      obtain ⟨a3, n3, t3, rfl⟩ := r3.slice_of q3 rfl
      obtain ⟨a4, n4, t4, rfl⟩ := r4.slice_of q4 rfl
      have hrow := row_msr (n := n9) (f := f9) hlt
      obtain ⟨h1, E1, r1, q1⟩ := r1.openS q1 rfl
      obtain ⟨h2, E2, r2, q2⟩ := r2.openS q2 rfl
      obtain ⟨h3, E3, r3, q3⟩ := r3.openS q3 rfl
      obtain ⟨h4, E4, r4, q4⟩ := r4.openS q4 rfl
      have hN : n1 + (exFrom (.sl n2 3 h2)).length + n3 + n4 ≤ 1048576 := by
        rw [E1, E2, E3, E4] at hrow
        have k1 := msr_n n1 13 h1
        have k2 := exFrom_msr q2
        have k3 := msr_n n3 10 h3
        have k4 := msr_n n4 11 h4
        simp only [rowTy, exprTy, List.length_cons, List.length_nil, List.length_append, Nat.zero_add, Nat.reduceAdd] at hrow
        omega
      have hex : exprsOf (f9 j) = ((exItems (.sl n1 13 h1) ++ exFrom (.sl n2 3 h2)) ++ (Dat.sl n3 10 h3).els) ++ (Dat.sl n4 11 h4).els := by
        unfold exprsOf
        rw [E1, E2, E3, E4]
        rfl
      have hlen : ((Dat.sl n8 10 f8).els ++ (Dat.sl j 6 f9).els.flatMap exprsOf).length + (exprsOf (f9 j)).length ≤ 4000000 := by
        have k1 := flat_exprs_msr q9 (show j + 1 ≤ n9 by omega)
        rw [els_succ, List.flatMap_append, List.length_append, show [f9 j].flatMap exprsOf = exprsOf (f9 j) from List.append_nil _] at k1
        rw [List.length_append, hl8]
        omega
      have hs : (Dat.sl n8 10 f8).els ++ (Dat.sl (j + 1) 6 f9).els.flatMap exprsOf = ((Dat.sl n8 10 f8).els ++ (Dat.sl j 6 f9).els.flatMap exprsOf) ++ exprsOf (f9 j) := by
        rw [els_succ, List.flatMap_append, show [f9 j].flatMap exprsOf = exprsOf (f9 j) from List.append_nil _, List.append_assoc]
      replace z0 := (H.b0.cell (p := ⟨g, o + j * 6, none⟩) hg).trans z0
      replace z1 := (H.b0.cell (p := ⟨g, o + j * 6 + 1, none⟩) hg).trans z1
      replace z2 := (H.b0.cell (p := ⟨g, o + j * 6 + 2, none⟩) hg).trans z2
      replace z3 := (H.b0.cell (p := ⟨g, o + j * 6 + 3, none⟩) hg).trans z3
      replace z4 := (H.b0.cell (p := ⟨g, o + j * 6 + 4, none⟩) hg).trans z4
      replace z5 := (H.b0.cell (p := ⟨g, o + j * 6 + 5, none⟩) hg).trans z5
      have hal : Below wr.heap.size wr (wr.alloc (.cells #[.bool d0, .slice a1 n1 t1, .slice a2 n2 t2, .slice a3 n3 t3, .slice a4 n4 t4, .int .i64 d5] 39)) := (Below.refl _ _).alloc (Nat.le_refl _) _
      have H1 := H.next hal
      have hcall := exprsIn_any w0 (wr.alloc (.cells #[.bool d0, .slice a1 n1 t1, .slice a2 n2 t2, .slice a3 n3 t3, .slice a4 n4 t4, .int .i64 d5] 39)) d0 a1 n1 t1 a2 n2 t2 a3 n3 t3 a4 n4 t4 d5 h1 h2 h3 h4 H1.b0 r1 q1 r2 q2 r3 q3 r4 q4 hN
      rw [← hex] at hcall
      have HSS := Lib.hid hs
      have HL := Lib.hid hlen
      clear hs hlen hex hrow E1 E2 E3 E4 e0 e5 r1 r2 r3 r4 q1 q2 q3 q4 hN
      go_wp2_with fail
      refine hcall.mono ?_
      clear hcall
      rintro e w3 ⟨v3, rfl, ho, hb3⟩
      have H3 := H1.next (hb3.mono (by simp))
      clear z0 z1 z2 z3 z4 z5 hal H1 hb3
      go_wp2_with (at_builtin; refine appF rfl (.tmp 18) (.tmp 21) rfl w0 (W.heap.size + 1) _ v v3 ((Dat.sl n8 10 f8).els ++ (Dat.sl j 6 f9).els.flatMap exprsOf) (exprsOf (f9 j)) w3 rfl rfl H3.b0 H3.own ho HL.out H3.sz ?_; intro v' w' hown' hb')
      have H4 := H3.app hown' hb' hz
      rw [← HSS.out] at H4
      go_roundw
      case rel => exact ⟨j + 1, _, by omega, by go_num, rfl, H4⟩
      case measure => simp [intOf]; omega
    · obtain rfl : n9 = j := by omega
      clear hlt hj
      go_wp2_with fail
      go_ret
      exact ⟨v, rfl, H.own, H.b⟩
def eqV : Value → Value → Bool
  | .int _ a, .int _ b => a == b
  | .bool a, .bool b => a == b
  | .string a, .string b => decide (a = b)
  | _, _ => false
def same : Dat → Dat → Ty → Bool
  | .v x, .v y, _ => eqV x y
  | .sl n _ f, d', ty => (n == d'.len) && (List.range n).all fun i => (List.range (rowTy ty).length).all fun j => same (f i j) (d'.el i j) ((rowTy ty).getD j .int)
  | _, _, _ => false
def sameC (tys : List Ty) (c c' : Nat → Dat) : Bool := (List.range tys.length).all fun j => same (c j) (c' j) (tys.getD j .int)
theorem same_sl (n k : Nat) (f : Nat → Nat → Dat) (n' k' : Nat) (f' : Nat → Nat → Dat) (ty : Ty) :
    same (.sl n k f) (.sl n' k' f') ty = ((n == n') && (List.range n).all fun i => sameC (rowTy ty) (f i) (f' i)) := by rw [same]; rfl
theorem all_succ (n : Nat) (p : Nat → Bool) : (List.range (n + 1)).all p = ((List.range n).all p && p n) := by rw [List.range_succ]; simp
theorem same_int (k : IntKind) (a b : Int) (ty : Ty) : same (.v (.int k a)) (.v (.int k b)) ty = (a == b) := by unfold same; rfl
theorem same_bool (a b : Bool) (ty : Ty) : same (.v (.bool a)) (.v (.bool b)) ty = (a == b) := by unfold same; rfl
theorem same_str (a b : ByteArray) (ty : Ty) : same (.v (.string a)) (.v (.string b)) ty = decide (a = b) := by unfold same; rfl
def sameFields (x0 y0 x1 y1 : Int) (x2 y2 : Bool) (x3 y3 x4 y4 : Int) (x5 y5 x6 y6 x7 y7 : ByteArray) (ks ss : Bool) : Bool :=
  (x0 == y0) && ((x1 == y1) && ((x2 == y2) && ((x3 == y3) && ((x4 == y4) && (decide (x5 = y5) && (decide (x6 = y6) && (decide (x7 = y7) && (ks && ss))))))))
theorem sameC_expr {c c' : Nat → Dat} {x0 y0 x1 y1 : Int} {x2 y2 : Bool} {x3 y3 x4 y4 : Int} {x5 y5 x6 y6 x7 y7 : ByteArray}
    (e0 : c 0 = .v (.int .i64 x0)) (l0 : c' 0 = .v (.int .i64 y0)) (e1 : c 1 = .v (.int .i64 x1)) (l1 : c' 1 = .v (.int .i64 y1)) (e2 : c 2 = .v (.bool x2)) (l2 : c' 2 = .v (.bool y2))
    (e3 : c 3 = .v (.int .i64 x3)) (l3 : c' 3 = .v (.int .i64 y3)) (e4 : c 4 = .v (.int .i64 x4)) (l4 : c' 4 = .v (.int .i64 y4)) (e5 : c 5 = .v (.string x5)) (l5 : c' 5 = .v (.string y5))
    (e6 : c 6 = .v (.string x6)) (l6 : c' 6 = .v (.string y6)) (e7 : c 7 = .v (.string x7)) (l7 : c' 7 = .v (.string y7)) :
    sameC exprTy c c' = sameFields x0 y0 x1 y1 x2 y2 x3 y3 x4 y4 x5 y5 x6 y6 x7 y7 (same (c 8) (c' 8) .exprs) (same (c 9) (c' 9) .queries) := by
  unfold sameC sameFields
  simp only [exprTy, List.length_cons, List.length_nil, Nat.zero_add, Nat.reduceAdd, List.range_succ, List.range_zero, List.nil_append, List.cons_append, List.all_cons, List.all_nil, Bool.and_true, List.getD_cons_succ, List.getD_cons_zero, e0, l0, e1, l1, e2, l2, e3, l3, e4, l4, e5, l5, e6, l6, e7, l7, same_int, same_bool, same_str]
def pairT (a b : Nd) : Nd := fun j => if j < 10 then a j else b (j - 10)
theorem pairT_a (a b : Nd) {j : Nat} (h : j < 10) : pairT a b j = a j := if_pos h
theorem pairT_b (a b : Nd) (j : Nat) : cut 10 (pairT a b) j = b j := by
  show (if 10 + j < 10 then _ else b (10 + j - 10)) = _
  rw [if_neg (by omega), show 10 + j - 10 = j by omega]
def slotParts (c : Nd) : List Nd := (c 8).els ++ (c 9).els.flatMap slotsOf
def partsT (t : Nd) : List Nd := List.zipWith pairT (slotParts t) (slotParts (cut 10 t))
def eqL (c c' : Nd) (j : Nat) (ty : Ty) : Bool := same (c j) (c' j) ty
def itemSame (c c' : Nd) : Bool := eqL c c' 0 .bool && (eqL c c' 1 .str && eqL c c' 12 .str)
def sourceSame (c c' : Nd) : Bool := eqL c c' 0 .str && (eqL c c' 1 .str && ((c 2).len == (c' 2).len))
def keySame (c c' : Nd) : Bool := eqL c c' 10 .bool
def allZ (p : Nd → Nd → Bool) (l r : List Nd) : Bool := (l.length == r.length) && (List.zipWith p l r).all id
def frameSame (q q' : Nd) : Bool :=
  eqL q q' 0 .bool && (eqL q q' 5 .int && (((q 3).len == (q' 3).len) && (allZ itemSame (q 1).els (q' 1).els && (allZ sourceSame (q 2).els (q' 2).els && allZ keySame (q 4).els (q' 4).els))))
def headSame (c c' : Nd) : Bool :=
  eqL c c' 0 .int && (eqL c c' 1 .int && (eqL c c' 2 .bool && (eqL c c' 3 .int && (eqL c c' 4 .int && (eqL c c' 5 .str && (eqL c c' 6 .str && eqL c c' 7 .str))))))
def aloneD (t : Nd) : Bool := headSame t (cut 10 t) && (((t 8).len == (t 18).len) && allZ frameSame (t 9).els (t 19).els)
theorem allZ_nil (p : Nd → Nd → Bool) : allZ p [] [] = true := rfl
theorem allZ_cons (p : Nd → Nd → Bool) (a b : Nd) (l r : List Nd) : allZ p (a :: l) (b :: r) = (p a b && allZ p l r) := by
  unfold allZ
  simp only [List.length_cons, List.zipWith_cons_cons, List.all_cons, id]
  have : (l.length + 1 == r.length + 1) = (l.length == r.length) := by
    by_cases h : l.length = r.length <;> simp [h]
  rw [this]
  cases l.length == r.length <;> cases p a b <;> rfl
theorem allZ_len {p : Nd → Nd → Bool} {l r : List Nd} (h : l.length ≠ r.length) : allZ p l r = false := by
  unfold allZ
  rw [show (l.length == r.length) = false by simpa using h]; rfl
theorem allZ_append (p : Nd → Nd → Bool) : ∀ {l l' r r' : List Nd}, l.length = l'.length → allZ p (l ++ r) (l' ++ r') = (allZ p l l' && allZ p r r')
  | [], [], r, r', _ => by show allZ p r r' = _; rw [allZ_nil]; rfl
  | a :: l, b :: l', r, r', h => by
    rw [List.cons_append, List.cons_append, allZ_cons, allZ_cons, allZ_append p (by simpa using h), Bool.and_assoc]
theorem allZ_map (p : Nd → Nd → Bool) (g g' : Nd → Nd) : ∀ l r : List Nd, allZ p (l.map g) (r.map g') = allZ (fun a b => p (g a) (g' b)) l r
  | [], [] => rfl
  | [], b :: r => by rw [allZ_len (by simp), allZ_len (by simp)]
  | a :: l, [] => by rw [allZ_len (by simp), allZ_len (by simp)]
  | a :: l, b :: r => by rw [List.map_cons, List.map_cons, allZ_cons, allZ_cons, allZ_map p g g' l r]
theorem allZ_and (p q : Nd → Nd → Bool) : ∀ l r : List Nd, allZ (fun a b => p a b && q a b) l r = (allZ p l r && allZ q l r)
  | [], [] => rfl
  | [], b :: r => by rw [allZ_len (by simp), allZ_len (by simp)]; rfl
  | a :: l, [] => by rw [allZ_len (by simp), allZ_len (by simp)]; rfl
  | a :: l, b :: r => by
    rw [allZ_cons, allZ_cons, allZ_cons, allZ_and p q l r]
    cases p a b <;> cases q a b <;> cases allZ p l r <;> cases allZ q l r <;> rfl
theorem allZ_congr {p q : Nd → Nd → Bool} : ∀ {l r : List Nd}, (∀ a ∈ l, ∀ b ∈ r, p a b = q a b) → allZ p l r = allZ q l r
  | [], [], _ => rfl
  | [], b :: r, _ => by rw [allZ_len (by simp), allZ_len (by simp)]
  | a :: l, [], _ => by rw [allZ_len (by simp), allZ_len (by simp)]
  | a :: l, b :: r, h => by
    rw [allZ_cons, allZ_cons, h a (List.mem_cons_self ..) b (List.mem_cons_self ..), allZ_congr fun x hx y hy => h x (List.mem_cons_of_mem _ hx) y (List.mem_cons_of_mem _ hy)]
theorem allZ_flat (p : Nd → Nd → Bool) (g g' : Nd → List Nd) : ∀ {l r : List Nd}, allZ (fun a b => (g a).length == (g' b).length) l r = true → allZ p (l.flatMap g) (r.flatMap g') = allZ (fun a b => allZ p (g a) (g' b)) l r
  | [], [], _ => rfl
  | [], b :: r, h => by rw [allZ_len (by simp)] at h; cases h
  | a :: l, [], h => by rw [allZ_len (by simp)] at h; cases h
  | a :: l, b :: r, h => by
    rw [allZ_cons, Bool.and_eq_true] at h
    rw [List.flatMap_cons, List.flatMap_cons, allZ_append p (by simpa using h.1), allZ_cons, allZ_flat p g g' h.2]
theorem allZ_range (p : Nd → Nd → Bool) (f f' : Nat → Nd) (n : Nat) : allZ p ((List.range n).map f) ((List.range n).map f') = (List.range n).all fun i => p (f i) (f' i) := by
  induction n with
  | zero => rfl
  | succ n ih =>
    rw [List.range_succ, List.map_append, List.map_append, allZ_append p (by simp), ih]
    simp only [List.map_cons, List.map_nil, allZ_cons, allZ_nil, Bool.and_true, List.all_append, List.all_cons, List.all_nil]
theorem same_els {d d' : Dat} {ty : Ty} (h : Fits d ty) (h' : Fits d' ty) (hd : deep ty = true) : same d d' ty = allZ (sameC (rowTy ty)) d.els d'.els := by
  obtain ⟨n, k, f, rfl⟩ := h.deep hd
  obtain ⟨n', k', f', rfl⟩ := h'.deep hd
  rw [same_sl]
  by_cases e : n = n'
  · subst e
    rw [show (n == n) = true by simp, Bool.true_and]
    exact (allZ_range (sameC (rowTy ty)) f f' n).symm
  · rw [allZ_len (by rw [els_len, els_len]; exact e), show (n == n') = false by simpa using e]; rfl
theorem len_els (d : Dat) : d.els.length = d.len := by simp [Dat.els]
theorem sameC_item (c c' : Nd) : sameC (rowTy .items) c c' = (itemSame c c' && sameC exprTy (cut 2 c) (cut 2 c')) := by
  unfold sameC itemSame eqL cut
  simp only [rowTy, exprTy, List.length_cons, List.length_nil, List.cons_append, List.nil_append, Nat.zero_add, Nat.reduceAdd, List.range_succ, List.range_zero, List.all_cons, List.all_nil, Bool.and_true, List.getD_cons_succ, List.getD_cons_zero]
  generalize same (c 0) (c' 0) .bool = u0
  generalize same (c 1) (c' 1) .str = u1
  generalize same (c 12) (c' 12) .str = u2
  generalize same (c 2) (c' 2) .int = v0
  cases u0 <;> cases u1 <;> cases u2 <;> cases v0 <;> simp
theorem sameC_source (c c' : Nd) : sameC (rowTy .sources) c c' = (eqL c c' 0 .str && (eqL c c' 1 .str && same (c 2) (c' 2) .exprs)) := by
  unfold sameC eqL
  simp only [rowTy, List.length_cons, List.length_nil, Nat.zero_add, Nat.reduceAdd, List.range_succ, List.range_zero, List.nil_append, List.cons_append, List.all_cons, List.all_nil, Bool.and_true, List.getD_cons_succ, List.getD_cons_zero]
theorem sameC_key (c c' : Nd) : sameC (rowTy .keys) c c' = (keySame c c' && sameC exprTy c c') := by
  unfold sameC keySame eqL
  simp only [rowTy, exprTy, List.length_cons, List.length_nil, List.cons_append, List.nil_append, Nat.zero_add, Nat.reduceAdd, List.range_succ, List.range_zero, List.all_cons, List.all_nil, Bool.and_true, List.getD_cons_succ, List.getD_cons_zero]
  generalize same (c 10) (c' 10) .bool = u0
  cases u0 <;> simp
theorem sameC_query (q q' : Nd) : sameC (rowTy .queries) q q' = (eqL q q' 0 .bool && (same (q 1) (q' 1) .items && (same (q 2) (q' 2) .sources && (same (q 3) (q' 3) .exprs && (same (q 4) (q' 4) .keys && eqL q q' 5 .int))))) := by
  unfold sameC eqL
  simp only [rowTy, List.length_cons, List.length_nil, Nat.zero_add, Nat.reduceAdd, List.range_succ, List.range_zero, List.nil_append, List.cons_append, List.all_cons, List.all_nil, Bool.and_true, List.getD_cons_succ, List.getD_cons_zero]
theorem sameC_head (c c' : Nd) : sameC exprTy c c' = (headSame c c' && (same (c 8) (c' 8) .exprs && same (c 9) (c' 9) .queries)) := by
  unfold sameC headSame eqL
  simp only [exprTy, List.length_cons, List.length_nil, Nat.zero_add, Nat.reduceAdd, List.range_succ, List.range_zero, List.nil_append, List.cons_append, List.all_cons, List.all_nil, Bool.and_true, List.getD_cons_succ, List.getD_cons_zero, Bool.and_assoc]
def FitsQ (q : Nd) : Prop := Fits (q 1) .items ∧ Fits (q 2) .sources ∧ Fits (q 3) .exprs ∧ Fits (q 4) .keys
theorem fitsQ_of {d : Dat} (h : Fits d .queries) {q : Nd} (hq : q ∈ d.els) : FitsQ q := ⟨els_fits h hq 1 (by decide), els_fits h hq 2 (by decide), els_fits h hq 3 (by decide), els_fits h hq 4 (by decide)⟩
theorem source_len {c c' : Nd} (h : sourceSame c c' = true) : (c 2).els.length = (c' 2).els.length := by
  unfold sourceSame at h
  rw [Bool.and_eq_true, Bool.and_eq_true] at h
  rw [len_els, len_els]
  simpa using h.2.2
theorem allZ_true {p : Nd → Nd → Bool} {l r : List Nd} (h : allZ p l r = true) : l.length = r.length := by
  by_cases e : l.length = r.length
  · exact e
  · rw [allZ_len e] at h; cases h
theorem flat_len (g g' : Nd → List Nd) : ∀ {l r : List Nd}, allZ (fun a b => (g a).length == (g' b).length) l r = true → (l.flatMap g).length = (r.flatMap g').length
  | [], [], _ => rfl
  | [], b :: r, h => by rw [allZ_len (by simp)] at h; cases h
  | a :: l, [], h => by rw [allZ_len (by simp)] at h; cases h
  | a :: l, b :: r, h => by
    rw [allZ_cons, Bool.and_eq_true] at h
    rw [List.flatMap_cons, List.flatMap_cons, List.length_append, List.length_append, flat_len g g' h.2]
    have := h.1
    simp at this
    omega
theorem allZ_imp {p q : Nd → Nd → Bool} : ∀ {l r : List Nd}, (∀ a b, p a b = true → q a b = true) → allZ p l r = true → allZ q l r = true
  | [], [], _, _ => rfl
  | [], b :: r, _, h => by rw [allZ_len (by simp)] at h; cases h
  | a :: l, [], _, h => by rw [allZ_len (by simp)] at h; cases h
  | a :: l, b :: r, hi, h => by
    rw [allZ_cons, Bool.and_eq_true] at h ⊢
    exact ⟨hi a b h.1, allZ_imp hi h.2⟩
theorem frame_from {q q' : Nd} (h : frameSame q q' = true) : allZ (fun a b => ((a 2).els.length == (b 2).els.length)) (q 2).els (q' 2).els = true := by
  unfold frameSame at h
  simp only [Bool.and_eq_true] at h
  exact allZ_imp (fun a b hab => by simpa using source_len hab) h.2.2.2.2.1
theorem slots_len {q q' : Nd} (h : frameSame q q' = true) : (slotsOf q).length = (slotsOf q').length := by
  have hf := flat_len (fun c => (c 2).els) (fun c => (c 2).els) (frame_from h)
  unfold frameSame at h
  simp only [Bool.and_eq_true, beq_iff_eq] at h
  obtain ⟨_, _, h3, h1, _, h4⟩ := h
  have k1 := allZ_true h1
  have k4 := allZ_true h4
  unfold slotsOf exFrom
  simp only [List.length_append, List.length_map]
  rw [hf, k1, k4, len_els (q 3), len_els (q' 3), h3]
theorem query_same {q q' : Nd} (h : FitsQ q) (h' : FitsQ q') : sameC (rowTy .queries) q q' = (frameSame q q' && allZ (sameC exprTy) (slotsOf q) (slotsOf q')) := by
  rw [sameC_query, same_els h.1 h'.1 rfl, same_els h.2.1 h'.2.1 rfl, same_els h.2.2.1 h'.2.2.1 rfl, same_els h.2.2.2 h'.2.2.2 rfl]
  rw [allZ_congr (q := fun a b => itemSame a b && sameC exprTy (cut 2 a) (cut 2 b)) fun a _ b _ => sameC_item a b, allZ_and]
  rw [allZ_congr (p := sameC (rowTy .sources)) (q := fun a b => sourceSame a b && allZ (sameC exprTy) (a 2).els (b 2).els) fun a ha b hb => by
    rw [sameC_source, same_els (ty := .exprs) (els_fits h.2.1 ha 2 (by decide)) (els_fits h'.2.1 hb 2 (by decide)) rfl]
    unfold sourceSame
    by_cases e : (a 2).len = (b 2).len
    · rw [show ((a 2).len == (b 2).len) = true by simpa using e]
      show (_ && (_ && allZ (sameC exprTy) _ _)) = _
      rw [Bool.and_true, Bool.and_assoc]
    · rw [show ((a 2).len == (b 2).len) = false by simpa using e]
      show (_ && (_ && allZ (sameC exprTy) _ _)) = _
      rw [allZ_len (by rw [len_els, len_els]; exact e)]
      simp, allZ_and]
  rw [allZ_congr (p := sameC (rowTy .keys)) (q := fun a b => keySame a b && sameC exprTy a b) fun a _ b _ => sameC_key a b, allZ_and]
  by_cases hfr : frameSame q q' = true
  · have hfrom := frame_from hfr
    have e : allZ (sameC exprTy) (slotsOf q) (slotsOf q') = (((allZ (fun a b => sameC exprTy (cut 2 a) (cut 2 b)) (q 1).els (q' 1).els && allZ (fun a b => allZ (sameC exprTy) (a 2).els (b 2).els) (q 2).els (q' 2).els) && allZ (sameC exprTy) (q 3).els (q' 3).els) && allZ (sameC exprTy) (q 4).els (q' 4).els) := by
      have hl2 := flat_len (fun c => (c 2).els) (fun c => (c 2).els) hfrom
      have hfr2 := hfr
      unfold frameSame at hfr2
      simp only [Bool.and_eq_true, beq_iff_eq] at hfr2
      obtain ⟨_, _, h3, h1, _, _⟩ := hfr2
      have k1 := allZ_true h1
      unfold slotsOf exFrom
      have l3 : (q 3).els.length = (q' 3).els.length := by rw [len_els, len_els]; exact h3
      rw [allZ_append _ (by simp only [List.length_append, List.length_map]; rw [hl2, k1, l3]), allZ_append _ (by simp only [List.length_append, List.length_map]; rw [hl2, k1]), allZ_append _ (by simp only [List.length_map]; exact k1), allZ_map, allZ_flat _ _ _ hfrom]
    rw [e, hfr]
    unfold frameSame at hfr
    simp only [Bool.and_eq_true] at hfr
    obtain ⟨f0, f5, f3, f1, f2, f4⟩ := hfr
    rw [f0, f5, f1, f2, f4]
    show _ = _
    generalize allZ (fun a b => sameC exprTy (cut 2 a) (cut 2 b)) (q 1).els (q' 1).els = u1
    generalize allZ (fun a b => allZ (sameC exprTy) (a 2).els (b 2).els) (q 2).els (q' 2).els = u2
    generalize allZ (sameC exprTy) (q 4).els (q' 4).els = u4
    show (true && ((true && u1) && ((true && u2) && (allZ (sameC exprTy) (q 3).els (q' 3).els && ((true && u4) && true))))) = _
    generalize allZ (sameC exprTy) (q 3).els (q' 3).els = u3
    cases u1 <;> cases u2 <;> cases u3 <;> cases u4 <;> rfl
  · rw [show frameSame q q' = false by simpa using hfr, Bool.false_and]
    have : frameSame q q' = false := by simpa using hfr
    unfold frameSame at this
    by_cases e3 : (q 3).len = (q' 3).len
    · rw [show ((q 3).len == (q' 3).len) = true by simpa using e3] at this
      generalize eqL q q' 0 .bool = u0 at this ⊢
      generalize eqL q q' 5 .int = u5 at this ⊢
      generalize allZ itemSame (q 1).els (q' 1).els = u1 at this ⊢
      generalize allZ sourceSame (q 2).els (q' 2).els = u2 at this ⊢
      generalize allZ keySame (q 4).els (q' 4).els = u4 at this ⊢
      cases u0 <;> cases u5 <;> cases u1 <;> cases u2 <;> cases u4 <;> first | (simp at this; done) | simp
    · have : allZ (sameC (rowTy .exprs)) (q 3).els (q' 3).els = false := allZ_len (by rw [len_els, len_els]; exact e3)
      rw [this]
      simp
theorem expr_same {c c' : Nd} (h8 : Fits (c 8) .exprs) (h9 : Fits (c 9) .queries) (h8' : Fits (c' 8) .exprs) (h9' : Fits (c' 9) .queries) :
    sameC exprTy c c' = ((headSame c c' && (((c 8).len == (c' 8).len) && allZ frameSame (c 9).els (c' 9).els)) && allZ (sameC exprTy) (slotParts c) (slotParts c')) := by
  rw [sameC_head, same_els h8 h8' rfl, same_els h9 h9' rfl]
  rw [allZ_congr (p := sameC (rowTy .queries)) (q := fun a b => frameSame a b && allZ (sameC exprTy) (slotsOf a) (slotsOf b)) fun a ha b hb => query_same (fitsQ_of h9 ha) (fitsQ_of h9' hb), allZ_and]
  by_cases hf : allZ frameSame (c 9).els (c' 9).els = true
  · by_cases e : (c 8).len = (c' 8).len
    · unfold slotParts
      rw [allZ_append _ (by rw [len_els, len_els]; exact e), allZ_flat _ _ _ (allZ_imp (fun a b hab => by simpa using slots_len hab) hf), hf, show ((c 8).len == (c' 8).len) = true by simpa using e]
      show _ = _
      generalize headSame c c' = u0
      show (u0 && (allZ (sameC exprTy) (c 8).els (c' 8).els && (true && _))) = _
      generalize allZ (sameC exprTy) (c 8).els (c' 8).els = u1
      generalize allZ (fun a b => allZ (sameC exprTy) (slotsOf a) (slotsOf b)) (c 9).els (c' 9).els = u2
      cases u0 <;> cases u1 <;> cases u2 <;> rfl
    · rw [show ((c 8).len == (c' 8).len) = false by simpa using e]
      have : allZ (sameC (rowTy .exprs)) (c 8).els (c' 8).els = false := allZ_len (by rw [len_els, len_els]; exact e)
      rw [this]
      simp
  · rw [show allZ frameSame (c 9).els (c' 9).els = false by simpa using hf]
    simp
set_option maxRecDepth 100000 in
set_option maxHeartbeats 8000000 in
theorem eqf_items (w0 W : World) (a1 : Option Addr) (p1 : Nat) (a2 : Option Addr) (p2 : Nat) (L1 L2 : List Nd) (hb0 : Below w0.heap.size w0 W)
    (h1 : LK (rowTy .items) w0 W (fun _ => True) (.slice a1 L1.length p1) L1) (h2 : LK (rowTy .items) w0 W (fun _ => True) (.slice a2 L2.length p2) L2) (hN : L1.length ≤ 1048576) (_hN2 : L2.length ≤ 1048576)
    (HF : ∀ c ∈ L1, ∀ c' ∈ L2, ∀ (ys ys' : List Value) (W' : World), OutK (rowTy .items) w0 ys [c] → OutK (rowTy .items) w0 ys' [c'] → Below w0.heap.size w0 W' →
      Calls Tryz.prog 113 #[.agg ys.toArray, .agg ys'.toArray] W' fun e w' => e = .returned (.bool (itemSame c c')) ∧ Below W'.heap.size W' w') :
    Calls Tryz.prog 112 #[.slice a1 L1.length p1, .slice a2 L2.length p2, .func (.func 113) #[] #[]] W fun e w' => e = .returned (.bool (allZ itemSame L1 L2)) ∧ Below W.heap.size W w' := by
  have hB0 := Below.refl W.heap.size W
  by_cases hl : L1.length = L2.length
  · go_enter Tryz.func112, Tryz.ntmps112
    have hl2 : ((L1.length : Int) != (L2.length : Int)) = false := by simp; omega
    have HL := Lib.hid hl
    clear hl
    go_wp2_with fail
    clear hl2
    go_loopw [17] (fun i wr => ∃ j : Nat, j ≤ L1.length ∧ i = .int .i64 (j : Int) ∧ Below W.heap.size W wr ∧ Hid (allZ itemSame (L1.take j) (L2.take j) = true)) (fun i _ => L1.length - (intOf i).toNat)
    case atStart => exact ⟨0, by omega, rfl, hB0, rfl⟩
    case round =>
      obtain ⟨j, hj, rfl, hB, HA⟩ := hrel
      by_cases hlt : j < L1.length
      · have hlt2 : (j : Int) < (L1.length : Int) := by omega
        have hltb : j < L2.length := by have := HL.out; omega
        obtain ⟨g, o, cap', ys, hv, hys, -, hg, hcell⟩ := h1.at (List.getElem?_eq_getElem hlt)
        injection hv with e1 _ e3
        subst e1; subst e3
        obtain ⟨g2, o2, cap2, ys2, hv2, hys2, -, hg2, hcell2⟩ := h2.at (List.getElem?_eq_getElem hltb)
        injection hv2 with e1 _ e3
        subst e1; subst e3
        have HC := fun w' h => HF L1[j] (List.getElem_mem hlt) L2[j] (List.getElem_mem hltb) ys ys2 w' hys hys2 h
        obtain ⟨x0, x1, x2, x3, x4, x5, x6, x7, x8, x9, ax10, nx10, px10, ax11, nx11, px11, x12, rfl, -⟩ := hys.itemRow
        obtain ⟨y0, y1, y2, y3, y4, y5, y6, y7, y8, y9, ay10, ny10, py10, ay11, ny11, py11, y12, rfl, -⟩ := hys2.itemRow
        have z0 : wr.cell? ⟨g, o + j * 13, none⟩ = some (.bool x0) := (hB.cell (p := ⟨g, o + j * 13, none⟩) hg).trans (hcell 0 _ rfl)
        have z1 : wr.cell? ⟨g, o + j * 13 + 1, none⟩ = some (.string x1) := (hB.cell (p := ⟨g, o + j * 13 + 1, none⟩) hg).trans (hcell 1 _ rfl)
        have z2 : wr.cell? ⟨g, o + j * 13 + 2, none⟩ = some (.int .i64 x2) := (hB.cell (p := ⟨g, o + j * 13 + 2, none⟩) hg).trans (hcell 2 _ rfl)
        have z3 : wr.cell? ⟨g, o + j * 13 + 3, none⟩ = some (.int .i64 x3) := (hB.cell (p := ⟨g, o + j * 13 + 3, none⟩) hg).trans (hcell 3 _ rfl)
        have z4 : wr.cell? ⟨g, o + j * 13 + 4, none⟩ = some (.bool x4) := (hB.cell (p := ⟨g, o + j * 13 + 4, none⟩) hg).trans (hcell 4 _ rfl)
        have z5 : wr.cell? ⟨g, o + j * 13 + 5, none⟩ = some (.int .i64 x5) := (hB.cell (p := ⟨g, o + j * 13 + 5, none⟩) hg).trans (hcell 5 _ rfl)
        have z6 : wr.cell? ⟨g, o + j * 13 + 6, none⟩ = some (.int .i64 x6) := (hB.cell (p := ⟨g, o + j * 13 + 6, none⟩) hg).trans (hcell 6 _ rfl)
        have z7 : wr.cell? ⟨g, o + j * 13 + 7, none⟩ = some (.string x7) := (hB.cell (p := ⟨g, o + j * 13 + 7, none⟩) hg).trans (hcell 7 _ rfl)
        have z8 : wr.cell? ⟨g, o + j * 13 + 8, none⟩ = some (.string x8) := (hB.cell (p := ⟨g, o + j * 13 + 8, none⟩) hg).trans (hcell 8 _ rfl)
        have z9 : wr.cell? ⟨g, o + j * 13 + 9, none⟩ = some (.string x9) := (hB.cell (p := ⟨g, o + j * 13 + 9, none⟩) hg).trans (hcell 9 _ rfl)
        have z10 : wr.cell? ⟨g, o + j * 13 + 10, none⟩ = some (.slice ax10 nx10 px10) := (hB.cell (p := ⟨g, o + j * 13 + 10, none⟩) hg).trans (hcell 10 _ rfl)
        have z11 : wr.cell? ⟨g, o + j * 13 + 11, none⟩ = some (.slice ax11 nx11 px11) := (hB.cell (p := ⟨g, o + j * 13 + 11, none⟩) hg).trans (hcell 11 _ rfl)
        have z12 : wr.cell? ⟨g, o + j * 13 + 12, none⟩ = some (.string x12) := (hB.cell (p := ⟨g, o + j * 13 + 12, none⟩) hg).trans (hcell 12 _ rfl)
        have u0 : wr.cell? ⟨g2, o2 + j * 13, none⟩ = some (.bool y0) := (hB.cell (p := ⟨g2, o2 + j * 13, none⟩) hg2).trans (hcell2 0 _ rfl)
        have u1 : wr.cell? ⟨g2, o2 + j * 13 + 1, none⟩ = some (.string y1) := (hB.cell (p := ⟨g2, o2 + j * 13 + 1, none⟩) hg2).trans (hcell2 1 _ rfl)
        have u2 : wr.cell? ⟨g2, o2 + j * 13 + 2, none⟩ = some (.int .i64 y2) := (hB.cell (p := ⟨g2, o2 + j * 13 + 2, none⟩) hg2).trans (hcell2 2 _ rfl)
        have u3 : wr.cell? ⟨g2, o2 + j * 13 + 3, none⟩ = some (.int .i64 y3) := (hB.cell (p := ⟨g2, o2 + j * 13 + 3, none⟩) hg2).trans (hcell2 3 _ rfl)
        have u4 : wr.cell? ⟨g2, o2 + j * 13 + 4, none⟩ = some (.bool y4) := (hB.cell (p := ⟨g2, o2 + j * 13 + 4, none⟩) hg2).trans (hcell2 4 _ rfl)
        have u5 : wr.cell? ⟨g2, o2 + j * 13 + 5, none⟩ = some (.int .i64 y5) := (hB.cell (p := ⟨g2, o2 + j * 13 + 5, none⟩) hg2).trans (hcell2 5 _ rfl)
        have u6 : wr.cell? ⟨g2, o2 + j * 13 + 6, none⟩ = some (.int .i64 y6) := (hB.cell (p := ⟨g2, o2 + j * 13 + 6, none⟩) hg2).trans (hcell2 6 _ rfl)
        have u7 : wr.cell? ⟨g2, o2 + j * 13 + 7, none⟩ = some (.string y7) := (hB.cell (p := ⟨g2, o2 + j * 13 + 7, none⟩) hg2).trans (hcell2 7 _ rfl)
        have u8 : wr.cell? ⟨g2, o2 + j * 13 + 8, none⟩ = some (.string y8) := (hB.cell (p := ⟨g2, o2 + j * 13 + 8, none⟩) hg2).trans (hcell2 8 _ rfl)
        have u9 : wr.cell? ⟨g2, o2 + j * 13 + 9, none⟩ = some (.string y9) := (hB.cell (p := ⟨g2, o2 + j * 13 + 9, none⟩) hg2).trans (hcell2 9 _ rfl)
        have u10 : wr.cell? ⟨g2, o2 + j * 13 + 10, none⟩ = some (.slice ay10 ny10 py10) := (hB.cell (p := ⟨g2, o2 + j * 13 + 10, none⟩) hg2).trans (hcell2 10 _ rfl)
        have u11 : wr.cell? ⟨g2, o2 + j * 13 + 11, none⟩ = some (.slice ay11 ny11 py11) := (hB.cell (p := ⟨g2, o2 + j * 13 + 11, none⟩) hg2).trans (hcell2 11 _ rfl)
        have u12 : wr.cell? ⟨g2, o2 + j * 13 + 12, none⟩ = some (.string y12) := (hB.cell (p := ⟨g2, o2 + j * 13 + 12, none⟩) hg2).trans (hcell2 12 _ rfl)
        have hgw : g2 < wr.heap.size := Nat.lt_of_lt_of_le hg2 hB.size
        clear hcell hcell2 hys hys2
        have hsnoc : allZ itemSame (L1.take (j + 1)) (L2.take (j + 1)) = (allZ itemSame (L1.take j) (L2.take j) && itemSame L1[j] L2[j]) := by
          rw [take_next (List.getElem?_eq_getElem hlt), take_next (List.getElem?_eq_getElem hltb), allZ_append _ (by rw [List.length_take, List.length_take]; have := HL.out; omega), allZ_cons, allZ_nil, Bool.and_true]
        have HSN := Lib.hid hsnoc
        have hal1 : Below wr.heap.size wr (wr.alloc (.cells #[.bool x0, .string x1, .int .i64 x2, .int .i64 x3, .bool x4, .int .i64 x5, .int .i64 x6, .string x7, .string x8, .string x9, .slice ax10 nx10 px10, .slice ax11 nx11 px11, .string x12] 111)) := (Below.refl _ _).alloc (Nat.le_refl _) _
        have hal2 : Below wr.heap.size wr ((wr.alloc (.cells #[.bool x0, .string x1, .int .i64 x2, .int .i64 x3, .bool x4, .int .i64 x5, .int .i64 x6, .string x7, .string x8, .string x9, .slice ax10 nx10 px10, .slice ax11 nx11 px11, .string x12] 111)).alloc (.cells #[.bool y0, .string y1, .int .i64 y2, .int .i64 y3, .bool y4, .int .i64 y5, .int .i64 y6, .string y7, .string y8, .string y9, .slice ay10 ny10 py10, .slice ay11 ny11 py11, .string y12] 111)) := hal1.alloc (by simp) _
        have hb2 := (hb0.trans (hB.mono hb0.size)).trans (hal2.mono (Nat.le_trans hb0.size hB.size))
        have hB2 := hB.trans (hal2.mono hB.size)
        have HCC := HC _ hb2
        clear hsnoc HC hal1 hal2 hb2
        generalize hp : itemSame L1[j] L2[j] = pv at HCC HSN
        have HP := Lib.hid hp
        clear hp
        cases pv
        case true =>
          have HS2 : Hid (allZ itemSame (L1.take (j + 1)) (L2.take (j + 1)) = true) := by show _ = true; rw [HSN.out, HA.out]; rfl
          go_wp2_with fail
          refine HCC.mono ?_
          clear HCC
          rintro e w2 ⟨rfl, hb2⟩
          have hB3 := hB2.trans (hb2.mono hB2.size)
          clear hb2 hB2 z0 u0 z1 u1 z2 u2 z3 u3 z4 u4 z5 u5 z6 u6 z7 u7 z8 u8 z9 u9 z10 u10 z11 u11 z12 u12
          go_wp2_with fail
          go_roundw
          case rel => exact ⟨j + 1, by omega, by go_num, hB3, HS2⟩
          case measure => simp [intOf]; omega
        case false =>
          have HS2 : Hid (allZ itemSame L1 L2 = false) := by
            show _ = false
            have e1 : L1 = L1.take (j + 1) ++ L1.drop (j + 1) := (List.take_append_drop _ _).symm
            have e2 : L2 = L2.take (j + 1) ++ L2.drop (j + 1) := (List.take_append_drop _ _).symm
            rw [e1, e2, allZ_append _ (by rw [List.length_take, List.length_take]; have := HL.out; omega), HSN.out, HA.out]; rfl
          go_wp2_with fail
          refine HCC.mono ?_
          clear HCC
          rintro e w2 ⟨rfl, hb2⟩
          have hB3 := hB2.trans (hb2.mono hB2.size)
          clear hb2 hB2 z0 u0 z1 u1 z2 u2 z3 u3 z4 u4 z5 u5 z6 u6 z7 u7 z8 u8 z9 u9 z10 u10 z11 u11 z12 u12
          go_wp2_with fail
          go_ret
          exact ⟨by rw [HS2.out]; rfl, hB3⟩
      · obtain rfl : j = L1.length := by omega
        clear hlt hj
        go_wp2_with fail
        go_ret
        refine ⟨?_, hB⟩
        have h := HA.out
        have hl := HL.out
        rw [List.take_length, hl, List.take_length] at h
        rw [h]; rfl
  · have hl2 : ((L1.length : Int) != (L2.length : Int)) = true := by simp; omega
    have HZ := Lib.hid (allZ_len (p := itemSame) hl)
    clear hl
    go_enter Tryz.func112, Tryz.ntmps112
    go_wp2_with fail
    go_ret
    exact ⟨by rw [HZ.out]; rfl, hB0⟩
set_option maxRecDepth 100000 in
set_option maxHeartbeats 8000000 in
theorem eqf_sources (w0 W : World) (a1 : Option Addr) (p1 : Nat) (a2 : Option Addr) (p2 : Nat) (L1 L2 : List Nd) (hb0 : Below w0.heap.size w0 W)
    (h1 : LK (rowTy .sources) w0 W (fun _ => True) (.slice a1 L1.length p1) L1) (h2 : LK (rowTy .sources) w0 W (fun _ => True) (.slice a2 L2.length p2) L2) (hN : L1.length ≤ 1048576) (_hN2 : L2.length ≤ 1048576)
    (HF : ∀ c ∈ L1, ∀ c' ∈ L2, ∀ (ys ys' : List Value) (W' : World), OutK (rowTy .sources) w0 ys [c] → OutK (rowTy .sources) w0 ys' [c'] → Below w0.heap.size w0 W' →
      Calls Tryz.prog 115 #[.agg ys.toArray, .agg ys'.toArray] W' fun e w' => e = .returned (.bool (sourceSame c c')) ∧ Below W'.heap.size W' w') :
    Calls Tryz.prog 114 #[.slice a1 L1.length p1, .slice a2 L2.length p2, .func (.func 115) #[] #[]] W fun e w' => e = .returned (.bool (allZ sourceSame L1 L2)) ∧ Below W.heap.size W w' := by
  have hB0 := Below.refl W.heap.size W
  by_cases hl : L1.length = L2.length
  · go_enter Tryz.func114, Tryz.ntmps114
    have hl2 : ((L1.length : Int) != (L2.length : Int)) = false := by simp; omega
    have HL := Lib.hid hl
    clear hl
    go_wp2_with fail
    clear hl2
    go_loopw [17] (fun i wr => ∃ j : Nat, j ≤ L1.length ∧ i = .int .i64 (j : Int) ∧ Below W.heap.size W wr ∧ Hid (allZ sourceSame (L1.take j) (L2.take j) = true)) (fun i _ => L1.length - (intOf i).toNat)
    case atStart => exact ⟨0, by omega, rfl, hB0, rfl⟩
    case round =>
      obtain ⟨j, hj, rfl, hB, HA⟩ := hrel
      by_cases hlt : j < L1.length
      · have hlt2 : (j : Int) < (L1.length : Int) := by omega
        have hltb : j < L2.length := by have := HL.out; omega
        obtain ⟨g, o, cap', ys, hv, hys, -, hg, hcell⟩ := h1.at (List.getElem?_eq_getElem hlt)
        injection hv with e1 _ e3
        subst e1; subst e3
        obtain ⟨g2, o2, cap2, ys2, hv2, hys2, -, hg2, hcell2⟩ := h2.at (List.getElem?_eq_getElem hltb)
        injection hv2 with e1 _ e3
        subst e1; subst e3
        have HC := fun w' h => HF L1[j] (List.getElem_mem hlt) L2[j] (List.getElem_mem hltb) ys ys2 w' hys hys2 h
        obtain ⟨x0, x1, ax2, nx2, px2, rfl, -⟩ := hys.sourceRow
        obtain ⟨y0, y1, ay2, ny2, py2, rfl, -⟩ := hys2.sourceRow
        have z0 : wr.cell? ⟨g, o + j * 3, none⟩ = some (.string x0) := (hB.cell (p := ⟨g, o + j * 3, none⟩) hg).trans (hcell 0 _ rfl)
        have z1 : wr.cell? ⟨g, o + j * 3 + 1, none⟩ = some (.string x1) := (hB.cell (p := ⟨g, o + j * 3 + 1, none⟩) hg).trans (hcell 1 _ rfl)
        have z2 : wr.cell? ⟨g, o + j * 3 + 2, none⟩ = some (.slice ax2 nx2 px2) := (hB.cell (p := ⟨g, o + j * 3 + 2, none⟩) hg).trans (hcell 2 _ rfl)
        have u0 : wr.cell? ⟨g2, o2 + j * 3, none⟩ = some (.string y0) := (hB.cell (p := ⟨g2, o2 + j * 3, none⟩) hg2).trans (hcell2 0 _ rfl)
        have u1 : wr.cell? ⟨g2, o2 + j * 3 + 1, none⟩ = some (.string y1) := (hB.cell (p := ⟨g2, o2 + j * 3 + 1, none⟩) hg2).trans (hcell2 1 _ rfl)
        have u2 : wr.cell? ⟨g2, o2 + j * 3 + 2, none⟩ = some (.slice ay2 ny2 py2) := (hB.cell (p := ⟨g2, o2 + j * 3 + 2, none⟩) hg2).trans (hcell2 2 _ rfl)
        have hgw : g2 < wr.heap.size := Nat.lt_of_lt_of_le hg2 hB.size
        clear hcell hcell2 hys hys2
        have hsnoc : allZ sourceSame (L1.take (j + 1)) (L2.take (j + 1)) = (allZ sourceSame (L1.take j) (L2.take j) && sourceSame L1[j] L2[j]) := by
          rw [take_next (List.getElem?_eq_getElem hlt), take_next (List.getElem?_eq_getElem hltb), allZ_append _ (by rw [List.length_take, List.length_take]; have := HL.out; omega), allZ_cons, allZ_nil, Bool.and_true]
        have HSN := Lib.hid hsnoc
        have hal1 : Below wr.heap.size wr (wr.alloc (.cells #[.string x0, .string x1, .slice ax2 nx2 px2] 113)) := (Below.refl _ _).alloc (Nat.le_refl _) _
        have hal2 : Below wr.heap.size wr ((wr.alloc (.cells #[.string x0, .string x1, .slice ax2 nx2 px2] 113)).alloc (.cells #[.string y0, .string y1, .slice ay2 ny2 py2] 113)) := hal1.alloc (by simp) _
        have hb2 := (hb0.trans (hB.mono hb0.size)).trans (hal2.mono (Nat.le_trans hb0.size hB.size))
        have hB2 := hB.trans (hal2.mono hB.size)
        have HCC := HC _ hb2
        clear hsnoc HC hal1 hal2 hb2
        generalize hp : sourceSame L1[j] L2[j] = pv at HCC HSN
        have HP := Lib.hid hp
        clear hp
        cases pv
        case true =>
          have HS2 : Hid (allZ sourceSame (L1.take (j + 1)) (L2.take (j + 1)) = true) := by show _ = true; rw [HSN.out, HA.out]; rfl
          go_wp2_with fail
          refine HCC.mono ?_
          clear HCC
          rintro e w2 ⟨rfl, hb2⟩
          have hB3 := hB2.trans (hb2.mono hB2.size)
          clear hb2 hB2 z0 u0 z1 u1 z2 u2
          go_wp2_with fail
          go_roundw
          case rel => exact ⟨j + 1, by omega, by go_num, hB3, HS2⟩
          case measure => simp [intOf]; omega
        case false =>
          have HS2 : Hid (allZ sourceSame L1 L2 = false) := by
            show _ = false
            have e1 : L1 = L1.take (j + 1) ++ L1.drop (j + 1) := (List.take_append_drop _ _).symm
            have e2 : L2 = L2.take (j + 1) ++ L2.drop (j + 1) := (List.take_append_drop _ _).symm
            rw [e1, e2, allZ_append _ (by rw [List.length_take, List.length_take]; have := HL.out; omega), HSN.out, HA.out]; rfl
          go_wp2_with fail
          refine HCC.mono ?_
          clear HCC
          rintro e w2 ⟨rfl, hb2⟩
          have hB3 := hB2.trans (hb2.mono hB2.size)
          clear hb2 hB2 z0 u0 z1 u1 z2 u2
          go_wp2_with fail
          go_ret
          exact ⟨by rw [HS2.out]; rfl, hB3⟩
      · obtain rfl : j = L1.length := by omega
        clear hlt hj
        go_wp2_with fail
        go_ret
        refine ⟨?_, hB⟩
        have h := HA.out
        have hl := HL.out
        rw [List.take_length, hl, List.take_length] at h
        rw [h]; rfl
  · have hl2 : ((L1.length : Int) != (L2.length : Int)) = true := by simp; omega
    have HZ := Lib.hid (allZ_len (p := sourceSame) hl)
    clear hl
    go_enter Tryz.func114, Tryz.ntmps114
    go_wp2_with fail
    go_ret
    exact ⟨by rw [HZ.out]; rfl, hB0⟩
end Go.Proofs.YtcliijfdlcagoaaGreat
