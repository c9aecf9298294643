/- Joined texts: StmtM SameStIa SameStIb. -/
import Derived.Test.YtcliijfdlcagoaaGreatQHStmtI
import Derived.Test.YtcliijfdlcagoaaGreatQZAM
import Derived.Test.YtcliijfdlcagoaaGreatQZAO
import Derived.Test.YtcliijfdlcagoaaGreatQZAT
import Derived.Deep.RegionWith
namespace Go.Proofs.YtcliijfdlcagoaaGreat
set_option linter.unusedVariables false
set_option linter.unusedSimpArgs false
open Go.RowKit
theorem wsum_mem {c : Nd} : ∀ {L : List Nd}, c ∈ L → wt c ≤ wsum L
  | a :: L, h => by
    rw [wsum_cons]
    rcases List.mem_cons.1 h with rfl | h
    · omega
    · have := wsum_mem h; omega
theorem wsum_filter (p : Nd → Bool) (g : Nd → Nd) : ∀ L : List Nd, wsum ((L.filter p).map g) ≤ wsum (L.map g)
  | [] => Nat.le_refl _
  | a :: L => by
    have ih := wsum_filter p g L
    rw [List.filter_cons]
    split
    · rw [List.map_cons, List.map_cons, wsum_cons, wsum_cons]; omega
    · rw [List.map_cons, wsum_cons]; omega
theorem wsum_exItems {d : Dat} (h : Fits d .items) : wsum (exItems d) ≤ msr d := Nat.le_trans (wsum_filter _ _ _) (wsum_items h)
theorem wsum_rows {d : Dat} (h : Fits d .rows) : wsum (rowsOf d) ≤ msr d := by
  obtain ⟨n, k, f, rfl⟩ := h.deep rfl
  have hk : k = 1 := h.2.2.1
  subst hk
  have key : ∀ j, j ≤ n → wsum (rowsOf (.sl j 1 f)) ≤ partm f 1 j := fun j => by
    induction j with
    | zero => intro _; exact Nat.zero_le _
    | succ j ih =>
      intro hj
      have h1 := ih (by omega)
      have h2 : wsum (f j 0).els ≤ msr (f j 0) := wsum_exprs (h.2.2.2 j (by omega) 0 (by decide))
      have hs : rowm f 1 j = msr (f j 0) := by unfold rowm; simp [List.range_succ]
      rw [rowsOf_succ, wsum_append, partm_succ, hs]
      omega
  have := key n (Nat.le_refl _)
  rw [msr_is]; omega
theorem BdS.wsum {c : Nd} (hs : BdS c) : wsum (stmtExprs c) ≤ 1048576 := by
  have h2 : Go.Proofs.YtcliijfdlcagoaaGreat.wsum (exItems (c 2)) ≤ msr (c 2) := wsum_exItems hs.q.1
  have h3 : Go.Proofs.YtcliijfdlcagoaaGreat.wsum (exFrom (c 3)) ≤ msr (c 3) := wsum_from hs.q.2.1
  have h4 : Go.Proofs.YtcliijfdlcagoaaGreat.wsum (c 4).els ≤ msr (c 4) := wsum_exprs hs.q.2.2.1
  have h5 : Go.Proofs.YtcliijfdlcagoaaGreat.wsum (c 5).els ≤ msr (c 5) := wsum_keys hs.q.2.2.2
  have h8 := wsum_rows hs.f8
  have h10 := wsum_exprs hs.f10
  have h11 := wsum_exprs hs.f11
  have hm := hs.m
  have e : stmtExprs c = (((exItems (c 2) ++ exFrom (c 3)) ++ (c 4).els) ++ (c 5).els) ++ ((rowsOf (c 8) ++ (c 10).els) ++ (c 11).els) := rfl
  rw [e, wsum_append, wsum_append, wsum_append, wsum_append, wsum_append, wsum_append]
  omega
theorem bd_els {d : Dat} (q : Fits d .exprs) (m : msr d ≤ 1048576) : ∀ nd ∈ d.els, Bd nd := fun nd h => by
  have h1 := wsum_mem h
  have h2 := wsum_exprs q
  unfold wt at h1
  exact ⟨by omega, by omega, els_fits q h 8 (by decide), els_fits q h 9 (by decide)⟩
theorem BdS.bd {c : Nd} (hs : BdS c) : ∀ nd ∈ stmtExprs c, Bd nd := fun nd h => by
  have hm := hs.m
  rcases List.mem_append.1 h with h | h
  · exact queryBd hs.q.1 hs.q.2.1 hs.q.2.2.1 hs.q.2.2.2 (by show msr (c 2) ≤ _; omega) (by show msr (c 3) ≤ _; omega) (by show msr (c 4) ≤ _; omega) (by show msr (c 5) ≤ _; omega) nd h
  · rcases List.mem_append.1 h with h | h
    · rcases List.mem_append.1 h with h | h
      · obtain ⟨r, hr, h⟩ := List.mem_flatMap.1 h
        have hq : Fits (r 0) .exprs := els_fits hs.f8 hr 0 (by decide)
        have h1 := wsum_mem (L := rowsOf (c 8)) (List.mem_flatMap.2 ⟨r, hr, h⟩)
        have h2 := wsum_rows hs.f8
        unfold wt at h1
        exact ⟨by omega, by omega, els_fits hq h 8 (by decide), els_fits hq h 9 (by decide)⟩
      · exact bd_els hs.f10 (by omega) nd h
    · exact bd_els hs.f11 (by omega) nd h
theorem siz_wt {c : Nd} (h : Bd c) : foldE sizA c ≤ wt c := by
  have g8 := siz_le (c 8) _ h.f8
  have g9 := siz_le (c 9) _ h.f9
  show (fold sizA (c 8) .exprs + fold sizA (c 9) .queries) + 1 ≤ msr (c 8) + msr (c 9) + 1
  omega
theorem siz_wsum : ∀ {L : List Nd}, (∀ c ∈ L, Bd c) → sizA.of (L.map (foldE sizA)) ≤ wsum L
  | [], _ => Nat.le_refl _
  | a :: L, h => by
    have h1 := siz_wt (h a (List.mem_cons_self ..))
    have h2 := siz_wsum (L := L) fun c hc => h c (List.mem_cons_of_mem _ hc)
    rw [List.map_cons, sizA_good.of_cons, wsum_cons]
    show _ + _ ≤ _
    omega
theorem dep_siz : ∀ {L : List Nd}, depA.of (L.map (foldE depA)) ≤ sizA.of (L.map (foldE sizA))
  | [] => Nat.le_refl _
  | a :: L => by
    have h1 := depE_le a
    have h2 := dep_siz (L := L)
    rw [List.map_cons, List.map_cons, sizA_good.of_cons, depA_good.of_cons]
    show max _ _ ≤ _ + _
    omega
set_option maxRecDepth 100000 in
set_option maxHeartbeats 1000000 in
theorem sameLength_any (a : Option Addr) (n p : Nat) (a' : Option Addr) (n' p' : Nat) (w : World) :
    Calls Tryz.prog 83 #[.slice a n p, .slice a' n' p'] w fun e w' => e = .returned (.bool (n == n')) ∧ w = w' := by
  have h : ((n : Int) == (n' : Int)) = (n == n') := by
    by_cases e : n = n'
    · subst e; simp
    · rw [show (n == n') = false by simpa using e]
      simp
      omega
  go_enter Tryz.func83, Tryz.ntmps83
  go_wp2_with fail
  go_ret
  exact ⟨rfl, rfl⟩
set_option maxRecDepth 100000 in
set_option maxHeartbeats 4000000 in
theorem eqf_rows (n n' : Nat) (f f' : Nat → Nat → Dat) (x y : Value) (w : World) (hr : Rd w 0 x (.sl n 1 f)) (hf : Fits (.sl n 1 f) .rows) (hs : Rd w 0 y (.sl n' 1 f')) (hf' : Fits (.sl n' 1 f') .rows) :
    Calls Tryz.prog 82 #[x, y, .func (.func 83) #[] #[]] w (BoolE (lenRows (.sl n 1 f) (.sl n' 1 f')) w) := by
  obtain ⟨a, cap, rfl⟩ := hr.slice
  obtain ⟨a2, cap2, rfl⟩ := hs.slice
  have hn := hf.2.1
  have hn' := hf'.2.1
  rw [lenRows_sl]
  by_cases hnn : n = n'
  case neg =>
    have d : ((n : Int) != (n' : Int)) = true := by simp; omega
    have d2 : (n == n') = false := by simpa using hnn
    rw [d2, Bool.false_and]
    clear hnn d2
    go_enter Tryz.func82, Tryz.ntmps82
    go_wp2_with fail
    go_ret
    exact ⟨rfl, Below.refl _ _⟩
  subst hnn
  have HV : Hid (((n == n) && (List.range n).all fun i => (f i 0).len == (f' i 0).len) = (List.range n).all fun i => (f i 0).len == (f' i 0).len) := by show _ = _; simp
  rw [HV.out]
  clear HV
  go_enter Tryz.func82, Tryz.ntmps82
  go_wp2_with fail
  go_loopw [17] (fun i wr => ∃ j : Nat, j ≤ n ∧ i = .int .i64 (j : Int) ∧ Hid (((List.range j).all fun i => (f i 0).len == (f' i 0).len) = true) ∧ Below w.heap.size w wr) (fun i _ => n - (intOf i).toNat)
  case atStart => exact ⟨0, by omega, rfl, rfl, Below.refl _ _⟩
  case round =>
    obtain ⟨j, hj, rfl, HA, hB⟩ := hrel
    by_cases hlt : j < n
    · have hlt2 : (j : Int) < (n : Int) := by omega
      obtain ⟨g, o, rfl, -, hg, s, z0, rz, qz⟩ := row_rows (hr.later hB) hf hlt
      obtain ⟨g2, o2, rfl, -, hg2, t, k0, rk, qk⟩ := row_rows (hs.later hB) hf' hlt
      obtain ⟨m1, j1, h1, e1⟩ := qz.deep rfl
      obtain ⟨m2, j2, h2, e2⟩ := qk.deep rfl
      rw [e1] at rz
      rw [e2] at rk
      obtain ⟨ka, kp, rfl⟩ := rz.slice
      obtain ⟨la, lp, rfl⟩ := rk.slice
      have hV : ((f j 0).len == (f' j 0).len) = (m1 == m2) := by rw [e1, e2]; rfl
      clear rz rk qz qk e1 e2
      cases hm : (m1 == m2)
      · have h : Hid (((List.range n).all fun i => (f i 0).len == (f' i 0).len) = false) := by
          show _ = false
          rw [List.all_eq_false]
          exact ⟨j, List.mem_range.2 hlt, by rw [hV, hm]; simp⟩
        have hC := fun v => sameLength_any ka m1 kp la m2 lp v
        rw [hm] at hC
        clear hV hm
        go_wp2_with fail
        refine (hC _).mono ?_
        rintro e w2 ⟨rfl, rfl⟩
        go_wp2_with fail
        go_ret
        exact ⟨by rw [h.out]; rfl, hB⟩
      · have HA2 : Hid (((List.range (j + 1)).all fun i => (f i 0).len == (f' i 0).len) = true) := by show _ = true; rw [all_succ, HA.out, hV, hm]; rfl
        have hC := fun v => sameLength_any ka m1 kp la m2 lp v
        rw [hm] at hC
        clear hV hm
        go_wp2_with fail
        refine (hC _).mono ?_
        rintro e w2 ⟨rfl, rfl⟩
        go_wp2_with fail
        go_roundw
        case rel => exact ⟨j + 1, by omega, by go_num, HA2, hB⟩
        case measure => simp [intOf]; omega
    · obtain rfl : n = j := by omega
      go_wp2_with fail
      go_ret
      exact ⟨by rw [HA.out]; rfl, hB⟩
set_option maxRecDepth 100000 in
set_option maxHeartbeats 16000000 in
theorem sameOutside_any (w0 : World) (c d : Nd) (us vs : List Value) (W : World) (hys : OutK stTy w0 us [c]) (hys' : OutK stTy w0 vs [d]) (hb0 : Below w0.heap.size w0 W) :
    Calls Tryz.prog 46 #[.agg us.toArray, .agg vs.toArray] W (BoolE (outSame c d) W) := by
  obtain ⟨c0, c1, xa2, xn2, xp2, xa3, xn3, xp3, xa4, xn4, xp4, xa5, xn5, xp5, c6, c7, xa8, xn8, xp8, xa9, xn9, xp9, xa10, xn10, xp10, xa11, xn11, xp11, rfl, ⟨e0, -⟩, -, -, -, -, -, -, ⟨e7, -⟩, ⟨r8, q8⟩, ⟨r9, q9⟩, ⟨r10, q10⟩, ⟨r11, q11⟩⟩ := hys.stmtRow
  obtain ⟨s0, s1, ya2, yn2, yp2, ya3, yn3, yp3, ya4, yn4, yp4, ya5, yn5, yp5, s6, s7, ya8, yn8, yp8, ya9, yn9, yp9, ya10, yn10, yp10, ya11, yn11, yp11, rfl, ⟨l0, -⟩, -, -, -, -, -, -, ⟨l7, -⟩, ⟨k8, p8⟩, ⟨k9, p9⟩, ⟨k10, p10⟩, ⟨k11, p11⟩⟩ := hys'.stmtRow
  obtain ⟨f8, z8, r8, q8⟩ := r8.openS q8 rfl
  obtain ⟨g8, t8, k8, p8⟩ := k8.openS p8 rfl
  obtain ⟨f9, z9, r9, q9⟩ := r9.openS q9 rfl
  obtain ⟨g9, t9, k9, p9⟩ := k9.openS p9 rfl
  obtain ⟨f10, z10, r10, q10⟩ := r10.openS q10 rfl
  obtain ⟨g10, t10, k10, p10⟩ := k10.openS p10 rfl
  obtain ⟨f11, z11, r11, q11⟩ := r11.openS q11 rfl
  obtain ⟨g11, t11, k11, p11⟩ := k11.openS p11 rfl
  replace r8 := Rd.later r8 hb0
  replace r9 := Rd.later r9 hb0
  replace k8 := Rd.later k8 hb0
  replace k9 := Rd.later k9 hb0
  have hV : outSame c d = ((c0 == s0) && (decide (c7 = s7) && (same (.sl xn9 1 f9) (.sl yn9 1 g9) .names && (lenRows (.sl xn8 1 f8) (.sl yn8 1 g8) && ((xn10 == yn10) && (xn11 == yn11)))))) := by
    unfold outSame
    rw [e0, l0, e7, l7, same_int, same_str, z8, t8, z9, t9, z10, t10, z11, t11]
    rfl
  have hN := fun v (h : Below W.heap.size W v) => equal_names xn9 yn9 f9 g9 _ _ v (r9.later h) q9 (k9.later h) p9
  have hR := fun v (h : Below W.heap.size W v) => eqf_rows xn8 yn8 f8 g8 _ _ v (r8.later h) q8 (k8.later h) p8
  have hS := fun v => sameLength_any xa10 xn10 xp10 ya10 yn10 yp10 v
  have hW := fun v => sameLength_any xa11 xn11 xp11 ya11 yn11 yp11 v
  generalize same (.sl xn9 1 f9) (.sl yn9 1 g9) .names = vn at hV hN
  generalize lenRows (.sl xn8 1 f8) (.sl yn8 1 g8) = vr at hV hR
  generalize (xn10 == yn10) = vs_ at hV hS
  generalize (xn11 == yn11) = vw at hV hW
  generalize outSame c d = V at hV ⊢
  have HV := Lib.hid hV
  clear hV e0 e7 l0 l7 z8 z9 z10 z11 t8 t9 t10 t11 r8 r9 r10 r11 q8 q9 q10 q11 k8 k9 k10 k11 p8 p9 p10 p11 hys hys'
  have RA : RowAt ((W.alloc (.cells #[.int .i64 c0, .bool c1, .slice xa2 xn2 xp2, .slice xa3 xn3 xp3, .slice xa4 xn4 xp4, .slice xa5 xn5 xp5, .int .i64 c6, .string c7, .slice xa8 xn8 xp8, .slice xa9 xn9 xp9, .slice xa10 xn10 xp10, .slice xa11 xn11 xp11] 42)).alloc (.cells #[.int .i64 s0, .bool s1, .slice ya2 yn2 yp2, .slice ya3 yn3 yp3, .slice ya4 yn4 yp4, .slice ya5 yn5 yp5, .int .i64 s6, .string s7, .slice ya8 yn8 yp8, .slice ya9 yn9 yp9, .slice ya10 yn10 yp10, .slice ya11 yn11 yp11] 42)) W.heap.size 42 #[.int .i64 c0, .bool c1, .slice xa2 xn2 xp2, .slice xa3 xn3 xp3, .slice xa4 xn4 xp4, .slice xa5 xn5 xp5, .int .i64 c6, .string c7, .slice xa8 xn8 xp8, .slice xa9 xn9 xp9, .slice xa10 xn10 xp10, .slice xa11 xn11 xp11] := (RowAt.new W 42 #[.int .i64 c0, .bool c1, .slice xa2 xn2 xp2, .slice xa3 xn3 xp3, .slice xa4 xn4 xp4, .slice xa5 xn5 xp5, .int .i64 c6, .string c7, .slice xa8 xn8 xp8, .slice xa9 xn9 xp9, .slice xa10 xn10 xp10, .slice xa11 xn11 xp11]).alloc (.cells #[.int .i64 s0, .bool s1, .slice ya2 yn2 yp2, .slice ya3 yn3 yp3, .slice ya4 yn4 yp4, .slice ya5 yn5 yp5, .int .i64 s6, .string s7, .slice ya8 yn8 yp8, .slice ya9 yn9 yp9, .slice ya10 yn10 yp10, .slice ya11 yn11 yp11] 42)
  have RB : RowAt ((W.alloc (.cells #[.int .i64 c0, .bool c1, .slice xa2 xn2 xp2, .slice xa3 xn3 xp3, .slice xa4 xn4 xp4, .slice xa5 xn5 xp5, .int .i64 c6, .string c7, .slice xa8 xn8 xp8, .slice xa9 xn9 xp9, .slice xa10 xn10 xp10, .slice xa11 xn11 xp11] 42)).alloc (.cells #[.int .i64 s0, .bool s1, .slice ya2 yn2 yp2, .slice ya3 yn3 yp3, .slice ya4 yn4 yp4, .slice ya5 yn5 yp5, .int .i64 s6, .string s7, .slice ya8 yn8 yp8, .slice ya9 yn9 yp9, .slice ya10 yn10 yp10, .slice ya11 yn11 yp11] 42)) (W.heap.size + 1) 42 #[.int .i64 s0, .bool s1, .slice ya2 yn2 yp2, .slice ya3 yn3 yp3, .slice ya4 yn4 yp4, .slice ya5 yn5 yp5, .int .i64 s6, .string s7, .slice ya8 yn8 yp8, .slice ya9 yn9 yp9, .slice ya10 yn10 yp10, .slice ya11 yn11 yp11] := RowAt.new1 W (.cells #[.int .i64 c0, .bool c1, .slice xa2 xn2 xp2, .slice xa3 xn3 xp3, .slice xa4 xn4 xp4, .slice xa5 xn5 xp5, .int .i64 c6, .string c7, .slice xa8 xn8 xp8, .slice xa9 xn9 xp9, .slice xa10 xn10 xp10, .slice xa11 xn11 xp11] 42) 42 #[.int .i64 s0, .bool s1, .slice ya2 yn2 yp2, .slice ya3 yn3 yp3, .slice ya4 yn4 yp4, .slice ya5 yn5 yp5, .int .i64 s6, .string s7, .slice ya8 yn8 yp8, .slice ya9 yn9 yp9, .slice ya10 yn10 yp10, .slice ya11 yn11 yp11]
  have HB : Below W.heap.size W ((W.alloc (.cells #[.int .i64 c0, .bool c1, .slice xa2 xn2 xp2, .slice xa3 xn3 xp3, .slice xa4 xn4 xp4, .slice xa5 xn5 xp5, .int .i64 c6, .string c7, .slice xa8 xn8 xp8, .slice xa9 xn9 xp9, .slice xa10 xn10 xp10, .slice xa11 xn11 xp11] 42)).alloc (.cells #[.int .i64 s0, .bool s1, .slice ya2 yn2 yp2, .slice ya3 yn3 yp3, .slice ya4 yn4 yp4, .slice ya5 yn5 yp5, .int .i64 s6, .string s7, .slice ya8 yn8 yp8, .slice ya9 yn9 yp9, .slice ya10 yn10 yp10, .slice ya11 yn11 yp11] 42)) := ((Below.refl W.heap.size W).alloc (Nat.le_refl _) (.cells #[.int .i64 c0, .bool c1, .slice xa2 xn2 xp2, .slice xa3 xn3 xp3, .slice xa4 xn4 xp4, .slice xa5 xn5 xp5, .int .i64 c6, .string c7, .slice xa8 xn8 xp8, .slice xa9 xn9 xp9, .slice xa10 xn10 xp10, .slice xa11 xn11 xp11] 42)).alloc (by simp) (.cells #[.int .i64 s0, .bool s1, .slice ya2 yn2 yp2, .slice ya3 yn3 yp3, .slice ya4 yn4 yp4, .slice ya5 yn5 yp5, .int .i64 s6, .string s7, .slice ya8 yn8 yp8, .slice ya9 yn9 yp9, .slice ya10 yn10 yp10, .slice ya11 yn11 yp11] 42)
  go_enter Tryz.func46, Tryz.ntmps46
  have a0 := RA.cell (i := 0) (v := .int .i64 c0) rfl
  have a1 := RA.cell (i := 1) (v := .bool c1) rfl
  have a2 := RA.cell (i := 2) (v := .slice xa2 xn2 xp2) rfl
  have a3 := RA.cell (i := 3) (v := .slice xa3 xn3 xp3) rfl
  have a4 := RA.cell (i := 4) (v := .slice xa4 xn4 xp4) rfl
  have a5 := RA.cell (i := 5) (v := .slice xa5 xn5 xp5) rfl
  have a6 := RA.cell (i := 6) (v := .int .i64 c6) rfl
  have a7 := RA.cell (i := 7) (v := .string c7) rfl
  have a8 := RA.cell (i := 8) (v := .slice xa8 xn8 xp8) rfl
  have a9 := RA.cell (i := 9) (v := .slice xa9 xn9 xp9) rfl
  have a10 := RA.cell (i := 10) (v := .slice xa10 xn10 xp10) rfl
  have a11 := RA.cell (i := 11) (v := .slice xa11 xn11 xp11) rfl
  have b0 := RB.cell (i := 0) (v := .int .i64 s0) rfl
  have b1 := RB.cell (i := 1) (v := .bool s1) rfl
  have b2 := RB.cell (i := 2) (v := .slice ya2 yn2 yp2) rfl
  have b3 := RB.cell (i := 3) (v := .slice ya3 yn3 yp3) rfl
  have b4 := RB.cell (i := 4) (v := .slice ya4 yn4 yp4) rfl
  have b5 := RB.cell (i := 5) (v := .slice ya5 yn5 yp5) rfl
  have b6 := RB.cell (i := 6) (v := .int .i64 s6) rfl
  have b7 := RB.cell (i := 7) (v := .string s7) rfl
  have b8 := RB.cell (i := 8) (v := .slice ya8 yn8 yp8) rfl
  have b9 := RB.cell (i := 9) (v := .slice ya9 yn9 yp9) rfl
  have b10 := RB.cell (i := 10) (v := .slice ya10 yn10 yp10) rfl
  have b11 := RB.cell (i := 11) (v := .slice ya11 yn11 yp11) rfl
  by_cases h0 : c0 = s0
  case neg =>
    have t0 : (c0 == s0) = false := by simpa using h0
    clear h0
    have HV2 : Hid (V = false) := by show V = _; rw [HV.out, t0]; rfl
    go_wp2_with fail
    go_ret
    exact ⟨by rw [HV2.out]; rfl, HB⟩
  have t0 : (c0 == s0) = true := by simpa using h0
  by_cases h7 : c7 = s7
  case neg =>
    have t7 := (toList_ne h7).1
    have t7b := (toList_ne h7).2
    have HV2 : Hid (V = false) := by show V = _; rw [HV.out, decide_eq_false h7, Bool.false_and, Bool.and_false]
    clear h7 h0
    go_wp2_with fail
    go_ret
    exact ⟨by rw [HV2.out]; rfl, HB⟩
  have HV2 : Hid (V = (vn && (vr && (vs_ && vw)))) := by show V = _; rw [HV.out, t0, decide_eq_true h7, Bool.true_and, Bool.true_and]
  clear HV h0
  have HV := HV2
  clear HV2
  subst h7
  have t7 : (c7.toList == c7.toList) = true := by simp
  go_wp2_with fail
  generalize (W.alloc (.cells #[.int .i64 c0, .bool c1, .slice xa2 xn2 xp2, .slice xa3 xn3 xp3, .slice xa4 xn4 xp4, .slice xa5 xn5 xp5, .int .i64 c6, .string c7, .slice xa8 xn8 xp8, .slice xa9 xn9 xp9, .slice xa10 xn10 xp10, .slice xa11 xn11 xp11] 42)).alloc (.cells #[.int .i64 s0, .bool s1, .slice ya2 yn2 yp2, .slice ya3 yn3 yp3, .slice ya4 yn4 yp4, .slice ya5 yn5 yp5, .int .i64 s6, .string c7, .slice ya8 yn8 yp8, .slice ya9 yn9 yp9, .slice ya10 yn10 yp10, .slice ya11 yn11 yp11] 42) = W1 at RA RB HB ⊢
  clear a0 b0 a1 b1 a2 b2 a3 b3 a4 b4 a5 b5 a6 b6 a7 b7 a8 b8 a9 b9 a10 b10 a11 b11
  refine (hN _ HB).mono ?_
  rintro e Wn ⟨rfl, hb⟩
  replace RA := RA.later hb
  replace RB := RB.later hb
  replace HB := HB.trans (hb.mono HB.size)
  clear hb
  clear hN
  have a0 := RA.cell (i := 0) (v := .int .i64 c0) rfl
  have a1 := RA.cell (i := 1) (v := .bool c1) rfl
  have a2 := RA.cell (i := 2) (v := .slice xa2 xn2 xp2) rfl
  have a3 := RA.cell (i := 3) (v := .slice xa3 xn3 xp3) rfl
  have a4 := RA.cell (i := 4) (v := .slice xa4 xn4 xp4) rfl
  have a5 := RA.cell (i := 5) (v := .slice xa5 xn5 xp5) rfl
  have a6 := RA.cell (i := 6) (v := .int .i64 c6) rfl
  have a7 := RA.cell (i := 7) (v := .string c7) rfl
  have a8 := RA.cell (i := 8) (v := .slice xa8 xn8 xp8) rfl
  have a9 := RA.cell (i := 9) (v := .slice xa9 xn9 xp9) rfl
  have a10 := RA.cell (i := 10) (v := .slice xa10 xn10 xp10) rfl
  have a11 := RA.cell (i := 11) (v := .slice xa11 xn11 xp11) rfl
  have b0 := RB.cell (i := 0) (v := .int .i64 s0) rfl
  have b1 := RB.cell (i := 1) (v := .bool s1) rfl
  have b2 := RB.cell (i := 2) (v := .slice ya2 yn2 yp2) rfl
  have b3 := RB.cell (i := 3) (v := .slice ya3 yn3 yp3) rfl
  have b4 := RB.cell (i := 4) (v := .slice ya4 yn4 yp4) rfl
  have b5 := RB.cell (i := 5) (v := .slice ya5 yn5 yp5) rfl
  have b6 := RB.cell (i := 6) (v := .int .i64 s6) rfl
  have b7 := RB.cell (i := 7) (v := .string c7) rfl
  have b8 := RB.cell (i := 8) (v := .slice ya8 yn8 yp8) rfl
  have b9 := RB.cell (i := 9) (v := .slice ya9 yn9 yp9) rfl
  have b10 := RB.cell (i := 10) (v := .slice ya10 yn10 yp10) rfl
  have b11 := RB.cell (i := 11) (v := .slice ya11 yn11 yp11) rfl
  cases vn
  case false =>
    go_wp2_with fail
    go_ret
    exact ⟨by rw [HV.out]; rfl, HB⟩
  go_wp2_with fail
  clear a0 b0 a1 b1 a2 b2 a3 b3 a4 b4 a5 b5 a6 b6 a7 b7 a8 b8 a9 b9 a10 b10 a11 b11
  refine (hR _ HB).mono ?_
  rintro e Wn ⟨rfl, hb⟩
  replace RA := RA.later hb
  replace RB := RB.later hb
  replace HB := HB.trans (hb.mono HB.size)
  clear hb
  clear hR
  have a0 := RA.cell (i := 0) (v := .int .i64 c0) rfl
  have a1 := RA.cell (i := 1) (v := .bool c1) rfl
  have a2 := RA.cell (i := 2) (v := .slice xa2 xn2 xp2) rfl
  have a3 := RA.cell (i := 3) (v := .slice xa3 xn3 xp3) rfl
  have a4 := RA.cell (i := 4) (v := .slice xa4 xn4 xp4) rfl
  have a5 := RA.cell (i := 5) (v := .slice xa5 xn5 xp5) rfl
  have a6 := RA.cell (i := 6) (v := .int .i64 c6) rfl
  have a7 := RA.cell (i := 7) (v := .string c7) rfl
  have a8 := RA.cell (i := 8) (v := .slice xa8 xn8 xp8) rfl
  have a9 := RA.cell (i := 9) (v := .slice xa9 xn9 xp9) rfl
  have a10 := RA.cell (i := 10) (v := .slice xa10 xn10 xp10) rfl
  have a11 := RA.cell (i := 11) (v := .slice xa11 xn11 xp11) rfl
  have b0 := RB.cell (i := 0) (v := .int .i64 s0) rfl
  have b1 := RB.cell (i := 1) (v := .bool s1) rfl
  have b2 := RB.cell (i := 2) (v := .slice ya2 yn2 yp2) rfl
  have b3 := RB.cell (i := 3) (v := .slice ya3 yn3 yp3) rfl
  have b4 := RB.cell (i := 4) (v := .slice ya4 yn4 yp4) rfl
  have b5 := RB.cell (i := 5) (v := .slice ya5 yn5 yp5) rfl
  have b6 := RB.cell (i := 6) (v := .int .i64 s6) rfl
  have b7 := RB.cell (i := 7) (v := .string c7) rfl
  have b8 := RB.cell (i := 8) (v := .slice ya8 yn8 yp8) rfl
  have b9 := RB.cell (i := 9) (v := .slice ya9 yn9 yp9) rfl
  have b10 := RB.cell (i := 10) (v := .slice ya10 yn10 yp10) rfl
  have b11 := RB.cell (i := 11) (v := .slice ya11 yn11 yp11) rfl
  cases vr
  case false =>
    go_wp2_with fail
    go_ret
    exact ⟨by rw [HV.out]; rfl, HB⟩
  go_wp2_with fail
  clear a0 b0 a1 b1 a2 b2 a3 b3 a4 b4 a5 b5 a6 b6 a7 b7 a8 b8 a9 b9 a10 b10 a11 b11
  refine (hS _).mono ?_
  rintro e Wn ⟨rfl, rfl⟩
  clear hS
  have a0 := RA.cell (i := 0) (v := .int .i64 c0) rfl
  have a1 := RA.cell (i := 1) (v := .bool c1) rfl
  have a2 := RA.cell (i := 2) (v := .slice xa2 xn2 xp2) rfl
  have a3 := RA.cell (i := 3) (v := .slice xa3 xn3 xp3) rfl
  have a4 := RA.cell (i := 4) (v := .slice xa4 xn4 xp4) rfl
  have a5 := RA.cell (i := 5) (v := .slice xa5 xn5 xp5) rfl
  have a6 := RA.cell (i := 6) (v := .int .i64 c6) rfl
  have a7 := RA.cell (i := 7) (v := .string c7) rfl
  have a8 := RA.cell (i := 8) (v := .slice xa8 xn8 xp8) rfl
  have a9 := RA.cell (i := 9) (v := .slice xa9 xn9 xp9) rfl
  have a10 := RA.cell (i := 10) (v := .slice xa10 xn10 xp10) rfl
  have a11 := RA.cell (i := 11) (v := .slice xa11 xn11 xp11) rfl
  have b0 := RB.cell (i := 0) (v := .int .i64 s0) rfl
  have b1 := RB.cell (i := 1) (v := .bool s1) rfl
  have b2 := RB.cell (i := 2) (v := .slice ya2 yn2 yp2) rfl
  have b3 := RB.cell (i := 3) (v := .slice ya3 yn3 yp3) rfl
  have b4 := RB.cell (i := 4) (v := .slice ya4 yn4 yp4) rfl
  have b5 := RB.cell (i := 5) (v := .slice ya5 yn5 yp5) rfl
  have b6 := RB.cell (i := 6) (v := .int .i64 s6) rfl
  have b7 := RB.cell (i := 7) (v := .string c7) rfl
  have b8 := RB.cell (i := 8) (v := .slice ya8 yn8 yp8) rfl
  have b9 := RB.cell (i := 9) (v := .slice ya9 yn9 yp9) rfl
  have b10 := RB.cell (i := 10) (v := .slice ya10 yn10 yp10) rfl
  have b11 := RB.cell (i := 11) (v := .slice ya11 yn11 yp11) rfl
  cases vs_
  case false =>
    go_wp2_with fail
    go_ret
    exact ⟨by rw [HV.out]; rfl, HB⟩
  go_wp2_with fail
  clear a0 b0 a1 b1 a2 b2 a3 b3 a4 b4 a5 b5 a6 b6 a7 b7 a8 b8 a9 b9 a10 b10 a11 b11
  refine (hW _).mono ?_
  rintro e Wn ⟨rfl, rfl⟩
  go_wp2_with fail
  go_ret
  exact ⟨by rw [HV.out]; rfl, HB⟩
theorem cut1_out {w0 : World} {c : Nd} {c1 : Bool} {x2 x3 x4 x5 : Value} {c6 : Int} (e1 : c 1 = .v (.bool c1)) (r2 : Rd w0 0 x2 (c 2)) (q2 : Fits (c 2) .items) (r3 : Rd w0 0 x3 (c 3)) (q3 : Fits (c 3) .sources) (r4 : Rd w0 0 x4 (c 4)) (q4 : Fits (c 4) .exprs) (r5 : Rd w0 0 x5 (c 5)) (q5 : Fits (c 5) .keys)
    (e6 : c 6 = .v (.int .i64 c6)) (b6 : -9223372036854775808 ≤ c6 ∧ c6 ≤ 9223372036854775807) : OutK (rowTy .queries) w0 [.bool c1, x2, x3, x4, x5, .int .i64 c6] [cut 1 c] := OutK.one rfl (fun m hm => match m, hm with
    | 0, _ => ⟨_, rfl, (show Rd w0 0 _ (c 1) by rw [e1]; exact rfl), (show Fits (c 1) .bool by rw [e1]; exact ⟨_, rfl⟩)⟩
    | 1, _ => ⟨_, rfl, r2, q2⟩
    | 2, _ => ⟨_, rfl, r3, q3⟩
    | 3, _ => ⟨_, rfl, r4, q4⟩
    | 4, _ => ⟨_, rfl, r5, q5⟩
    | 5, _ => ⟨_, rfl, (show Rd w0 0 _ (c 6) by rw [e6]; exact rfl), (show Fits (c 6) .int by rw [e6]; exact ⟨_, rfl, b6⟩)⟩
    | m + 6, hm => absurd hm (by simp [rowTy]))
end Go.Proofs.YtcliijfdlcagoaaGreat
