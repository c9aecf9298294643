/- Joined texts: StmtM ExprsQS StmtE StmtD. -/
import Derived.Test.YtfmgkinindkedaaQSUI
import Derived.Test.YtfmgkinindkedaaQSUG
import Derived.Test.YtfmgkinindkedaaQHFoldS
import Derived.Test.YtfmgkinindkedaaQSTH
/- What the expressions of a statement weigh. No program but by its texts' imports. -/
namespace Go.Proofs.Ytfmgkinindkedaa
open Go.RowKit
theorem wsum_mem {c : Nd} : ∀ {L : List Nd}, c ∈ L → wt c ≤ wsum L
  | a :: L, h => by
    rw [wsum_cons]
    rcases List.mem_cons.1 h with rfl | h
    · omega
    · have := wsum_mem h; omega
theorem wsum_filter (p : Nd → Bool) (g : Nd → Nd) : ∀ L : List Nd, wsum ((L.filter p).map g) ≤ wsum (L.map g)
  | [] => Nat.le_refl _
  | a :: L => by
    have ih := wsum_filter p g L
    rw [List.filter_cons]
    split
    · rw [List.map_cons, List.map_cons, wsum_cons, wsum_cons]; omega
    · rw [List.map_cons, wsum_cons]; omega
theorem wsum_exItems {d : Dat} (h : Fits d .items) : wsum (exItems d) ≤ msr d := Nat.le_trans (wsum_filter _ _ _) (wsum_items h)
theorem wsum_rows {d : Dat} (h : Fits d .rows) : wsum (rowsOf d) ≤ msr d := by
  obtain ⟨n, k, f, rfl⟩ := h.deep rfl
  have hk : k = 1 := h.2.2.1
  subst hk
  have key : ∀ j, j ≤ n → wsum (rowsOf (.sl j 1 f)) ≤ partm f 1 j := fun j => by
    induction j with
    | zero => intro _; exact Nat.zero_le _
    | succ j ih =>
      intro hj
      have h1 := ih (by omega)
      have h2 : wsum (f j 0).els ≤ msr (f j 0) := wsum_exprs (h.2.2.2 j (by omega) 0 (by decide))
      have hs : rowm f 1 j = msr (f j 0) := by unfold rowm; simp [List.range_succ]
      rw [rowsOf_succ, wsum_append, partm_succ, hs]
      omega
  have := key n (Nat.le_refl _)
  rw [msr_is]; omega
theorem BdS.wsum {c : Nd} (hs : BdS c) : wsum (stmtExprs c) ≤ 1048576 := by
  have h2 : Go.Proofs.Ytfmgkinindkedaa.wsum (exItems (c 2)) ≤ msr (c 2) := wsum_exItems hs.q.1
  have h3 : Go.Proofs.Ytfmgkinindkedaa.wsum (exFrom (c 3)) ≤ msr (c 3) := wsum_from hs.q.2.1
  have h4 : Go.Proofs.Ytfmgkinindkedaa.wsum (c 4).els ≤ msr (c 4) := wsum_exprs hs.q.2.2.1
  have h5 : Go.Proofs.Ytfmgkinindkedaa.wsum (c 5).els ≤ msr (c 5) := wsum_keys hs.q.2.2.2
  have h8 := wsum_rows hs.f8
  have h10 := wsum_exprs hs.f10
  have h11 := wsum_exprs hs.f11
  have hm := hs.m
  have e : stmtExprs c = (((exItems (c 2) ++ exFrom (c 3)) ++ (c 4).els) ++ (c 5).els) ++ ((rowsOf (c 8) ++ (c 10).els) ++ (c 11).els) := rfl
  rw [e, wsum_append, wsum_append, wsum_append, wsum_append, wsum_append, wsum_append]
  omega
theorem bd_els {d : Dat} (q : Fits d .exprs) (m : msr d ≤ 1048576) : ∀ nd ∈ d.els, Bd nd := fun nd h => by
  have h1 := wsum_mem h
  have h2 := wsum_exprs q
  unfold wt at h1
  exact ⟨by omega, by omega, els_fits q h 8 (by decide), els_fits q h 9 (by decide)⟩
theorem BdS.bd {c : Nd} (hs : BdS c) : ∀ nd ∈ stmtExprs c, Bd nd := fun nd h => by
  have hm := hs.m
  rcases List.mem_append.1 h with h | h
  · exact queryBd hs.q.1 hs.q.2.1 hs.q.2.2.1 hs.q.2.2.2 (by show msr (c 2) ≤ _; omega) (by show msr (c 3) ≤ _; omega) (by show msr (c 4) ≤ _; omega) (by show msr (c 5) ≤ _; omega) nd h
  · rcases List.mem_append.1 h with h | h
    · rcases List.mem_append.1 h with h | h
      · obtain ⟨r, hr, h⟩ := List.mem_flatMap.1 h
        have hq : Fits (r 0) .exprs := els_fits hs.f8 hr 0 (by decide)
        have h1 := wsum_mem (L := rowsOf (c 8)) (List.mem_flatMap.2 ⟨r, hr, h⟩)
        have h2 := wsum_rows hs.f8
        unfold wt at h1
        exact ⟨by omega, by omega, els_fits hq h 8 (by decide), els_fits hq h 9 (by decide)⟩
      · exact bd_els hs.f10 (by omega) nd h
    · exact bd_els hs.f11 (by omega) nd h
theorem siz_wt {c : Nd} (h : Bd c) : foldE sizA c ≤ wt c := by
  have g8 := siz_le (c 8) _ h.f8
  have g9 := siz_le (c 9) _ h.f9
  show (fold sizA (c 8) .exprs + fold sizA (c 9) .queries) + 1 ≤ msr (c 8) + msr (c 9) + 1
  omega
theorem siz_wsum : ∀ {L : List Nd}, (∀ c ∈ L, Bd c) → sizA.of (L.map (foldE sizA)) ≤ wsum L
  | [], _ => Nat.le_refl _
  | a :: L, h => by
    have h1 := siz_wt (h a (List.mem_cons_self ..))
    have h2 := siz_wsum (L := L) fun c hc => h c (List.mem_cons_of_mem _ hc)
    rw [List.map_cons, sizA_good.of_cons, wsum_cons]
    show _ + _ ≤ _
    omega
theorem dep_siz : ∀ {L : List Nd}, depA.of (L.map (foldE depA)) ≤ sizA.of (L.map (foldE sizA))
  | [] => Nat.le_refl _
  | a :: L => by
    have h1 := depE_le a
    have h2 := dep_siz (L := L)
    rw [List.map_cons, List.map_cons, sizA_good.of_cons, depA_good.of_cons]
    show max _ _ ≤ _ + _
    omega
end Go.Proofs.Ytfmgkinindkedaa

/- The model's expressions of a query, of whatever shape it be. -/
namespace Go.Proofs.Ytfmgkinindkedaa
open Go.RowKit

theorem sum_mono (g : Nat → Nat) {j n : Nat} (h : j ≤ n) : ((List.range j).map g).sum ≤ ((List.range n).map g).sum := by
  induction n with
  | zero => obtain rfl : j = 0 := by omega
            exact Nat.le_refl _
  | succ n ih =>
    by_cases e : j = n + 1
    · rw [e]; exact Nat.le_refl _
    · have := ih (by omega)
      rw [List.range_succ, List.map_append, List.sum_append]; omega
theorem sum_succ (g : Nat → Nat) (j : Nat) : ((List.range (j + 1)).map g).sum = ((List.range j).map g).sum + g j := by
  rw [List.range_succ, List.map_append, List.sum_append]; simp
theorem sizA_sum : ∀ l : List Nat, sizA.of l = l.sum
  | [] => rfl
  | a :: l => by rw [sizA_good.of_cons, sizA_sum l, List.sum_cons]; rfl
theorem sizE_val {c : Nd} {n8 n9 : Nat} {f8 f9 : Nat → Nat → Dat} (h8 : c 8 = .sl n8 10 f8) (h9 : c 9 = .sl n9 6 f9) : foldE sizA c = (1 + ((List.range n8).map fun i => foldE sizA (f8 i)).sum) + ((List.range n9).map fun i => foldQ sizA (f9 i)).sum := by
  rw [siz_parts h8 h9, sizA_sum, sizA_sum]; omega
/-- one query of a list, its expressions counted -/
theorem sizQ_val {q : Nd} (h : FitsQ q) (zz : Nd) : foldQ sizA q = ((List.range (exprsOf q).length).map fun i => foldE sizA ((exprsOf q).getD i zz)).sum := by
  rw [foldQ_is sizA_good h.1 h.2.1 h.2.2.1 h.2.2.2]
  show sizA.of _ = _
  rw [sizA_sum, range_getD (foldE sizA)]
/-- the model's expressions of a query, of whatever shape it be -/
theorem exprsQ_spec (q : Nd) (c0 : Bool) (x1 x2 x3 x4 : Value) (c5 : Int) (w : World) (r1 : Rd w 0 x1 (q 1)) (r2 : Rd w 0 x2 (q 2)) (r3 : Rd w 0 x3 (q 3)) (r4 : Rd w 0 x4 (q 4)) (hq : BdQ q) :
    Calls Try.prog 75 #[.agg #[.bool c0, x1, x2, x3, x4, .int .i64 c5]] w (ExprsE (exprsOf q) w) := by
  have q1 := hq.f.1
  have q2 := hq.f.2.1
  have q3 := hq.f.2.2.1
  have q4 := hq.f.2.2.2
  have hm := hq.m
  obtain ⟨n1, k1, f1, h1⟩ := q1.deep rfl
  obtain ⟨n2, k2, f2, h2⟩ := q2.deep rfl
  obtain ⟨n3, k3, f3, h3⟩ := q3.deep rfl
  obtain ⟨n4, k4, f4, h4⟩ := q4.deep rfl
  have hL : exprsOf q = ((exItems (.sl n1 k1 f1) ++ exFrom (.sl n2 k2 f2)) ++ (Dat.sl n3 k3 f3).els) ++ (Dat.sl n4 k4 f4).els := by unfold exprsOf; rw [h1, h2, h3, h4]
  rw [h1] at r1 q1
  rw [h2] at r2 q2
  rw [h3] at r3 q3
  rw [h4] at r4 q4
  obtain rfl : k1 = 13 := q1.2.2.1
  obtain rfl : k2 = 3 := q2.2.2.1
  obtain rfl : k3 = 10 := q3.2.2.1
  obtain rfl : k4 = 11 := q4.2.2.1
  have hcnt : (exItems (.sl n1 13 f1)).length + (exFrom (.sl n2 3 f2)).length + n3 + n4 ≤ 1048576 := by
    rw [h1, h2, h3, h4] at hm
    have k1 := msr_n n1 13 f1
    have k0 : (exItems (.sl n1 13 f1)).length ≤ n1 := by
      unfold exItems
      rw [List.length_map]
      exact Nat.le_trans (List.length_filter_le _ _) (Nat.le_of_eq (els_len n1 13 f1))
    have k2 := exFrom_msr q2
    have k3 := msr_n n3 10 f3
    have k4 := msr_n n4 11 f4
    omega
  obtain ⟨a1, p1, rfl⟩ := r1.slice
  obtain ⟨a2, p2, rfl⟩ := r2.slice
  obtain ⟨a3, p3, rfl⟩ := r3.slice
  obtain ⟨a4, p4, rfl⟩ := r4.slice
  rw [hL]
  exact exprs_spec c0 a1 n1 p1 a2 n2 p2 a3 n3 p3 a4 n4 p4 c5 f1 f2 f3 f4 w r1 q1 r2 q2 r3 q3 r4 q4 hcnt
theorem exprsQ_len {q : Nd} (hq : BdQ q) : (exprsOf q).length ≤ 1048576 := by
  have := exprs_len hq.f.1 hq.f.2.1 hq.f.2.2.1 hq.f.2.2.2
  have g1 := siz_le (q 1) _ hq.f.1
  have g2 := siz_le (q 2) _ hq.f.2.1
  have g3 := siz_le (q 3) _ hq.f.2.2.1
  have g4 := siz_le (q 4) _ hq.f.2.2.2
  have hm := hq.m
  have hs : foldQ sizA q ≤ 1048576 := by show _ + _ + _ + _ ≤ _; omega
  omega
theorem exprsQ_bd {q : Nd} (hq : BdQ q) : ∀ e ∈ exprsOf q, Bd e := by
  have hm := hq.m
  exact queryBd hq.f.1 hq.f.2.1 hq.f.2.2.1 hq.f.2.2.2 (by omega) (by omega) (by omega) (by omega)
end Go.Proofs.Ytfmgkinindkedaa

/- The model's expressions of a statement; its depth and size. -/
namespace Go.Proofs.Ytfmgkinindkedaa
open Go.RowKit
set_option linter.unusedVariables false
/-- the statement's box and the list so far -/
structure LS (w1 wr : World) (X : Nat) (arr : Array Value) (out : Value) (L : List Nd) : Prop where
  box : RowAt wr X 42 arr
  own : OutE w1 wr w1.heap.size out L
  b : Below w1.heap.size w1 wr
theorem LS.app {w1 wr w' : World} {X : Nat} {arr : Array Value} {out out' : Value} {L L' : List Nd} (H : LS w1 wr X arr out L) (hX : X < w1.heap.size) (h : OutE w1 w' w1.heap.size out' L') (hb : Below w1.heap.size wr w') : LS w1 w' X arr out' L' :=
  ⟨(hb.block _ hX).trans H.box, h, H.b.trans hb⟩
def StExE (L : List Nd) (W : World) (e : Ending) (w' : World) : Prop := ∃ (v : Value) (w0 : World), e = .returned v ∧ OutE w0 w' W.heap.size v L ∧ Below w0.heap.size w0 w' ∧ Below W.heap.size W w'
set_option maxRecDepth 100000 in
set_option maxHeartbeats 8000000 in
theorem stmtExprs_spec (c : Nd) (c0 : Int) (c1 : Bool) (x2 x3 x4 x5 : Value) (c6 : Int) (c7 : ByteArray) (x8 x9 x10 x11 : Value) (W : World) (r2 : Rd W 0 x2 (c 2)) (r3 : Rd W 0 x3 (c 3)) (r4 : Rd W 0 x4 (c 4)) (r5 : Rd W 0 x5 (c 5)) (r8 : Rd W 0 x8 (c 8)) (r10 : Rd W 0 x10 (c 10)) (r11 : Rd W 0 x11 (c 11)) (hs : BdS c) :
    Calls Try.prog 52 #[.agg #[.int .i64 c0, .bool c1, x2, x3, x4, x5, .int .i64 c6, .string c7, x8, x9, x10, x11]] W (StExE (stmtExprs c) W) := by
  have hE := fun w (h : Below W.heap.size W w) => exprsQ_spec (cut 1 c) c1 x2 x3 x4 x5 c6 w (r2.later h) (r3.later h) (r4.later h) (r5.later h) hs.query
  have q8 := hs.f8
  have q10 := hs.f10
  have q11 := hs.f11
  have hws := hs.wsum
  have key : ∀ L : List Nd, L.length ≤ wsum L := fun L => by
    induction L with
    | nil => exact Nat.le_refl _
    | cons a L ih => rw [List.length_cons, wsum_cons]; unfold wt; omega
  have hlen : (stmtExprs c).length ≤ 1048576 := Nat.le_trans (key _) hws
  have e : stmtExprs c = ((exprsOf (cut 1 c) ++ rowsOf (c 8)) ++ (c 10).els) ++ (c 11).els := by unfold stmtExprs outsideOf; simp only [List.append_assoc]
  rw [e] at hlen ⊢
  generalize exprsOf (cut 1 c) = L0 at *
  obtain ⟨a8, n8, p8, rfl⟩ := r8.slice_of q8 rfl
  obtain ⟨a10, n10, p10, rfl⟩ := r10.slice_of q10 rfl
  obtain ⟨a11, n11, p11, rfl⟩ := r11.slice_of q11 rfl
  obtain ⟨f8, e8, r8, q8⟩ := r8.openS q8 rfl
  obtain ⟨f10, e10, r10, q10⟩ := r10.openS q10 rfl
  obtain ⟨f11, e11, r11, q11⟩ := r11.openS q11 rfl
  have hn8 : n8 ≤ 9223372036854775807 := q8.2.1
  rw [e8, e10, e11] at hlen ⊢
  simp only [List.length_append] at hlen
  have l10 : (Dat.sl n10 10 f10).els.length = n10 := els_len _ _ _
  have l11 : (Dat.sl n11 10 f11).els.length = n11 := els_len _ _ _
  replace hlen : (L0.length + (rowsOf (.sl n8 1 f8)).length + n10) + n11 ≤ 1048576 := by
    rw [← l10, ← l11]; exact hlen
  have HN := Lib.hid hlen
  have R := RowAt.new W 42 #[.int .i64 c0, .bool c1, x2, x3, x4, x5, .int .i64 c6, .string c7, .slice a8 n8 p8, x9, .slice a10 n10 p10, .slice a11 n11 p11]
  have hB : Below W.heap.size W (W.alloc (.cells #[.int .i64 c0, .bool c1, x2, x3, x4, x5, .int .i64 c6, .string c7, .slice a8 n8 p8, x9, .slice a10 n10 p10, .slice a11 n11 p11] 42)) := (Below.refl _ _).alloc (Nat.le_refl _) _
  have hX : W.heap.size < (W.alloc (.cells #[.int .i64 c0, .bool c1, x2, x3, x4, x5, .int .i64 c6, .string c7, .slice a8 n8 p8, x9, .slice a10 n10 p10, .slice a11 n11 p11] 42)).heap.size := by simp
  clear hs hws key e e8 e10 e11 l10 l11 hlen r2 r3 r4 r5
  go_enter Try.func52, Try.ntmps52
  go_wp2_with fail
  generalize (W.alloc (.cells #[.int .i64 c0, .bool c1, x2, x3, x4, x5, .int .i64 c6, .string c7, .slice a8 n8 p8, x9, .slice a10 n10 p10, .slice a11 n11 p11] 42)) = w1 at R hB hX ⊢
  replace r8 := r8.later hB
  replace r10 := r10.later hB
  replace r11 := r11.later hB
  have X0 := R.cell (i := 0) (v := .int .i64 c0) rfl
  have X1 := R.cell (i := 1) (v := .bool c1) rfl
  have X2 := R.cell (i := 2) (v := x2) rfl
  have X3 := R.cell (i := 3) (v := x3) rfl
  have X4 := R.cell (i := 4) (v := x4) rfl
  have X5 := R.cell (i := 5) (v := x5) rfl
  have X6 := R.cell (i := 6) (v := .int .i64 c6) rfl
  have X7 := R.cell (i := 7) (v := .string c7) rfl
  have X8 := R.cell (i := 8) (v := .slice a8 n8 p8) rfl
  have X9 := R.cell (i := 9) (v := x9) rfl
  have X10 := R.cell (i := 10) (v := .slice a10 n10 p10) rfl
  have X11 := R.cell (i := 11) (v := .slice a11 n11 p11) rfl

  try go_wp2_with fail
  refine (hE _ hB).mono ?_
  clear hE X0 X1 X2 X3 X4 X5 X6 X7 X8 X9 X10 X11
  rintro e w2 ⟨v, rfl, ho, hb2⟩
  have H : LS w1 w2 W.heap.size #[.int .i64 c0, .bool c1, x2, x3, x4, x5, .int .i64 c6, .string c7, .slice a8 n8 p8, x9, .slice a10 n10 p10, .slice a11 n11 p11] v L0 := ⟨R.later hb2, ho.low (Nat.le_succ _), hb2⟩
  clear R ho hb2
  have HX := Lib.hid hX
  have HBB := Lib.hid hB
  clear hX hB
  go_wp2_with fail
  go_loopw [3, 4] (fun out i wr => ∃ (j : Nat) (v : Value), j ≤ n8 ∧ i = .int .i64 (j : Int) ∧ v = out ∧ LS w1 wr W.heap.size #[.int .i64 c0, .bool c1, x2, x3, x4, x5, .int .i64 c6, .string c7, .slice a8 n8 p8, x9, .slice a10 n10 p10, .slice a11 n11 p11] v (L0 ++ rowsOf (.sl j 1 f8))) (fun _ i _ => n8 - (intOf i).toNat)
  case atStart => exact ⟨0, _, by omega, rfl, rfl, by show LS w1 _ _ _ _ (_ ++ []); rw [List.append_nil]; exact H⟩
  case round =>
    obtain ⟨j, v, hj, rfl, rfl, H⟩ := hrel
    have b1 := H.box.cell (i := 8) (v := .slice a8 n8 p8) rfl
    by_cases hlt : j < n8
    · have hlt2 : (j : Int) < (n8 : Int) := by omega
      obtain ⟨g, o, rfl, -, hg, x0, z0, r0, q0⟩ := row_rows r8 q8 hlt
      replace z0 := (H.b.cell (p := ⟨g, o + j, none⟩) hg).trans z0
      obtain ⟨nn, kk, ff, hsl⟩ := q0.deep rfl
      obtain ⟨ya, yn, yc, rfl⟩ := r0.slice_of q0 rfl
      have hsum : L0 ++ rowsOf (.sl (j + 1) 1 f8) = (L0 ++ rowsOf (.sl j 1 f8)) ++ (Dat.sl nn kk ff).els := by rw [rowsOf_succ, hsl, List.append_assoc]
      have hl : (L0 ++ rowsOf (.sl j 1 f8)).length ≤ 1048576 ∧ nn ≤ 1048576 := by
        have key : ∀ m, j + 1 ≤ m → (rowsOf (.sl (j + 1) 1 f8)).length ≤ (rowsOf (.sl m 1 f8)).length := fun m => by
          induction m with
          | zero => intro h; omega
          | succ m ih =>
            intro h
            by_cases e : j + 1 = m + 1
            · rw [e]; exact Nat.le_refl _
            · have := ih (by omega)
              have e2 : (rowsOf (.sl (m + 1) 1 f8)).length = (rowsOf (.sl m 1 f8)).length + (f8 m 0).els.length := by rw [rowsOf_succ, List.length_append]
              omega
        have h1 := key n8 (by omega)
        have h2 := HN.out
        rw [rowsOf_succ, hsl, List.length_append, els_len] at h1
        rw [List.length_append]
        omega
      rw [hsl] at r0 q0
      have HS := Lib.hid hsum
      obtain ⟨hl1, hl2⟩ := hl
      clear hsum hsl
      go_wp2_with (at_builtin; refine appM rfl (.tmp 15) (.tmp 20) rfl w1 w1.heap.size v (L0 ++ rowsOf (.sl j 1 f8)) ya yn yc nn kk ff wr rfl rfl H.own r0 q0 H.b (by omega) (by omega) H.b.size ?_; intro v' w' hown' hb')
      have H2 := H.app HX.out hown' hb'
      rw [← HS.out] at H2
      go_roundw
      case rel => exact ⟨j + 1, _, by omega, by go_num, rfl, H2⟩
      case measure => simp [intOf]; omega
    · obtain rfl : n8 = j := by omega
      clear hlt hj
      have hl : (L0 ++ rowsOf (.sl n8 1 f8)).length ≤ 1048576 ∧ n10 ≤ 1048576 := by
        have h2 := HN.out
        rw [List.length_append]
        omega
      obtain ⟨hl1, hl2⟩ := hl
      have b10 := H.box.cell (i := 10) (v := .slice a10 n10 p10) rfl
      have hl3 : ((L0 ++ rowsOf (.sl n8 1 f8)) ++ (Dat.sl n10 10 f10).els).length ≤ 1048576 ∧ n11 ≤ 1048576 := by
        have h2 := HN.out
        rw [List.length_append, List.length_append, els_len]
        omega
      obtain ⟨hl3, hl4⟩ := hl3
      go_wp2_with (first
        | (at_builtin; refine appM rfl (.tmp 26) (.tmp 28) rfl w1 w1.heap.size v1 ((L0 ++ rowsOf (.sl n8 1 f8)) ++ (Dat.sl n10 10 f10).els) a11 n11 p11 n11 10 f11 _ rfl rfl H2.own r11 q11 H2.b hl5 hl6 H2.b.size ?_; intro v2 w3 hown2 hb3)
        | (at_builtin; refine appM rfl (.tmp 22) (.tmp 24) rfl w1 w1.heap.size v (L0 ++ rowsOf (.sl n8 1 f8)) a10 n10 p10 n10 10 f10 _ rfl rfl H.own r10 q10 H.b (by omega) (by omega) H.b.size ?_; intro v1 w2 hown1 hb1; have H2 : LS w1 w2 W.heap.size #[.int .i64 c0, .bool c1, x2, x3, x4, x5, .int .i64 c6, .string c7, .slice a8 n8 p8, x9, .slice a10 n10 p10, .slice a11 n11 p11] v1 ((L0 ++ rowsOf (.sl n8 1 f8)) ++ (Dat.sl n10 10 f10).els) := H.app HX.out hown1 hb1; have b11 := H2.box.cell (i := 11) (v := .slice a11 n11 p11) rfl; have hl5 := Nat.le_trans hl3 (show 1048576 ≤ 2000000 by decide); have hl6 := Nat.le_trans hl4 (show 1048576 ≤ 2000000 by decide); clear b10 b1))
      go_ret
      exact ⟨_, w1, rfl, hown2.low HBB.out.size, H2.b.trans hb3, HBB.out.trans ((H2.b.trans hb3).mono HBB.out.size)⟩

set_option maxRecDepth 100000 in
set_option maxHeartbeats 8000000 in
theorem StmtSize_spec (c : Nd) (c0 : Int) (c1 : Bool) (x2 x3 x4 x5 : Value) (c6 : Int) (c7 : ByteArray) (x8 x9 x10 x11 : Value) (W : World) (r2 : Rd W 0 x2 (c 2)) (r3 : Rd W 0 x3 (c 3)) (r4 : Rd W 0 x4 (c 4)) (r5 : Rd W 0 x5 (c 5)) (r8 : Rd W 0 x8 (c 8)) (r10 : Rd W 0 x10 (c 10)) (r11 : Rd W 0 x11 (c 11)) (hs : BdS c) :
    Calls Try.prog 14 #[.agg #[.int .i64 c0, .bool c1, x2, x3, x4, x5, .int .i64 c6, .string c7, x8, x9, x10, x11]] W (IntE ((sizA.of ((stmtExprs c).map (foldE sizA)) : Nat) : Int) W) := by
  have hO := fun w (h : Below W.heap.size W w) => stmtExprs_spec c c0 c1 x2 x3 x4 x5 c6 c7 x8 x9 x10 x11 w (r2.later h) (r3.later h) (r4.later h) (r5.later h) (r8.later h) (r10.later h) (r11.later h) hs
  have hbd := hs.bd
  have hws := hs.wsum
  have hsz := siz_wsum hbd
  have hdp := dep_siz (L := stmtExprs c)
  have hlen : (stmtExprs c).length ≤ 1048576 := by
    have key : ∀ L : List Nd, L.length ≤ wsum L := fun L => by
      induction L with
      | nil => exact Nat.le_refl _
      | cons a L ih => rw [List.length_cons, wsum_cons]; unfold wt; omega
    have := key (stmtExprs c); omega
  have hel : ∀ nd ∈ stmtExprs c, Fits (nd 8) .exprs ∧ Fits (nd 9) .queries ∧ SizeOfP nd := fun nd h => by
    have h1 := wsum_mem h
    have h2 := siz_wt (hbd nd h)
    exact ⟨(hbd nd h).f8, (hbd nd h).f9, (sizeOf_all 1048577).1 nd (by omega) (by omega) (hbd nd h).f8 (hbd nd h).f9⟩
  have hD : sizA.of ((stmtExprs c).map (foldE sizA)) ≤ 1048576 := by omega
  clear hbd hws hsz hdp
  generalize stmtExprs c = L at *
  have hpre : ∀ j, j ≤ L.length → sizA.of ((L.take j).map (foldE sizA)) ≤ 1048576 := fun j _ => by
    have e : L = L.take j ++ L.drop j := (List.take_append_drop _ _).symm
    have h : sizA.of (L.map (foldE sizA)) = sizA.up (sizA.of ((L.take j).map (foldE sizA))) (sizA.of ((L.drop j).map (foldE sizA))) := by
      conv => lhs; rw [e]
      rw [List.map_append, sizA_good.of_append]
    have h2 : ∀ a b : Nat, a ≤ sizA.up a b := fun a b => by show a ≤ a + b; omega
    have := h2 (sizA.of ((L.take j).map (foldE sizA))) (sizA.of ((L.drop j).map (foldE sizA)))
    omega
  have hsn : ∀ j (h : j < L.length), sizA.of ((L.take (j + 1)).map (foldE sizA)) = sizA.of ((L.take j).map (foldE sizA)) + foldE sizA L[j] := fun j h => by
    rw [take_next (List.getElem?_eq_getElem h), List.map_append, List.map_cons, List.map_nil, Alg.of_snoc]; rfl
  have hBx : Below W.heap.size W (W.alloc (.cells #[.int .i64 c0, .bool c1, x2, x3, x4, x5, .int .i64 c6, .string c7, x8, x9, x10, x11] 42)) := (Below.refl _ _).alloc (Nat.le_refl _) _
  have R := RowAt.new W 42 #[.int .i64 c0, .bool c1, x2, x3, x4, x5, .int .i64 c6, .string c7, x8, x9, x10, x11]
  go_enter Try.func14, Try.ntmps14
  go_wp2_with fail
  generalize (W.alloc (.cells #[.int .i64 c0, .bool c1, x2, x3, x4, x5, .int .i64 c6, .string c7, x8, x9, x10, x11] 42)) = w1 at R hBx ⊢
  have X0 := R.cell (i := 0) (v := .int .i64 c0) rfl
  have X1 := R.cell (i := 1) (v := .bool c1) rfl
  have X2 := R.cell (i := 2) (v := x2) rfl
  have X3 := R.cell (i := 3) (v := x3) rfl
  have X4 := R.cell (i := 4) (v := x4) rfl
  have X5 := R.cell (i := 5) (v := x5) rfl
  have X6 := R.cell (i := 6) (v := .int .i64 c6) rfl
  have X7 := R.cell (i := 7) (v := .string c7) rfl
  have X8 := R.cell (i := 8) (v := x8) rfl
  have X9 := R.cell (i := 9) (v := x9) rfl
  have X10 := R.cell (i := 10) (v := x10) rfl
  have X11 := R.cell (i := 11) (v := x11) rfl

  try go_wp2_with fail
  refine (hO _ hBx).mono ?_
  clear hO X0 X1 X2 X3 X4 X5 X6 X7 X8 X9 X10 X11 R
  rintro e w2 ⟨v, w0, rfl, ho, hbw, hb2⟩
  obtain ⟨ag, pg, rfl, hr, hf⟩ := ho.rd hbw (by omega) (fun _ => .v undef)
  have hB2 := hBx.trans (hb2.mono hBx.size)
  clear ho hbw hb2 hBx w0
  have hB0 := Below.refl w2.heap.size w2
  go_wp2_with fail
  go_loopw [3, 5] (fun m i wr => ∃ (j K : Nat), j ≤ L.length ∧ i = .int .i64 (j : Int) ∧ m = .int .i64 (K : Int) ∧ Hid (K = sizA.of ((L.take j).map (foldE sizA))) ∧ Below w2.heap.size w2 wr) (fun _ i _ => L.length - (intOf i).toNat)
  case atStart => exact ⟨0, 0, by omega, rfl, rfl, rfl, hB0⟩
  case round =>
    obtain ⟨j, K, hj, rfl, rfl, HA, hB⟩ := hrel
    by_cases hlt : j < L.length
    · have hlt2 : (j : Int) < (L.length : Int) := by omega
      obtain ⟨g, o, rfl, -, hg, y0, y1, y2, y3, y4, y5, y6, y7, y8, y9, ⟨z0, z1, z2, z3, z4, z5, z6, z7, z8, z9⟩, ⟨-, -, -, -, -, -, -, -, ⟨r8, q8⟩, ⟨r9, q9⟩⟩⟩ := row_exprs (hr.later hB) hf hlt
      have hgd : L.getD j (fun _ => Dat.v undef) = L[j] := by rw [List.getD_eq_getElem?_getD, List.getElem?_eq_getElem hlt]; rfl
      replace r8 : Rd wr 0 y8 (L[j] 8) := by rw [← hgd]; exact r8
      replace r9 : Rd wr 0 y9 (L[j] 9) := by rw [← hgd]; exact r9
      clear q8 q9 hgd
      obtain ⟨q8, q9, hP⟩ := hel L[j] (List.getElem_mem hlt)
      unfold SizeOfP at hP
      have hS := fun w => hP y0 y1 y2 y3 y4 y5 y6 y7 y8 y9 w
      have hs1 := hsn j hlt
      have hs2 := hpre (j + 1) (by omega)
      rw [hs1] at hs2
      rw [← HA.out] at hs1 hs2
      clear hP
      generalize hV : foldE sizA L[j] = V at hS hs1 hs2
      clear hV
      have HS := Lib.hid hs1.symm
      clear hs1 HA
      have hk1 : K + V ≤ 1048576 := hs2
      go_wp2_with fail
      refine (hS _ r8 q8 r9 q9).mono ?_
      rintro e w3 ⟨rfl, hb⟩
      replace hb := hB.trans (hb.mono hB.size)
      go_wp2_with fail
      go_roundw
      case rel => exact ⟨j + 1, K + V, by omega, by go_num, by go_num, HS.out, hb⟩
      case measure => simp [intOf]; omega
    · obtain rfl : j = L.length := by omega
      have h := HA.out
      rw [List.take_length] at h
      have HH := Lib.hid h
      have hBB := hB2.trans (hB.mono hB2.size)
      clear hlt hj HA h
      go_wp2_with fail
      go_ret
      have h := HH.out
      subst h
      exact ⟨rfl, hBB⟩
end Go.Proofs.Ytfmgkinindkedaa

/- The program's greatest, StmtDepth and StmtSize. -/
namespace Go.Proofs.Ytfmgkinindkedaa
open Go.RowKit
set_option linter.unusedVariables false
set_option maxRecDepth 100000 in
set_option maxHeartbeats 8000000 in
theorem StmtSize_any (w0 W : World) (c : Nd) (ys : List Value) (hys : OutK stTy w0 ys [c]) (hb0 : Below w0.heap.size w0 W) (hs : BdS c) :
    Calls Try.prog 16 #[.agg ys.toArray] W (IntE ((sizA.of ((stmtExprs c).map (foldE sizA)) : Nat) : Int) W) := by
  have hO := fun w h => atTop_any w0 w c ys hys h hs
  have hbd := hs.bd
  have hws := hs.wsum
  have hsz := siz_wsum hbd
  have hdp := dep_siz (L := stmtExprs c)
  have hmm : ∀ nd ∈ stmtExprs c, Bd nd ∧ msr (nd 8) + msr (nd 9) ≤ 1048576 := fun nd h => ⟨hbd nd h, by have h1 := wsum_mem h; unfold wt at h1; omega⟩
  have hlen : (stmtExprs c).length ≤ 1048576 := by
    have key : ∀ L : List Nd, L.length ≤ wsum L := fun L => by
      induction L with
      | nil => exact Nat.le_refl _
      | cons a L ih => rw [List.length_cons, wsum_cons]; unfold wt; omega
    have := key (stmtExprs c); omega
  obtain ⟨c0, c1, a2, n2, p2, a3, n3, p3, a4, n4, p4, a5, n5, p5, c6, c7, a8, n8, p8, a9, n9, p9, a10, n10, p10, a11, n11, p11, rfl, -⟩ := hys.stmtRow
  generalize stmtExprs c = L at *
  have R := RowAt.new W 42 #[.int .i64 c0, .bool c1, .slice a2 n2 p2, .slice a3 n3 p3, .slice a4 n4 p4, .slice a5 n5 p5, .int .i64 c6, .string c7, .slice a8 n8 p8, .slice a9 n9 p9, .slice a10 n10 p10, .slice a11 n11 p11]
  have hB : Below W.heap.size W (W.alloc (.cells #[.int .i64 c0, .bool c1, .slice a2 n2 p2, .slice a3 n3 p3, .slice a4 n4 p4, .slice a5 n5 p5, .int .i64 c6, .string c7, .slice a8 n8 p8, .slice a9 n9 p9, .slice a10 n10 p10, .slice a11 n11 p11] 42)) := (Below.refl _ _).alloc (Nat.le_refl _) _
  go_enter Try.func16, Try.ntmps16
  go_wp2_with fail
  generalize (W.alloc (.cells #[.int .i64 c0, .bool c1, .slice a2 n2 p2, .slice a3 n3 p3, .slice a4 n4 p4, .slice a5 n5 p5, .int .i64 c6, .string c7, .slice a8 n8 p8, .slice a9 n9 p9, .slice a10 n10 p10, .slice a11 n11 p11] 42)) = w1 at R hB ⊢
  have hz := hb0.trans (hB.mono hb0.size)
  have X0 := R.cell (i := 0) (v := .int .i64 c0) rfl
  have X1 := R.cell (i := 1) (v := .bool c1) rfl
  have X2 := R.cell (i := 2) (v := .slice a2 n2 p2) rfl
  have X3 := R.cell (i := 3) (v := .slice a3 n3 p3) rfl
  have X4 := R.cell (i := 4) (v := .slice a4 n4 p4) rfl
  have X5 := R.cell (i := 5) (v := .slice a5 n5 p5) rfl
  have X6 := R.cell (i := 6) (v := .int .i64 c6) rfl
  have X7 := R.cell (i := 7) (v := .string c7) rfl
  have X8 := R.cell (i := 8) (v := .slice a8 n8 p8) rfl
  have X9 := R.cell (i := 9) (v := .slice a9 n9 p9) rfl
  have X10 := R.cell (i := 10) (v := .slice a10 n10 p10) rfl
  have X11 := R.cell (i := 11) (v := .slice a11 n11 p11) rfl
  clear R
  try go_wp2_with fail
  refine (hO _ hz).mono ?_
  clear hO X0 X1 X2 X3 X4 X5 X6 X7 X8 X9 X10 X11
  rintro e w2 ⟨v, rfl, ho, hb2⟩
  have hB2 := hb0.trans ((hB.trans (hb2.mono hB.size)).mono hb0.size)
  have hf2 := hB.trans (hb2.mono hB.size)
  have hlk : LK exprTy w0 w2 (fun _ => True) v L := ho.lk fun _ _ _ => trivial
  obtain ⟨vv, hvv⟩ : ∃ vv, vv = v := ⟨_, rfl⟩
  rw [← hvv] at hlk ⊢
  clear hvv ho
  have hD := total_any w0 w2 L vv hB2 hlk hbd (by rw [len_flat]; omega)
  go_wp2_with fail
  refine hD.mono ?_
  clear hD
  rintro e w3 ⟨rfl, hb3⟩
  rw [len_flat]
  have hfb := hf2.trans (hb3.mono hf2.size)
  go_wp2_with fail
  go_ret
  exact ⟨rfl, hfb⟩
end Go.Proofs.Ytfmgkinindkedaa
