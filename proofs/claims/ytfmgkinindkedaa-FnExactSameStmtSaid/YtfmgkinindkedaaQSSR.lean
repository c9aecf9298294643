/- Joined texts: Deep TreeI ExprsQ. -/
import Derived.Test.YtfmgkinindkedaaQSSM
import Derived.Test.YtfmgkinindkedaaQSSB
import Derived.Test.YtfmgkinindkedaaQHExLaw
import Derived.Test.YtfmgkinindkedaaQHSameQX
import Derived.Shelf.Abstract
/- The program's depth and size of expressions and queries. -/
namespace Go.Proofs.Ytfmgkinindkedaa
open Go.RowKit
attribute [local go_sem] Oper.semAt_some

set_option maxRecDepth 100000 in
theorem partsOf_any (w0 : World) (c : Nd) (hc : Bd c) : PartsE 108 parts w0 c := by
  intro ys W hys hb0
  have hB := below_exprs w0
  obtain ⟨c0, c1, c2, c3, c4, c5, c6, c7, a8, n8, p8, a9, n9, p9, rfl, -⟩ := hys.ten
  have H := RowAt.new W 56 #[.int .i64 c0, .int .i64 c1, .bool c2, .int .i64 c3, .int .i64 c4, .string c5, .string c6, .string c7, .slice a8 n8 p8, .slice a9 n9 p9]
  have hal : Below W.heap.size W (W.alloc (.cells #[.int .i64 c0, .int .i64 c1, .bool c2, .int .i64 c3, .int .i64 c4, .string c5, .string c6, .string c7, .slice a8 n8 p8, .slice a9 n9 p9] 56)) := (Below.refl _ _).alloc (Nat.le_refl _) _
  have x0 := H.cell (i := 0) (v := .int .i64 c0) rfl
  have x1 := H.cell (i := 1) (v := .int .i64 c1) rfl
  have x2 := H.cell (i := 2) (v := .bool c2) rfl
  have x3 := H.cell (i := 3) (v := .int .i64 c3) rfl
  have x4 := H.cell (i := 4) (v := .int .i64 c4) rfl
  have x5 := H.cell (i := 5) (v := .string c5) rfl
  have x6 := H.cell (i := 6) (v := .string c6) rfl
  have x7 := H.cell (i := 7) (v := .string c7) rfl
  have x8 := H.cell (i := 8) (v := .slice a8 n8 p8) rfl
  have x9 := H.cell (i := 9) (v := .slice a9 n9 p9) rfl
  go_enter Try.func108, Try.ntmps108
  go_wp2_with fail
  generalize W.alloc (.cells #[.int .i64 c0, .int .i64 c1, .bool c2, .int .i64 c3, .int .i64 c4, .string c5, .string c6, .string c7, .slice a8 n8 p8, .slice a9 n9 p9] 56) = w1 at H hal ⊢
  have hb1 := hb0.trans (hal.mono hb0.size)
  refine (hB w1 c _ hys hb1 hc).mono ?_
  rintro e w2 ⟨v, rfl, hp, hb⟩
  have hb2 := hal.trans (hb.mono hal.size)
  go_wp2_with fail
  go_ret
  refine ⟨v, rfl, (hp.lk (hb1.trans (hb.mono hb1.size))).keep (Nat.le_refl _) (fun _ _ _ => rfl) (fun g hg _ => hg.imp id fun h => by have := hal.size; omega), hb2⟩
theorem pre_hd (d : Nat) (c : Nd) : ∃ l, pre d c = (d, c) :: l := by
  unfold pre foldE
  exact ⟨_, by show (0 + d, c) :: _ = _; rw [Nat.zero_add]⟩
theorem visitsE_any (v pf : Value) (hv : ∃ a n p, v = .slice a n p) (hp : ∃ g, pf = .func (.func g) #[] #[]) (W : World) :
    Calls Try.prog 107 #[v, pf] W fun e w' => e = .returned (.func (.func VE) #[] #[.pointer (some ⟨W.heap.size, 0, none⟩), .pointer (some ⟨W.heap.size + 1, 0, none⟩)]) ∧
      w' = (W.alloc (.cells #[v] 36)).alloc (.cells #[pf] 134) := by
  obtain ⟨a, n, p, rfl⟩ := hv
  obtain ⟨g, rfl⟩ := hp
  go_enter Try.func107, Try.ntmps107
  go_wp2_with fail
  go_ret
  exact ⟨rfl, rfl⟩
set_option maxRecDepth 100000 in
set_option maxHeartbeats 4000000 in
theorem total_any (w0 W : World) (L : List Nd) (v : Value) (hb0 : Below w0.heap.size w0 W) (hv : LK exprTy w0 W (fun _ => True) v L) (hL : ∀ c ∈ L, Bd c) (hlen : (L.flatMap (pre 1)).length ≤ 2000000) :
    Calls Try.prog 57 #[v] W fun e w' => e = .returned (.int .i64 (((L.flatMap (pre 1)).length : Nat) : Int)) ∧ Below W.heap.size W w' := by
  obtain ⟨a0, cap, rfl⟩ := hv.slice
  have hz := hb0.size
  generalize hxs : L.flatMap (pre 1) = xs at hlen ⊢
  have HB : ∀ d c, (d, c) ∈ xs → Bd c := fun d c h => by
    rw [← hxs, List.mem_flatMap] at h
    obtain ⟨c', hc', h⟩ := h
    exact (hL c' hc').pre 1 _ h
  refine (callsIn_wide (n := 5)).1 ?_
  refine callsIn_of_wp_marks Try.func57 rfl trivial ?_ rfl
  simp only [Try.ntmps57, List.size_toArray, List.length_cons, List.length_nil, Nat.reduceAdd, Nat.reduceSub, Array.replicate_succ, Array.replicate_zero, List.push_toArray, List.append_toArray, List.nil_append, List.cons_append]
  have H0 := RowAt.new W 3 #[.int .i64 0]
  have B0 : Below W.heap.size W (W.alloc (.cells #[.int .i64 0] 3)) := (Below.refl _ _).alloc (Nat.le_refl _) _
  have s0 : (W.alloc (.cells #[.int .i64 0] 3)).heap.size = W.heap.size + 1 := by simp
  gi_wp2
  generalize W.alloc (.cells #[.int .i64 0] 3) = w1 at *
  refine ⟨trivial, (callsIn_wide.2 (visitsE_any _ _ ⟨_, _, _, rfl⟩ ⟨_, rfl⟩ w1)).mono ?_⟩
  rintro e w3 ⟨rfl, hw3⟩
  have k1 : w3.cell? ⟨w1.heap.size, 0, none⟩ = some (.slice a0 L.length cap) := by rw [hw3]; exact ((RowAt.new w1 36 #[.slice a0 L.length cap]).alloc _).cell (i := 0) rfl
  have k2 : w3.cell? ⟨w1.heap.size + 1, 0, none⟩ = some (.func (.func 108) #[] #[]) := by
    have h := (RowAt.new (w1.alloc (.cells #[.slice a0 L.length cap] 36)) 134 #[.func (.func 108) #[] #[]]).cell (i := 0) rfl
    rw [World.size_alloc] at h
    rw [hw3]; exact h
  have b3 : Below w1.heap.size w1 w3 := by rw [hw3]; exact ((Below.refl _ _).alloc (Nat.le_refl _) _).alloc (by simp) _
  have s3 : w3.heap.size = W.heap.size + 3 := by rw [hw3]; simp [s0]
  clear hw3
  have H3 := H0.later b3
  have B3 : Below W.heap.size W w3 := B0.trans (b3.mono (by omega))
  rw [s0] at k1 k2
  gi_wp2
  refine wpIn_rangeV (α := Nat × Nd) rfl (by decide) (gf := VE) (lb := #[.pointer (some ⟨W.heap.size + 1, 0, none⟩), .pointer (some ⟨W.heap.size + 1 + 1, 0, none⟩)]) rfl trivial (enters_of Try.func153 (by kernel_rfl) rfl)
    (visE_any pre parts (fun _ => True) w0 w3 L _ _ _ (fun k => k = W.heap.size) xs _ hxs.symm hlen (hb0.trans (B3.mono hz)) (fun k hk => ⟨by omega, by omega⟩) k1 k2 (by omega)
      (hv.keep B3.size (fun g _ hlt => B3.block g hlt) fun g _ hlt => by omega) (fun d c h _ => partsOf_any w0 c (HB d c h)) pre_hd (fun d c h _ => pre_eq d (HB d c h).f8 (HB d c h).f9))
    (fun k hk => by omega) (fun x v h => by obtain ⟨ys, _, rfl⟩ := h; rfl)
    (fun i Wr => RowAt Wr W.heap.size 3 #[.int .i64 ((i : Nat) : Int)] ∧ Below W.heap.size W Wr) (fun _ _ _ => False)
    (fun i A B h hb => ⟨(hb.block _ (by omega)).trans h.1, h.2.trans (hb.mono (by omega))⟩) (fun _ _ _ _ h _ => h) ⟨H3, B3⟩
    (fun x a _ => ∃ ys : List Value, a = { tmps := #[.slice a0 L.length cap, undef, .int .i64 0, .pointer (some ⟨W.heap.size, 0, none⟩), .slice a0 L.length cap, .func (.func VE) #[] #[.pointer (some ⟨W.heap.size + 1, 0, none⟩), .pointer (some ⟨W.heap.size + 1 + 1, 0, none⟩)], .int .i64 (x.1 : Int), .agg ys.toArray, undef, undef, undef], defers := [] }) (fun x a A B h _ => h) ?assign ?body ?done ?stop
  case assign =>
    rintro l x v W1 K ⟨ys, hys, rfl⟩ _ hK
    gi_wp2
    exact hK _ _ ⟨ys, by simp⟩ (Below.refl _ _)
  case body =>
    rintro l i ⟨d, c⟩ a1 W1 hx ⟨hI, hB⟩ hsz ⟨ys, rfl⟩
    have x0 := hI.cell (i := 0) (v := .int .i64 ((i : Nat) : Int)) rfl
    have x1 := hI.soft 0
    have hil : i < xs.length := (List.getElem?_eq_some_iff.1 hx).1
    have hI2 : ∀ u, RowAt (W1.setCell ⟨W.heap.size, 0, none⟩ u) W.heap.size 3 #[u] := fun u => hI.set 0 u
    gi_wp2
    exact ⟨But.setCell _ ⟨W.heap.size, 0, none⟩ _ rfl, trivial, hI2 _, hB.setCell (p := ⟨W.heap.size, 0, none⟩) (Nat.le_refl _) _⟩
  case done =>
    rintro D W1 hD ⟨hI, hB⟩ hK
    have x0 := hI.cell (i := 0) (v := .int .i64 ((xs.length : Nat) : Int)) rfl
    gi_wp2
    refine ⟨by simp, .inl ⟨_, _, rfl, run_takeDeferred hK, ?_⟩⟩
    exact ⟨_, results_tmp rfl _ _ _, rfl, hB.trans (below_put _ _ _ (by omega))⟩
  case stop => exact fun _ _ _ _ _ _ h _ => h.elim
end Go.Proofs.Ytfmgkinindkedaa

/- The program's DepthOf, SizeOf, QueryDepth and QuerySize, as the laws take them. -/
namespace Go.Proofs.Ytfmgkinindkedaa
open Go.RowKit

/-- an expression as the contracts take it -/
def ndOf (c0 c1 : Int) (c2 : Bool) (c3 c4 : Int) (c5 c6 c7 : ByteArray) (c : Nd) : Nd := fun j => match j with
  | 0 => .v (.int .i64 c0) | 1 => .v (.int .i64 c1) | 2 => .v (.bool c2) | 3 => .v (.int .i64 c3) | 4 => .v (.int .i64 c4) | 5 => .v (.string c5) | 6 => .v (.string c6) | 7 => .v (.string c7) | j => c j
theorem ndOf_out {c0 c1 : Int} {c2 : Bool} {c3 c4 : Int} {c5 c6 c7 : ByteArray} {c : Nd} {x8 x9 : Value} {w : World} (b0 : I64 c0) (b1 : I64 c1) (b3 : I64 c3) (b4 : I64 c4) (b5 : c5.size ≤ 9223372036854775807) (b6 : c6.size ≤ 9223372036854775807) (b7 : c7.size ≤ 9223372036854775807)
    (r8 : Rd w 0 x8 (c 8)) (q8 : Fits (c 8) .exprs) (r9 : Rd w 0 x9 (c 9)) (q9 : Fits (c 9) .queries) :
    OutP w [.int .i64 c0, .int .i64 c1, .bool c2, .int .i64 c3, .int .i64 c4, .string c5, .string c6, .string c7, x8, x9] [ndOf c0 c1 c2 c3 c4 c5 c6 c7 c] := OutP.one rfl (fun m hm => match m, hm with
  | 0, _ => ⟨_, rfl, rfl, ⟨_, rfl, b0⟩⟩
  | 1, _ => ⟨_, rfl, rfl, ⟨_, rfl, b1⟩⟩
  | 2, _ => ⟨_, rfl, rfl, ⟨_, rfl⟩⟩
  | 3, _ => ⟨_, rfl, rfl, ⟨_, rfl, b3⟩⟩
  | 4, _ => ⟨_, rfl, rfl, ⟨_, rfl, b4⟩⟩
  | 5, _ => ⟨_, rfl, rfl, ⟨_, rfl, b5⟩⟩
  | 6, _ => ⟨_, rfl, rfl, ⟨_, rfl, b6⟩⟩
  | 7, _ => ⟨_, rfl, rfl, ⟨_, rfl, b7⟩⟩
  | 8, _ => ⟨_, rfl, r8, q8⟩
  | 9, _ => ⟨_, rfl, r9, q9⟩
  | m + 10, hm => absurd hm (by simp [exprTy]))

theorem mem_exprsOf_bd {d : Dat} {ty : Ty} {M : Nat} (hf : Fits d ty) (hm : msr d ≤ M) (hM : M ≤ 1048576) (nd : Nd) (p : Nat × Nd) (hp : p ∈ fold preA d ty) (he : p.2 = nd) : Bd nd := by
  obtain ⟨a, b, c, e⟩ := pre_bd d ty hf p hp
  subst he
  exact ⟨by omega, by omega, c, e⟩
theorem queryBd {c : Nd} (q1 : Fits (c 1) .items) (q2 : Fits (c 2) .sources) (q3 : Fits (c 3) .exprs) (q4 : Fits (c 4) .keys) (m1 : msr (c 1) ≤ 1048576) (m2 : msr (c 2) ≤ 1048576) (m3 : msr (c 3) ≤ 1048576) (m4 : msr (c 4) ≤ 1048576) : ∀ nd ∈ exprsOf c, Bd nd := by
  intro nd hnd
  have hq : foldQ preA c = (exprsOf c).flatMap (foldE preA) := by
    rw [foldQ_is preA_good q1 q2 q3 q4, preA_of]; rfl
  have h0 : (0, nd) ∈ foldQ preA c := by
    rw [hq, List.mem_flatMap]
    exact ⟨nd, hnd, by unfold foldE; exact List.mem_cons_self ..⟩
  unfold foldQ at h0
  simp only [preA, List.mem_append] at h0
  rcases h0 with ((h | h) | h) | h
  · exact mem_exprsOf_bd q1 (Nat.le_refl _) m1 nd _ h rfl
  · exact mem_exprsOf_bd q2 (Nat.le_refl _) m2 nd _ h rfl
  · exact mem_exprsOf_bd q3 (Nat.le_refl _) m3 nd _ h rfl
  · exact mem_exprsOf_bd q4 (Nat.le_refl _) m4 nd _ h rfl
end Go.Proofs.Ytfmgkinindkedaa

/- The program's expressions of a query. -/
namespace Go.Proofs.Ytfmgkinindkedaa
open Go.RowKit

/-- the expressions of a query -/
theorem exprsInQ_any (w0 W : World) (q : Nd) (ys : List Value) (hys : OutK (rowTy .queries) w0 ys [q]) (hb0 : Below w0.heap.size w0 W) (hq : BdQ q) :
    Calls Try.prog 79 #[.agg ys.toArray] W fun e w' => ∃ v, e = .returned v ∧ OutE w0 w' (W.heap.size + 1) v (exprsOf q) ∧ Below W.heap.size W w' := by
  obtain ⟨c0, a1, n1, p1, a2, n2, p2, a3, n3, p3, a4, n4, p4, c5, rfl, -, ⟨r1, q1⟩, ⟨r2, q2⟩, ⟨r3, q3⟩, ⟨r4, q4⟩, -⟩ := hys.queryRow
  have hm := hq.m
  obtain ⟨f1, e1, r1, q1⟩ := r1.openS q1 rfl
  obtain ⟨f2, e2, r2, q2⟩ := r2.openS q2 rfl
  obtain ⟨f3, e3, r3, q3⟩ := r3.openS q3 rfl
  obtain ⟨f4, e4, r4, q4⟩ := r4.openS q4 rfl
  have hs : exprsOf q = ((exItems (.sl n1 13 f1) ++ exFrom (.sl n2 3 f2)) ++ (Dat.sl n3 10 f3).els) ++ (Dat.sl n4 11 f4).els := by
    unfold exprsOf; rw [e1, e2, e3, e4]; rfl
  have hN : n1 + (exFrom (.sl n2 3 f2)).length + n3 + n4 ≤ 1048576 := by
    rw [e1, e2, e3, e4] at hm
    replace hm : msr (.sl n1 13 f1) + msr (.sl n2 3 f2) + msr (.sl n3 10 f3) + msr (.sl n4 11 f4) ≤ 1048576 := hm
    have k1 := msr_n n1 13 f1
    have k2 := exFrom_msr q2
    have k3 := msr_n n3 10 f3
    have k4 := msr_n n4 11 f4
    omega
  have h := exprsIn_any w0 W c0 a1 n1 p1 a2 n2 p2 a3 n3 p3 a4 n4 p4 c5 f1 f2 f3 f4 hb0 r1 q1 r2 q2 r3 q3 r4 q4 hN
  rw [← hs] at h
  exact h
theorem BdQ.exprs {q : Nd} (h : BdQ q) : ∀ x ∈ exprsOf q, Bd x := by
  have hm := h.m
  exact queryBd h.f.1 h.f.2.1 h.f.2.2.1 h.f.2.2.2 (by omega) (by omega) (by omega) (by omega)
theorem BdQ.len {q : Nd} (h : BdQ q) : ((exprsOf q).flatMap (pre 1)).length ≤ 2000000 := by
  have hm := h.m
  have g1 := siz_le (q 1) _ h.f.1
  have g2 := siz_le (q 2) _ h.f.2.1
  have g3 := siz_le (q 3) _ h.f.2.2.1
  have g4 := siz_le (q 4) _ h.f.2.2.2
  have hs : foldQ sizA q ≤ 1048576 := by show _ + _ + _ + _ ≤ _; omega
  rw [foldQ_is sizA_good h.f.1 h.f.2.1 h.f.2.2.1 h.f.2.2.2] at hs
  rw [len_flat]
  have : sizA.of ((exprsOf q).map (foldE sizA)) ≤ 1048576 := hs
  omega
end Go.Proofs.Ytfmgkinindkedaa
