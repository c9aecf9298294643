/- Joined texts: SameAll Deep TreeI ExSameW. -/
import Derived.Test.YtbbfanhhldbhhaaQHSameQ
import Derived.Test.YtbbfanhhldbhhaaQGAS
import Derived.Test.YtbbfanhhldbhhaaQGAC
import Derived.Test.YtbbfanhhldbhhaaQHExLaw
import Derived.Test.YtbbfanhhldbhhaaQHExSame
import Derived.Test.YtbbfanhhldbhhaaQGAZ
import Derived.Shelf.Abstract
/- The model's comparison of trees, of every depth. -/
namespace Go.Proofs.Ytbbfanhhldbhhaa
open Go.RowKit

theorem sameS_of (d d' : Dat) (IH : ∀ e, e ∈ d.els → ∀ e', SameExprP e e') : SameSP d d' := by
  intro x y w hr hf hs hf'
  obtain ⟨n, k, f, rfl⟩ := hf.deep rfl
  obtain ⟨n', k', f', rfl⟩ := hf'.deep rfl
  obtain rfl : k = 10 := hf.2.2.1
  obtain rfl : k' = 10 := hf'.2.2.1
  exact l7Same_step n n' f f' (fun i hi => IH _ (List.mem_map.2 ⟨i, List.mem_range.2 hi, rfl⟩) _) x y w hr hf hs hf'
theorem sameE_of (c c' : Nat → Dat) (IHk : ∀ e, e ∈ (c 8).els → ∀ e', SameExprP e e') (IHs : ∀ q, q ∈ (c 9).els → ∀ q', SameQueryP q q') : SameExprP c c' := by
  intro x0 x1 x2 x3 x4 x5 x6 x7 x8 x9 y0 y1 y2 y3 y4 y5 y6 y7 y8 y9 w r8 q8 r9 q9 s8 t8 s9 t9
  obtain ⟨n, k, f, h9⟩ := q9.deep rfl
  obtain ⟨n', k', f', h9'⟩ := t9.deep rfl
  have hk := h9 ▸ q9
  have hk' := h9' ▸ t9
  obtain rfl : k = 6 := hk.2.2.1
  obtain rfl : k' = 6 := hk'.2.2.1
  rw [h9] at IHs
  exact sameExpr_step c c' (sameS_of _ _ IHk) n n' f f' h9 h9' (fun i hi _ => IHs _ (List.mem_map.2 ⟨i, List.mem_range.2 hi, rfl⟩) _) x0 x1 x2 x3 x4 x5 x6 x7 x8 x9 y0 y1 y2 y3 y4 y5 y6 y7 y8 y9 w r8 q8 r9 q9 s8 t8 s9 t9
theorem sameQ_of (q q' : Nat → Dat) (IH1 : ∀ c, c ∈ (q 1).els → ∀ e', SameExprP (cut 2 c) e') (IH2 : ∀ c, c ∈ (q 2).els → ∀ d', SameSP (c 2) d') (IH3 : ∀ d', SameSP (q 3) d') (IH4 : ∀ e, e ∈ (q 4).els → ∀ e', SameExprP e e') : SameQueryP q q' := by
  intro x0 x1 x2 x3 x4 x5 y0 y1 y2 y3 y4 y5 w e0 l0 e5 l5 r1 q1 r2 q2 r3 q3 r4 q4 s1 t1 s2 t2 s3 t3 s4 t4
  obtain ⟨n1, k1, f1, h1⟩ := q1.deep rfl
  obtain ⟨n2, k2, f2, h2⟩ := q2.deep rfl
  obtain ⟨n4, k4, f4, h4⟩ := q4.deep rfl
  obtain ⟨n1', k1', f1', h1'⟩ := t1.deep rfl
  obtain ⟨n2', k2', f2', h2'⟩ := t2.deep rfl
  obtain ⟨n4', k4', f4', h4'⟩ := t4.deep rfl
  have a1 := h1 ▸ q1
  have a2 := h2 ▸ q2
  have a4 := h4 ▸ q4
  have b1 := h1' ▸ t1
  have b2 := h2' ▸ t2
  have b4 := h4' ▸ t4
  obtain rfl : k1 = 13 := a1.2.2.1
  obtain rfl : k2 = 3 := a2.2.2.1
  obtain rfl : k4 = 11 := a4.2.2.1
  obtain rfl : k1' = 13 := b1.2.2.1
  obtain rfl : k2' = 3 := b2.2.2.1
  obtain rfl : k4' = 11 := b4.2.2.1
  rw [h1] at IH1
  rw [h2] at IH2
  rw [h4] at IH4
  exact sameQuery_step q q' n1 n2 n4 n1' n2' n4' f1 f2 f4 f1' f2' f4' h1 h2 h4 h1' h2' h4' (IH3 _) (fun i hi => IH1 _ (List.mem_map.2 ⟨i, List.mem_range.2 hi, rfl⟩) _) (fun i hi => IH2 _ (List.mem_map.2 ⟨i, List.mem_range.2 hi, rfl⟩) _)
    (fun i hi => IH4 _ (List.mem_map.2 ⟨i, List.mem_range.2 hi, rfl⟩) _) x0 x1 x2 x3 x4 x5 y0 y1 y2 y3 y4 y5 w e0 l0 e5 l5 r1 q1 r2 q2 r3 q3 r4 q4 s1 t1 s2 t2 s3 t3 s4 t4
/-- all that is told of a slice's elements, of whatever type they be -/
structure SA (d : Dat) : Prop where
  s : ∀ d', SameSP d d'
  e : ∀ e, e ∈ d.els → ∀ e', SameExprP e e'
  i : ∀ c, c ∈ d.els → ∀ e', SameExprP (cut 2 c) e'
  f : ∀ c, c ∈ d.els → ∀ d', SameSP (c 2) d'
  q : ∀ q, q ∈ d.els → ∀ q', SameQueryP q q'
theorem sameAll : ∀ d : Dat, SA d
  | .v x => ⟨fun d' => sameS_of _ _ fun e he => absurd he (by simp [Dat.els, Dat.len]), fun e he => absurd he (by simp [Dat.els, Dat.len]), fun e he => absurd he (by simp [Dat.els, Dat.len]), fun e he => absurd he (by simp [Dat.els, Dat.len]), fun e he => absurd he (by simp [Dat.els, Dat.len])⟩
  | .sl n k f => by
    have IH : ∀ i j, SA (f i j) := fun i j => sameAll (f i j)
    have hE : ∀ e, e ∈ (Dat.sl n k f).els → ∀ e', SameExprP e e' := fun e he e' => by
      obtain ⟨i, -, rfl⟩ := List.mem_map.1 he
      exact sameE_of _ _ (IH i 8).e (IH i 9).q
    refine ⟨fun d' => sameS_of _ _ hE, hE, fun c he e' => ?_, fun c he d' => ?_, fun q he q' => ?_⟩
    · obtain ⟨i, -, rfl⟩ := List.mem_map.1 he
      exact sameE_of _ _ (IH i 10).e (IH i 11).q
    · obtain ⟨i, -, rfl⟩ := List.mem_map.1 he
      exact (IH i 2).s d'
    · obtain ⟨i, -, rfl⟩ := List.mem_map.1 he
      exact sameQ_of _ _ (IH i 1).i (IH i 2).f (IH i 3).s (IH i 4).e
end Go.Proofs.Ytbbfanhhldbhhaa

/- The program's depth and size of expressions and queries. -/
namespace Go.Proofs.Ytbbfanhhldbhhaa
open Go.RowKit
attribute [local go_sem] Oper.semAt_some

set_option maxRecDepth 100000 in
theorem partsOf_any (w0 : World) (c : Nd) (hc : Bd c) : PartsE 138 parts w0 c := by
  intro ys W hys hb0
  have hB := below_exprs w0
  obtain ⟨c0, c1, c2, c3, c4, c5, c6, c7, a8, n8, p8, a9, n9, p9, rfl, -⟩ := hys.ten
  have H := RowAt.new W 34 #[.int .i64 c0, .int .i64 c1, .bool c2, .int .i64 c3, .int .i64 c4, .string c5, .string c6, .string c7, .slice a8 n8 p8, .slice a9 n9 p9]
  have hal : Below W.heap.size W (W.alloc (.cells #[.int .i64 c0, .int .i64 c1, .bool c2, .int .i64 c3, .int .i64 c4, .string c5, .string c6, .string c7, .slice a8 n8 p8, .slice a9 n9 p9] 34)) := (Below.refl _ _).alloc (Nat.le_refl _) _
  have x0 := H.cell (i := 0) (v := .int .i64 c0) rfl
  have x1 := H.cell (i := 1) (v := .int .i64 c1) rfl
  have x2 := H.cell (i := 2) (v := .bool c2) rfl
  have x3 := H.cell (i := 3) (v := .int .i64 c3) rfl
  have x4 := H.cell (i := 4) (v := .int .i64 c4) rfl
  have x5 := H.cell (i := 5) (v := .string c5) rfl
  have x6 := H.cell (i := 6) (v := .string c6) rfl
  have x7 := H.cell (i := 7) (v := .string c7) rfl
  have x8 := H.cell (i := 8) (v := .slice a8 n8 p8) rfl
  have x9 := H.cell (i := 9) (v := .slice a9 n9 p9) rfl
  go_enter Try.func138, Try.ntmps138
  go_wp2_with fail
  generalize W.alloc (.cells #[.int .i64 c0, .int .i64 c1, .bool c2, .int .i64 c3, .int .i64 c4, .string c5, .string c6, .string c7, .slice a8 n8 p8, .slice a9 n9 p9] 34) = w1 at H hal ⊢
  have hb1 := hb0.trans (hal.mono hb0.size)
  refine (hB w1 c _ hys hb1 hc).mono ?_
  rintro e w2 ⟨v, rfl, hp, hb⟩
  have hb2 := hal.trans (hb.mono hal.size)
  go_wp2_with fail
  go_ret
  refine ⟨v, rfl, (hp.lk (hb1.trans (hb.mono hb1.size))).keep (Nat.le_refl _) (fun _ _ _ => rfl) (fun g hg _ => hg.imp id fun h => by have := hal.size; omega), hb2⟩
theorem pre_hd (d : Nat) (c : Nd) : ∃ l, pre d c = (d, c) :: l := by
  unfold pre foldE
  exact ⟨_, by show (0 + d, c) :: _ = _; rw [Nat.zero_add]⟩
theorem visitsE_any (v pf : Value) (hv : ∃ a n p, v = .slice a n p) (hp : ∃ g, pf = .func (.func g) #[] #[]) (W : World) :
    Calls Try.prog 137 #[v, pf] W fun e w' => e = .returned (.func (.func VE) #[] #[.pointer (some ⟨W.heap.size, 0, none⟩), .pointer (some ⟨W.heap.size + 1, 0, none⟩)]) ∧
      w' = (W.alloc (.cells #[v] 31)).alloc (.cells #[pf] 157) := by
  obtain ⟨a, n, p, rfl⟩ := hv
  obtain ⟨g, rfl⟩ := hp
  go_enter Try.func137, Try.ntmps137
  go_wp2_with fail
  go_ret
  exact ⟨rfl, rfl⟩
set_option maxRecDepth 100000 in
set_option maxHeartbeats 4000000 in
theorem deepest_any (w0 W : World) (L : List Nd) (v : Value) (hb0 : Below w0.heap.size w0 W) (hv : LK exprTy w0 W (fun _ => True) v L) (hL : ∀ c ∈ L, Bd c) (hlen : (L.flatMap (pre 1)).length ≤ 2000000) :
    Calls Try.prog 97 #[v] W fun e w' => e = .returned (.int .i64 ((mx (L.flatMap (pre 1)) : Nat) : Int)) ∧ Below W.heap.size W w' := by
  obtain ⟨a0, cap, rfl⟩ := hv.slice
  have hz := hb0.size
  generalize hxs : L.flatMap (pre 1) = xs at hlen ⊢
  have HB : ∀ d c, (d, c) ∈ xs → Bd c := fun d c h => by
    rw [← hxs, List.mem_flatMap] at h
    obtain ⟨c', hc', h⟩ := h
    exact (hL c' hc').pre 1 _ h
  refine (callsIn_wide (n := 5)).1 ?_
  refine callsIn_of_wp_marks Try.func97 rfl trivial ?_ rfl
  simp only [Try.ntmps97, List.size_toArray, List.length_cons, List.length_nil, Nat.reduceAdd, Nat.reduceSub, Array.replicate_succ, Array.replicate_zero, List.push_toArray, List.append_toArray, List.nil_append, List.cons_append]
  have H0 := RowAt.new W 3 #[.int .i64 0]
  have B0 : Below W.heap.size W (W.alloc (.cells #[.int .i64 0] 3)) := (Below.refl _ _).alloc (Nat.le_refl _) _
  have s0 : (W.alloc (.cells #[.int .i64 0] 3)).heap.size = W.heap.size + 1 := by simp
  gi_wp2
  generalize W.alloc (.cells #[.int .i64 0] 3) = w1 at *
  refine ⟨trivial, (callsIn_wide.2 (visitsE_any _ _ ⟨_, _, _, rfl⟩ ⟨_, rfl⟩ w1)).mono ?_⟩
  rintro e w3 ⟨rfl, hw3⟩
  have k1 : w3.cell? ⟨w1.heap.size, 0, none⟩ = some (.slice a0 L.length cap) := by rw [hw3]; exact ((RowAt.new w1 31 #[.slice a0 L.length cap]).alloc _).cell (i := 0) rfl
  have k2 : w3.cell? ⟨w1.heap.size + 1, 0, none⟩ = some (.func (.func 138) #[] #[]) := by
    have h := (RowAt.new (w1.alloc (.cells #[.slice a0 L.length cap] 31)) 157 #[.func (.func 138) #[] #[]]).cell (i := 0) rfl
    rw [World.size_alloc] at h
    rw [hw3]; exact h
  have b3 : Below w1.heap.size w1 w3 := by rw [hw3]; exact ((Below.refl _ _).alloc (Nat.le_refl _) _).alloc (by simp) _
  have s3 : w3.heap.size = W.heap.size + 3 := by rw [hw3]; simp [s0]
  clear hw3
  have H3 := H0.later b3
  have B3 : Below W.heap.size W w3 := B0.trans (b3.mono (by omega))
  rw [s0] at k1 k2
  gi_wp2
  refine wpIn_rangeV (α := Nat × Nd) rfl (by decide) (gf := VE) (lb := #[.pointer (some ⟨W.heap.size + 1, 0, none⟩), .pointer (some ⟨W.heap.size + 1 + 1, 0, none⟩)]) rfl trivial (enters_of Try.func211 (by kernel_rfl) rfl)
    (visE_any pre parts (fun _ => True) w0 w3 L _ _ _ (fun k => k = W.heap.size) xs _ hxs.symm hlen (hb0.trans (B3.mono hz)) (fun k hk => ⟨by omega, by omega⟩) k1 k2 (by omega)
      (hv.keep B3.size (fun g _ hlt => B3.block g hlt) fun g _ hlt => by omega) (fun d c h _ => partsOf_any w0 c (HB d c h)) pre_hd (fun d c h _ => pre_eq d (HB d c h).f8 (HB d c h).f9))
    (fun k hk => by omega) (fun x v h => by obtain ⟨ys, _, rfl⟩ := h; rfl)
    (fun i Wr => RowAt Wr W.heap.size 3 #[.int .i64 ((mx (xs.take i) : Nat) : Int)] ∧ Below W.heap.size W Wr) (fun _ _ _ => False)
    (fun i A B h hb => ⟨(hb.block _ (by omega)).trans h.1, h.2.trans (hb.mono (by omega))⟩) (fun _ _ _ _ h _ => h) ⟨H3, B3⟩
    (fun x a _ => ∃ ys : List Value, a = { tmps := #[.slice a0 L.length cap, undef, .int .i64 0, .pointer (some ⟨W.heap.size, 0, none⟩), .int .i64 (x.1 : Int), .slice a0 L.length cap, .func (.func VE) #[] #[.pointer (some ⟨W.heap.size + 1, 0, none⟩), .pointer (some ⟨W.heap.size + 1 + 1, 0, none⟩)], .int .i64 (x.1 : Int), .agg ys.toArray, undef, undef, undef, undef], defers := [] }) (fun x a A B h _ => h) ?assign ?body ?done ?stop
  case assign =>
    rintro l x v W1 K ⟨ys, hys, rfl⟩ _ hK
    gi_wp2
    exact hK _ _ ⟨ys, rfl⟩ (Below.refl _ _)
  case body =>
    rintro l i ⟨d, c⟩ a1 W1 hx ⟨hI, hB⟩ hsz ⟨ys, rfl⟩
    have x0 := hI.cell (i := 0) (v := .int .i64 ((mx (xs.take i) : Nat) : Int)) rfl
    have x1 := hI.soft 0
    have hm : mx (xs.take (i + 1)) = max (mx (xs.take i)) d := by
      rw [take_next hx, mx_append]
      congr 1
      show max d 0 = d
      omega
    generalize mx (xs.take i) = m at *
    have hI2 : ∀ u, RowAt (W1.setCell ⟨W.heap.size, 0, none⟩ u) W.heap.size 3 #[u] := fun u => hI.set 0 u
    gi_wp2
    all_goals refine ⟨But.setCell _ ⟨W.heap.size, 0, none⟩ _ rfl, trivial, ?_, hB.setCell (p := ⟨W.heap.size, 0, none⟩) (Nat.le_refl _) _⟩
    all_goals rw [hm]
    all_goals first | (rw [show max m d = m by omega]; exact hI2 _) | (rw [show max m d = d by omega]; exact hI2 _)
  case done =>
    rintro D W1 hD ⟨hI, hB⟩ hK
    rw [List.take_length] at hI
    have x0 := hI.cell (i := 0) (v := .int .i64 ((mx xs : Nat) : Int)) rfl
    gi_wp2
    refine ⟨by simp, .inl ⟨_, _, rfl, run_takeDeferred hK, ?_⟩⟩
    exact ⟨_, results_tmp rfl _ _ _, rfl, hB.trans (below_put _ _ _ (by omega))⟩
  case stop => exact fun _ _ _ _ _ _ h _ => h.elim
set_option maxRecDepth 100000 in
set_option maxHeartbeats 4000000 in
theorem total_any (w0 W : World) (L : List Nd) (v : Value) (hb0 : Below w0.heap.size w0 W) (hv : LK exprTy w0 W (fun _ => True) v L) (hL : ∀ c ∈ L, Bd c) (hlen : (L.flatMap (pre 1)).length ≤ 2000000) :
    Calls Try.prog 98 #[v] W fun e w' => e = .returned (.int .i64 (((L.flatMap (pre 1)).length : Nat) : Int)) ∧ Below W.heap.size W w' := by
  obtain ⟨a0, cap, rfl⟩ := hv.slice
  have hz := hb0.size
  generalize hxs : L.flatMap (pre 1) = xs at hlen ⊢
  have HB : ∀ d c, (d, c) ∈ xs → Bd c := fun d c h => by
    rw [← hxs, List.mem_flatMap] at h
    obtain ⟨c', hc', h⟩ := h
    exact (hL c' hc').pre 1 _ h
  refine (callsIn_wide (n := 5)).1 ?_
  refine callsIn_of_wp_marks Try.func98 rfl trivial ?_ rfl
  simp only [Try.ntmps98, List.size_toArray, List.length_cons, List.length_nil, Nat.reduceAdd, Nat.reduceSub, Array.replicate_succ, Array.replicate_zero, List.push_toArray, List.append_toArray, List.nil_append, List.cons_append]
  have H0 := RowAt.new W 3 #[.int .i64 0]
  have B0 : Below W.heap.size W (W.alloc (.cells #[.int .i64 0] 3)) := (Below.refl _ _).alloc (Nat.le_refl _) _
  have s0 : (W.alloc (.cells #[.int .i64 0] 3)).heap.size = W.heap.size + 1 := by simp
  gi_wp2
  generalize W.alloc (.cells #[.int .i64 0] 3) = w1 at *
  refine ⟨trivial, (callsIn_wide.2 (visitsE_any _ _ ⟨_, _, _, rfl⟩ ⟨_, rfl⟩ w1)).mono ?_⟩
  rintro e w3 ⟨rfl, hw3⟩
  have k1 : w3.cell? ⟨w1.heap.size, 0, none⟩ = some (.slice a0 L.length cap) := by rw [hw3]; exact ((RowAt.new w1 31 #[.slice a0 L.length cap]).alloc _).cell (i := 0) rfl
  have k2 : w3.cell? ⟨w1.heap.size + 1, 0, none⟩ = some (.func (.func 138) #[] #[]) := by
    have h := (RowAt.new (w1.alloc (.cells #[.slice a0 L.length cap] 31)) 157 #[.func (.func 138) #[] #[]]).cell (i := 0) rfl
    rw [World.size_alloc] at h
    rw [hw3]; exact h
  have b3 : Below w1.heap.size w1 w3 := by rw [hw3]; exact ((Below.refl _ _).alloc (Nat.le_refl _) _).alloc (by simp) _
  have s3 : w3.heap.size = W.heap.size + 3 := by rw [hw3]; simp [s0]
  clear hw3
  have H3 := H0.later b3
  have B3 : Below W.heap.size W w3 := B0.trans (b3.mono (by omega))
  rw [s0] at k1 k2
  gi_wp2
  refine wpIn_rangeV (α := Nat × Nd) rfl (by decide) (gf := VE) (lb := #[.pointer (some ⟨W.heap.size + 1, 0, none⟩), .pointer (some ⟨W.heap.size + 1 + 1, 0, none⟩)]) rfl trivial (enters_of Try.func211 (by kernel_rfl) rfl)
    (visE_any pre parts (fun _ => True) w0 w3 L _ _ _ (fun k => k = W.heap.size) xs _ hxs.symm hlen (hb0.trans (B3.mono hz)) (fun k hk => ⟨by omega, by omega⟩) k1 k2 (by omega)
      (hv.keep B3.size (fun g _ hlt => B3.block g hlt) fun g _ hlt => by omega) (fun d c h _ => partsOf_any w0 c (HB d c h)) pre_hd (fun d c h _ => pre_eq d (HB d c h).f8 (HB d c h).f9))
    (fun k hk => by omega) (fun x v h => by obtain ⟨ys, _, rfl⟩ := h; rfl)
    (fun i Wr => RowAt Wr W.heap.size 3 #[.int .i64 ((i : Nat) : Int)] ∧ Below W.heap.size W Wr) (fun _ _ _ => False)
    (fun i A B h hb => ⟨(hb.block _ (by omega)).trans h.1, h.2.trans (hb.mono (by omega))⟩) (fun _ _ _ _ h _ => h) ⟨H3, B3⟩
    (fun x a _ => ∃ ys : List Value, a = { tmps := #[.slice a0 L.length cap, undef, .int .i64 0, .pointer (some ⟨W.heap.size, 0, none⟩), .slice a0 L.length cap, .func (.func VE) #[] #[.pointer (some ⟨W.heap.size + 1, 0, none⟩), .pointer (some ⟨W.heap.size + 1 + 1, 0, none⟩)], .int .i64 (x.1 : Int), .agg ys.toArray, undef, undef, undef], defers := [] }) (fun x a A B h _ => h) ?assign ?body ?done ?stop
  case assign =>
    rintro l x v W1 K ⟨ys, hys, rfl⟩ _ hK
    gi_wp2
    exact hK _ _ ⟨ys, by simp⟩ (Below.refl _ _)
  case body =>
    rintro l i ⟨d, c⟩ a1 W1 hx ⟨hI, hB⟩ hsz ⟨ys, rfl⟩
    have x0 := hI.cell (i := 0) (v := .int .i64 ((i : Nat) : Int)) rfl
    have x1 := hI.soft 0
    have hil : i < xs.length := (List.getElem?_eq_some_iff.1 hx).1
    have hI2 : ∀ u, RowAt (W1.setCell ⟨W.heap.size, 0, none⟩ u) W.heap.size 3 #[u] := fun u => hI.set 0 u
    gi_wp2
    exact ⟨But.setCell _ ⟨W.heap.size, 0, none⟩ _ rfl, trivial, hI2 _, hB.setCell (p := ⟨W.heap.size, 0, none⟩) (Nat.le_refl _) _⟩
  case done =>
    rintro D W1 hD ⟨hI, hB⟩ hK
    have x0 := hI.cell (i := 0) (v := .int .i64 ((xs.length : Nat) : Int)) rfl
    gi_wp2
    refine ⟨by simp, .inl ⟨_, _, rfl, run_takeDeferred hK, ?_⟩⟩
    exact ⟨_, results_tmp rfl _ _ _, rfl, hB.trans (below_put _ _ _ (by omega))⟩
  case stop => exact fun _ _ _ _ _ _ h _ => h.elim
end Go.Proofs.Ytbbfanhhldbhhaa

/- The program's DepthOf, SizeOf, QueryDepth and QuerySize, as the laws take them. -/
namespace Go.Proofs.Ytbbfanhhldbhhaa
open Go.RowKit

/-- an expression as the contracts take it -/
def ndOf (c0 c1 : Int) (c2 : Bool) (c3 c4 : Int) (c5 c6 c7 : ByteArray) (c : Nd) : Nd := fun j => match j with
  | 0 => .v (.int .i64 c0) | 1 => .v (.int .i64 c1) | 2 => .v (.bool c2) | 3 => .v (.int .i64 c3) | 4 => .v (.int .i64 c4) | 5 => .v (.string c5) | 6 => .v (.string c6) | 7 => .v (.string c7) | j => c j
theorem ndOf_out {c0 c1 : Int} {c2 : Bool} {c3 c4 : Int} {c5 c6 c7 : ByteArray} {c : Nd} {x8 x9 : Value} {w : World} (b0 : I64 c0) (b1 : I64 c1) (b3 : I64 c3) (b4 : I64 c4) (b5 : c5.size ≤ 9223372036854775807) (b6 : c6.size ≤ 9223372036854775807) (b7 : c7.size ≤ 9223372036854775807)
    (r8 : Rd w 0 x8 (c 8)) (q8 : Fits (c 8) .exprs) (r9 : Rd w 0 x9 (c 9)) (q9 : Fits (c 9) .queries) :
    OutP w [.int .i64 c0, .int .i64 c1, .bool c2, .int .i64 c3, .int .i64 c4, .string c5, .string c6, .string c7, x8, x9] [ndOf c0 c1 c2 c3 c4 c5 c6 c7 c] := OutP.one rfl (fun m hm => match m, hm with
  | 0, _ => ⟨_, rfl, rfl, ⟨_, rfl, b0⟩⟩
  | 1, _ => ⟨_, rfl, rfl, ⟨_, rfl, b1⟩⟩
  | 2, _ => ⟨_, rfl, rfl, ⟨_, rfl⟩⟩
  | 3, _ => ⟨_, rfl, rfl, ⟨_, rfl, b3⟩⟩
  | 4, _ => ⟨_, rfl, rfl, ⟨_, rfl, b4⟩⟩
  | 5, _ => ⟨_, rfl, rfl, ⟨_, rfl, b5⟩⟩
  | 6, _ => ⟨_, rfl, rfl, ⟨_, rfl, b6⟩⟩
  | 7, _ => ⟨_, rfl, rfl, ⟨_, rfl, b7⟩⟩
  | 8, _ => ⟨_, rfl, r8, q8⟩
  | 9, _ => ⟨_, rfl, r9, q9⟩
  | m + 10, hm => absurd hm (by simp [exprTy]))

theorem mem_exprsOf_bd {d : Dat} {ty : Ty} {M : Nat} (hf : Fits d ty) (hm : msr d ≤ M) (hM : M ≤ 1048576) (nd : Nd) (p : Nat × Nd) (hp : p ∈ fold preA d ty) (he : p.2 = nd) : Bd nd := by
  obtain ⟨a, b, c, e⟩ := pre_bd d ty hf p hp
  subst he
  exact ⟨by omega, by omega, c, e⟩
theorem queryBd {c : Nd} (q1 : Fits (c 1) .items) (q2 : Fits (c 2) .sources) (q3 : Fits (c 3) .exprs) (q4 : Fits (c 4) .keys) (m1 : msr (c 1) ≤ 1048576) (m2 : msr (c 2) ≤ 1048576) (m3 : msr (c 3) ≤ 1048576) (m4 : msr (c 4) ≤ 1048576) : ∀ nd ∈ exprsOf c, Bd nd := by
  intro nd hnd
  have hq : foldQ preA c = (exprsOf c).flatMap (foldE preA) := by
    rw [foldQ_is preA_good q1 q2 q3 q4, preA_of]; rfl
  have h0 : (0, nd) ∈ foldQ preA c := by
    rw [hq, List.mem_flatMap]
    exact ⟨nd, hnd, by unfold foldE; exact List.mem_cons_self ..⟩
  unfold foldQ at h0
  simp only [preA, List.mem_append] at h0
  rcases h0 with ((h | h) | h) | h
  · exact mem_exprsOf_bd q1 (Nat.le_refl _) m1 nd _ h rfl
  · exact mem_exprsOf_bd q2 (Nat.le_refl _) m2 nd _ h rfl
  · exact mem_exprsOf_bd q3 (Nat.le_refl _) m3 nd _ h rfl
  · exact mem_exprsOf_bd q4 (Nat.le_refl _) m4 nd _ h rfl
set_option maxRecDepth 100000 in
set_option maxHeartbeats 2000000 in
theorem DepthOf_impl : ∀ c : Nat → Dat, msr (c 8) + msr (c 9) ≤ 1048576 → Fits (c 8) .exprs → Fits (c 9) .queries → DepthOfI c := by
  intro c hm _ _ c0 c1 c2 c3 c4 c5 c6 c7 x8 x9 W b0 b1 b3 b4 b5 b6 b7 r8 q8 r9 q9
  have hout := ndOf_out (c2 := c2) b0 b1 b3 b4 b5 b6 b7 r8 q8 r9 q9
  have hbd : Bd (ndOf c0 c1 c2 c3 c4 c5 c6 c7 c) := ⟨by show msr (c 8) ≤ _; omega, by show msr (c 9) ≤ _; omega, q8, q9⟩
  have hfold : foldE depA (ndOf c0 c1 c2 c3 c4 c5 c6 c7 c) = foldE depA c := rfl
  have hsz : foldE sizA (ndOf c0 c1 c2 c3 c4 c5 c6 c7 c) ≤ 1048577 := by
    have g8 := siz_le (c 8) _ q8
    have g9 := siz_le (c 9) _ q9
    show (fold sizA (c 8) .exprs + fold sizA (c 9) .queries) + 1 ≤ _
    omega
  obtain ⟨a8, n8, p8, rfl⟩ := r8.slice_of q8 rfl
  obtain ⟨a9, n9, p9, rfl⟩ := r9.slice_of q9 rfl
  have HB := BX.new W 34 #[.int .i64 c0, .int .i64 c1, .bool c2, .int .i64 c3, .int .i64 c4, .string c5, .string c6, .string c7, .slice a8 n8 p8, .slice a9 n9 p9]
  rw [← hfold]
  generalize ndOf c0 c1 c2 c3 c4 c5 c6 c7 c = nd at hout hbd hsz ⊢
  have x0 := HB.box.cell (i := 0) (v := .int .i64 c0) rfl
  have x1 := HB.box.cell (i := 1) (v := .int .i64 c1) rfl
  have x2 := HB.box.cell (i := 2) (v := .bool c2) rfl
  have x3 := HB.box.cell (i := 3) (v := .int .i64 c3) rfl
  have x4 := HB.box.cell (i := 4) (v := .int .i64 c4) rfl
  have x5 := HB.box.cell (i := 5) (v := .string c5) rfl
  have x6 := HB.box.cell (i := 6) (v := .string c6) rfl
  have x7 := HB.box.cell (i := 7) (v := .string c7) rfl
  have x8 := HB.box.cell (i := 8) (v := .slice a8 n8 p8) rfl
  have x9 := HB.box.cell (i := 9) (v := .slice a9 n9 p9) rfl
  go_enter Try.func34, Try.ntmps34
  have s1 : (W.alloc (.cells #[.int .i64 c0, .int .i64 c1, .bool c2, .int .i64 c3, .int .i64 c4, .string c5, .string c6, .string c7, .slice a8 n8 p8, .slice a9 n9 p9] 34)).heap.size = W.heap.size + 1 := by simp
  go_wp2_with fail
  generalize W.alloc (.cells #[.int .i64 c0, .int .i64 c1, .bool c2, .int .i64 c3, .int .i64 c4, .string c5, .string c6, .string c7, .slice a8 n8 p8, .slice a9 n9 p9] 34) = w1 at HB s1 ⊢
  have h2 := RowAt.new w1 34 #[.int .i64 c0, .int .i64 c1, .bool c2, .int .i64 c3, .int .i64 c4, .string c5, .string c6, .string c7, .slice a8 n8 p8, .slice a9 n9 p9]
  have hal : Below w1.heap.size w1 (w1.alloc (.cells #[.int .i64 c0, .int .i64 c1, .bool c2, .int .i64 c3, .int .i64 c4, .string c5, .string c6, .string c7, .slice a8 n8 p8, .slice a9 n9 p9] 34)) := (Below.refl _ _).alloc (Nat.le_refl _) _
  rw [s1] at h2
  generalize w1.alloc (.cells #[.int .i64 c0, .int .i64 c1, .bool c2, .int .i64 c3, .int .i64 c4, .string c5, .string c6, .string c7, .slice a8 n8 p8, .slice a9 n9 p9] 34) = w2 at h2 hal ⊢
  have hB2 := HB.b.trans (hal.mono HB.b.size)
  have hlk : LK exprTy W w2 (fun _ => True) (.slice (some ⟨W.heap.size + 1, 0, none⟩) 1 1) [nd] :=
    ⟨_, 1, _, rfl, hout, .inr ⟨W.heap.size + 1, 0, rfl, Nat.le_refl _, trivial, h2.lt, fun j u hj => by rw [Nat.zero_add]; exact h2.cell (by simpa using hj)⟩⟩
  have hlen : ([nd].flatMap (pre 1)).length ≤ 2000000 := by
    rw [len_flat]
    show sizA.of [foldE sizA nd] ≤ _
    rw [sizA_good.of_cons]
    show _ + 0 ≤ _
    omega
  refine (deepest_any W w2 [nd] _ hB2 hlk (fun c hc => by rw [List.mem_singleton.1 hc]; exact hbd) hlen).mono ?_
  rintro e w3 ⟨rfl, hb3⟩
  have hval : mx ([nd].flatMap (pre 1)) = foldE depA nd := by
    rw [mx_flat]; show depA.of [foldE depA nd] = _; rw [depA_good.of_cons]; show max _ 0 = _; omega
  rw [hval]
  have hfb := hB2.trans (hb3.mono hB2.size)
  clear x0 x1 x2 x3 x4 x5 x6 x7 x8 x9
  go_wp2_with fail
  go_ret
  exact ⟨rfl, hfb⟩
set_option maxRecDepth 100000 in
set_option maxHeartbeats 2000000 in
theorem SizeOf_impl : ∀ c : Nat → Dat, msr (c 8) + msr (c 9) ≤ 1048576 → Fits (c 8) .exprs → Fits (c 9) .queries → SizeOfI c := by
  intro c hm _ _ c0 c1 c2 c3 c4 c5 c6 c7 x8 x9 W b0 b1 b3 b4 b5 b6 b7 r8 q8 r9 q9
  have hout := ndOf_out (c2 := c2) b0 b1 b3 b4 b5 b6 b7 r8 q8 r9 q9
  have hbd : Bd (ndOf c0 c1 c2 c3 c4 c5 c6 c7 c) := ⟨by show msr (c 8) ≤ _; omega, by show msr (c 9) ≤ _; omega, q8, q9⟩
  have hfold : foldE sizA (ndOf c0 c1 c2 c3 c4 c5 c6 c7 c) = foldE sizA c := rfl
  have hsz : foldE sizA (ndOf c0 c1 c2 c3 c4 c5 c6 c7 c) ≤ 1048577 := by
    have g8 := siz_le (c 8) _ q8
    have g9 := siz_le (c 9) _ q9
    show (fold sizA (c 8) .exprs + fold sizA (c 9) .queries) + 1 ≤ _
    omega
  obtain ⟨a8, n8, p8, rfl⟩ := r8.slice_of q8 rfl
  obtain ⟨a9, n9, p9, rfl⟩ := r9.slice_of q9 rfl
  have HB := BX.new W 34 #[.int .i64 c0, .int .i64 c1, .bool c2, .int .i64 c3, .int .i64 c4, .string c5, .string c6, .string c7, .slice a8 n8 p8, .slice a9 n9 p9]
  rw [← hfold]
  generalize ndOf c0 c1 c2 c3 c4 c5 c6 c7 c = nd at hout hbd hsz ⊢
  have x0 := HB.box.cell (i := 0) (v := .int .i64 c0) rfl
  have x1 := HB.box.cell (i := 1) (v := .int .i64 c1) rfl
  have x2 := HB.box.cell (i := 2) (v := .bool c2) rfl
  have x3 := HB.box.cell (i := 3) (v := .int .i64 c3) rfl
  have x4 := HB.box.cell (i := 4) (v := .int .i64 c4) rfl
  have x5 := HB.box.cell (i := 5) (v := .string c5) rfl
  have x6 := HB.box.cell (i := 6) (v := .string c6) rfl
  have x7 := HB.box.cell (i := 7) (v := .string c7) rfl
  have x8 := HB.box.cell (i := 8) (v := .slice a8 n8 p8) rfl
  have x9 := HB.box.cell (i := 9) (v := .slice a9 n9 p9) rfl
  go_enter Try.func35, Try.ntmps35
  have s1 : (W.alloc (.cells #[.int .i64 c0, .int .i64 c1, .bool c2, .int .i64 c3, .int .i64 c4, .string c5, .string c6, .string c7, .slice a8 n8 p8, .slice a9 n9 p9] 34)).heap.size = W.heap.size + 1 := by simp
  go_wp2_with fail
  generalize W.alloc (.cells #[.int .i64 c0, .int .i64 c1, .bool c2, .int .i64 c3, .int .i64 c4, .string c5, .string c6, .string c7, .slice a8 n8 p8, .slice a9 n9 p9] 34) = w1 at HB s1 ⊢
  have h2 := RowAt.new w1 34 #[.int .i64 c0, .int .i64 c1, .bool c2, .int .i64 c3, .int .i64 c4, .string c5, .string c6, .string c7, .slice a8 n8 p8, .slice a9 n9 p9]
  have hal : Below w1.heap.size w1 (w1.alloc (.cells #[.int .i64 c0, .int .i64 c1, .bool c2, .int .i64 c3, .int .i64 c4, .string c5, .string c6, .string c7, .slice a8 n8 p8, .slice a9 n9 p9] 34)) := (Below.refl _ _).alloc (Nat.le_refl _) _
  rw [s1] at h2
  generalize w1.alloc (.cells #[.int .i64 c0, .int .i64 c1, .bool c2, .int .i64 c3, .int .i64 c4, .string c5, .string c6, .string c7, .slice a8 n8 p8, .slice a9 n9 p9] 34) = w2 at h2 hal ⊢
  have hB2 := HB.b.trans (hal.mono HB.b.size)
  have hlk : LK exprTy W w2 (fun _ => True) (.slice (some ⟨W.heap.size + 1, 0, none⟩) 1 1) [nd] :=
    ⟨_, 1, _, rfl, hout, .inr ⟨W.heap.size + 1, 0, rfl, Nat.le_refl _, trivial, h2.lt, fun j u hj => by rw [Nat.zero_add]; exact h2.cell (by simpa using hj)⟩⟩
  have hlen : ([nd].flatMap (pre 1)).length ≤ 2000000 := by
    rw [len_flat]
    show sizA.of [foldE sizA nd] ≤ _
    rw [sizA_good.of_cons]
    show _ + 0 ≤ _
    omega
  refine (total_any W w2 [nd] _ hB2 hlk (fun c hc => by rw [List.mem_singleton.1 hc]; exact hbd) hlen).mono ?_
  rintro e w3 ⟨rfl, hb3⟩
  have hval : ([nd].flatMap (pre 1)).length = foldE sizA nd := by
    rw [len_flat]; show sizA.of [foldE sizA nd] = _; rw [sizA_good.of_cons]; rfl
  rw [hval]
  have hfb := hB2.trans (hb3.mono hB2.size)
  clear x0 x1 x2 x3 x4 x5 x6 x7 x8 x9
  go_wp2_with fail
  go_ret
  exact ⟨rfl, hfb⟩
set_option maxRecDepth 100000 in
set_option maxHeartbeats 2000000 in
theorem QueryDepth_impl : ∀ c : Nat → Dat, msr (c 1) + msr (c 2) + msr (c 3) + msr (c 4) ≤ 1048576 → Fits (c 1) .items → Fits (c 2) .sources → Fits (c 3) .exprs → Fits (c 4) .keys → QueryDepthI c := by
  intro c hm _ _ _ _ c0 x1 x2 x3 x4 c5 W b5 r1 q1 r2 q2 r3 q3 r4 q4
  have hbd : ∀ nd ∈ exprsOf c, Bd nd := queryBd q1 q2 q3 q4 (by omega) (by omega) (by omega) (by omega)
  have hsz : foldQ sizA c ≤ 1048576 := by
    have g1 := siz_le (c 1) _ q1
    have g2 := siz_le (c 2) _ q2
    have g3 := siz_le (c 3) _ q3
    have g4 := siz_le (c 4) _ q4
    show _ + _ + _ + _ ≤ _
    omega
  have hfq := foldQ_is depA_good q1 q2 q3 q4
  have hfs := foldQ_is sizA_good q1 q2 q3 q4
  rw [hfq]
  rw [hfs] at hsz
  clear hfq hfs
  obtain ⟨a1, n1, p1, rfl⟩ := r1.slice_of q1 rfl
  obtain ⟨a2, n2, p2, rfl⟩ := r2.slice_of q2 rfl
  obtain ⟨a3, n3, p3, rfl⟩ := r3.slice_of q3 rfl
  obtain ⟨a4, n4, p4, rfl⟩ := r4.slice_of q4 rfl
  obtain ⟨h1, E1, r1, q1⟩ := r1.openS q1 rfl
  obtain ⟨h2, E2, r2, q2⟩ := r2.openS q2 rfl
  obtain ⟨h3, E3, r3, q3⟩ := r3.openS q3 rfl
  obtain ⟨h4, E4, r4, q4⟩ := r4.openS q4 rfl
  have hN : n1 + (exFrom (.sl n2 3 h2)).length + n3 + n4 ≤ 1048576 := by
    rw [E1, E2, E3, E4] at hm
    replace hm : msr (.sl n1 13 h1) + msr (.sl n2 3 h2) + msr (.sl n3 10 h3) + msr (.sl n4 11 h4) ≤ 1048576 := hm
    have k1 := msr_n n1 13 h1
    have k2 := exFrom_msr q2
    have k3 := msr_n n3 10 h3
    have k4 := msr_n n4 11 h4
    omega
  have hex : exprsOf c = ((exItems (.sl n1 13 h1) ++ exFrom (.sl n2 3 h2)) ++ (Dat.sl n3 10 h3).els) ++ (Dat.sl n4 11 h4).els := by
    unfold exprsOf
    rw [E1, E2, E3, E4]
    rfl
  have HB := BX.new W 49 #[.bool c0, .slice a1 n1 p1, .slice a2 n2 p2, .slice a3 n3 p3, .slice a4 n4 p4, .int .i64 c5]
  have hcall := exprsIn_any W (W.alloc (.cells #[.bool c0, .slice a1 n1 p1, .slice a2 n2 p2, .slice a3 n3 p3, .slice a4 n4 p4, .int .i64 c5] 49)) c0 a1 n1 p1 a2 n2 p2 a3 n3 p3 a4 n4 p4 c5 h1 h2 h3 h4 HB.b r1 q1 r2 q2 r3 q3 r4 q4 hN
  rw [← hex] at hcall
  clear E1 E2 E3 E4 r1 r2 r3 r4 q1 q2 q3 q4 hN hm hex
  generalize exprsOf c = L at *
  have x0 := HB.box.cell (i := 0) (v := .bool c0) rfl
  have x1 := HB.box.cell (i := 1) (v := .slice a1 n1 p1) rfl
  have x2 := HB.box.cell (i := 2) (v := .slice a2 n2 p2) rfl
  have x3 := HB.box.cell (i := 3) (v := .slice a3 n3 p3) rfl
  have x4 := HB.box.cell (i := 4) (v := .slice a4 n4 p4) rfl
  have x5 := HB.box.cell (i := 5) (v := .int .i64 c5) rfl
  go_enter Try.func36, Try.ntmps36
  go_wp2_with fail
  refine hcall.mono ?_
  clear hcall x0 x1 x2 x3 x4 x5
  rintro e w2 ⟨v, rfl, ho, hb2⟩
  have hB2 := HB.b.trans (hb2.mono HB.b.size)
  have hlk : LK exprTy W w2 (fun _ => True) v L := ho.lk fun _ _ _ => trivial
  have hlen : (L.flatMap (pre 1)).length ≤ 2000000 := by rw [len_flat]; show sizA.of _ ≤ _; have : sizA.of (L.map (foldE sizA)) ≤ 1048576 := hsz; omega
  obtain ⟨vv, hvv⟩ : ∃ vv, vv = v := ⟨_, rfl⟩
  rw [← hvv] at hlk ⊢
  clear hvv
  have hD := deepest_any W w2 L vv hB2 hlk hbd hlen
  go_wp2_with fail
  refine hD.mono ?_
  clear hD
  rintro e w3 ⟨rfl, hb3⟩
  have hval : mx (L.flatMap (pre 1)) = depA.qn c (depA.of (L.map (foldE depA))) := by
    rw [mx_flat]; rfl
  rw [hval]
  have hfb := hB2.trans (hb3.mono hB2.size)
  go_wp2_with fail
  go_ret
  exact ⟨rfl, hfb⟩
set_option maxRecDepth 100000 in
set_option maxHeartbeats 2000000 in
theorem QuerySize_impl : ∀ c : Nat → Dat, msr (c 1) + msr (c 2) + msr (c 3) + msr (c 4) ≤ 1048576 → Fits (c 1) .items → Fits (c 2) .sources → Fits (c 3) .exprs → Fits (c 4) .keys → QuerySizeI c := by
  intro c hm _ _ _ _ c0 x1 x2 x3 x4 c5 W b5 r1 q1 r2 q2 r3 q3 r4 q4
  have hbd : ∀ nd ∈ exprsOf c, Bd nd := queryBd q1 q2 q3 q4 (by omega) (by omega) (by omega) (by omega)
  have hsz : foldQ sizA c ≤ 1048576 := by
    have g1 := siz_le (c 1) _ q1
    have g2 := siz_le (c 2) _ q2
    have g3 := siz_le (c 3) _ q3
    have g4 := siz_le (c 4) _ q4
    show _ + _ + _ + _ ≤ _
    omega
  have hfq := foldQ_is sizA_good q1 q2 q3 q4
  have hfs := foldQ_is sizA_good q1 q2 q3 q4
  rw [hfq]
  rw [hfs] at hsz
  clear hfq hfs
  obtain ⟨a1, n1, p1, rfl⟩ := r1.slice_of q1 rfl
  obtain ⟨a2, n2, p2, rfl⟩ := r2.slice_of q2 rfl
  obtain ⟨a3, n3, p3, rfl⟩ := r3.slice_of q3 rfl
  obtain ⟨a4, n4, p4, rfl⟩ := r4.slice_of q4 rfl
  obtain ⟨h1, E1, r1, q1⟩ := r1.openS q1 rfl
  obtain ⟨h2, E2, r2, q2⟩ := r2.openS q2 rfl
  obtain ⟨h3, E3, r3, q3⟩ := r3.openS q3 rfl
  obtain ⟨h4, E4, r4, q4⟩ := r4.openS q4 rfl
  have hN : n1 + (exFrom (.sl n2 3 h2)).length + n3 + n4 ≤ 1048576 := by
    rw [E1, E2, E3, E4] at hm
    replace hm : msr (.sl n1 13 h1) + msr (.sl n2 3 h2) + msr (.sl n3 10 h3) + msr (.sl n4 11 h4) ≤ 1048576 := hm
    have k1 := msr_n n1 13 h1
    have k2 := exFrom_msr q2
    have k3 := msr_n n3 10 h3
    have k4 := msr_n n4 11 h4
    omega
  have hex : exprsOf c = ((exItems (.sl n1 13 h1) ++ exFrom (.sl n2 3 h2)) ++ (Dat.sl n3 10 h3).els) ++ (Dat.sl n4 11 h4).els := by
    unfold exprsOf
    rw [E1, E2, E3, E4]
    rfl
  have HB := BX.new W 49 #[.bool c0, .slice a1 n1 p1, .slice a2 n2 p2, .slice a3 n3 p3, .slice a4 n4 p4, .int .i64 c5]
  have hcall := exprsIn_any W (W.alloc (.cells #[.bool c0, .slice a1 n1 p1, .slice a2 n2 p2, .slice a3 n3 p3, .slice a4 n4 p4, .int .i64 c5] 49)) c0 a1 n1 p1 a2 n2 p2 a3 n3 p3 a4 n4 p4 c5 h1 h2 h3 h4 HB.b r1 q1 r2 q2 r3 q3 r4 q4 hN
  rw [← hex] at hcall
  clear E1 E2 E3 E4 r1 r2 r3 r4 q1 q2 q3 q4 hN hm hex
  generalize exprsOf c = L at *
  have x0 := HB.box.cell (i := 0) (v := .bool c0) rfl
  have x1 := HB.box.cell (i := 1) (v := .slice a1 n1 p1) rfl
  have x2 := HB.box.cell (i := 2) (v := .slice a2 n2 p2) rfl
  have x3 := HB.box.cell (i := 3) (v := .slice a3 n3 p3) rfl
  have x4 := HB.box.cell (i := 4) (v := .slice a4 n4 p4) rfl
  have x5 := HB.box.cell (i := 5) (v := .int .i64 c5) rfl
  go_enter Try.func37, Try.ntmps37
  go_wp2_with fail
  refine hcall.mono ?_
  clear hcall x0 x1 x2 x3 x4 x5
  rintro e w2 ⟨v, rfl, ho, hb2⟩
  have hB2 := HB.b.trans (hb2.mono HB.b.size)
  have hlk : LK exprTy W w2 (fun _ => True) v L := ho.lk fun _ _ _ => trivial
  have hlen : (L.flatMap (pre 1)).length ≤ 2000000 := by rw [len_flat]; show sizA.of _ ≤ _; have : sizA.of (L.map (foldE sizA)) ≤ 1048576 := hsz; omega
  obtain ⟨vv, hvv⟩ : ∃ vv, vv = v := ⟨_, rfl⟩
  rw [← hvv] at hlk ⊢
  clear hvv
  have hD := total_any W w2 L vv hB2 hlk hbd hlen
  go_wp2_with fail
  refine hD.mono ?_
  clear hD
  rintro e w3 ⟨rfl, hb3⟩
  have hval : (L.flatMap (pre 1)).length = sizA.qn c (sizA.of (L.map (foldE sizA))) := by
    rw [len_flat]; rfl
  rw [hval]
  have hfb := hB2.trans (hb3.mono hB2.size)
  go_wp2_with fail
  go_ret
  exact ⟨rfl, hfb⟩
end Go.Proofs.Ytbbfanhhldbhhaa

/- The exact law of SameExpr at any two expressions. -/
namespace Go.Proofs.Ytbbfanhhldbhhaa
open Go.RowKit

theorem exw_SameExpr (c d : Nat → Dat) (c0 c1 : Int) (c2 : Bool) (c3 c4 : Int) (c5 c6 c7 : ByteArray) (c8 c9 : Value) (s0 s1 : Int) (s2 : Bool) (s3 s4 : Int) (s5 s6 s7 : ByteArray) (s8 s9 : Value) (w : World)
    (r8 : Rd w 0 c8 (c 8)) (q8 : Fits (c 8) .exprs) (r9 : Rd w 0 c9 (c 9)) (q9 : Fits (c 9) .queries) (b0 : I64 c0) (b1 : I64 c1) (b3 : I64 c3) (b4 : I64 c4) (b5 : c5.size ≤ 9223372036854775807) (b6 : c6.size ≤ 9223372036854775807) (b7 : c7.size ≤ 9223372036854775807)
    (k8 : Rd w 0 s8 (d 8)) (l8 : Fits (d 8) .exprs) (k9 : Rd w 0 s9 (d 9)) (l9 : Fits (d 9) .queries) (h0 : I64 s0) (h1 : I64 s1) (h3 : I64 s3) (h4 : I64 s4) (h5 : s5.size ≤ 9223372036854775807) (h6 : s6.size ≤ 9223372036854775807) (h7 : s7.size ≤ 9223372036854775807) :
    Calls Try.prog 5 #[.agg #[.int .i64 c0, .int .i64 c1, .bool c2, .int .i64 c3, .int .i64 c4, .string c5, .string c6, .string c7, c8, c9], .agg #[.int .i64 s0, .int .i64 s1, .bool s2, .int .i64 s3, .int .i64 s4, .string s5, .string s6, .string s7, s8, s9]] w (BoolE true w) := by
  have key : sameC exprTy (ndOf c0 c1 c2 c3 c4 c5 c6 c7 c) (ndOf s0 s1 s2 s3 s4 s5 s6 s7 d) = sameFields c0 s0 c1 s1 c2 s2 c3 s3 c4 s4 c5 s5 c6 s6 c7 s7 (same (c 8) (d 8) .exprs) (same (c 9) (d 9) .queries) :=
    sameC_expr rfl rfl rfl rfl rfl rfl rfl rfl rfl rfl rfl rfl rfl rfl rfl rfl
  refine ex_SameExpr (sameFields c0 s0 c1 s1 c2 s2 c3 s3 c4 s4 c5 s5 c6 s6 c7 s7 (same (c 8) (d 8) .exprs) (same (c 9) (d 9) .queries)) c d c0 c1 c2 c3 c4 c5 c6 c7 c8 c9 s0 s1 s2 s3 s4 s5 s6 s7 s8 s9 w r8 q8 r9 q9 b5 b6 b7 k8 l8 k9 l9 h5 h6 h7 ?_ ?_
  · intro X8 X9 Y8 Y9 v e8 e9 f8 f9
    exact sameE_of c d (sameAll (c 8)).e (sameAll (c 9)).q c0 c1 c2 c3 c4 c5 c6 c7 X8 X9 s0 s1 s2 s3 s4 s5 s6 s7 Y8 Y9 v e8 q8 e9 q9 f8 l8 f9 l9
  · intro m m' X8 X9 Y8 Y9 v e8 e9 f8 f9
    rw [← key]
    refine SameExpr_any v _ _ _ _ v (ndOf_out b0 b1 b3 b4 b5 b6 b7 e8 q8 e9 q9) (ndOf_out h0 h1 h3 h4 h5 h6 h7 f8 l8 f9 l9) (Below.refl _ _) ⟨by show msr (c 8) ≤ _; omega, by show msr (c 9) ≤ _; omega, q8, q9⟩ ⟨by show msr (d 8) ≤ _; omega, by show msr (d 9) ≤ _; omega, l8, l9⟩ ?_
    show msr (c 8) + msr (c 9) + 1 ≤ _
    omega
end Go.Proofs.Ytbbfanhhldbhhaa
