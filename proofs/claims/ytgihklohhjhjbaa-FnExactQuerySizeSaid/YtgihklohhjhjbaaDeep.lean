
/- The program's depth and size of expressions and queries. -/
import Derived.Test.YtgihklohhjhjbaaBelow
import Derived.Test.YtgihklohhjhjbaaPure
import Derived.Shelf.Abstract
namespace Go.Proofs.Ytgihklohhjhjbaa
open Go.RowKit
attribute [local go_sem] Oper.semAt_some

set_option maxRecDepth 100000 in
theorem partsOf_any (w0 : World) (c : Nd) (hc : Bd c) : PartsE 87 parts w0 c := by
  intro ys W hys hb0
  have hB := below_exprs w0
  obtain ⟨c0, c1, c2, c3, c4, c5, c6, c7, a8, n8, p8, a9, n9, p9, rfl, -⟩ := hys.ten
  have H := RowAt.new W 29 #[.int .i64 c0, .int .i64 c1, .bool c2, .int .i64 c3, .int .i64 c4, .string c5, .string c6, .string c7, .slice a8 n8 p8, .slice a9 n9 p9]
  have hal : Below W.heap.size W (W.alloc (.cells #[.int .i64 c0, .int .i64 c1, .bool c2, .int .i64 c3, .int .i64 c4, .string c5, .string c6, .string c7, .slice a8 n8 p8, .slice a9 n9 p9] 29)) := (Below.refl _ _).alloc (Nat.le_refl _) _
  have x0 := H.cell (i := 0) (v := .int .i64 c0) rfl
  have x1 := H.cell (i := 1) (v := .int .i64 c1) rfl
  have x2 := H.cell (i := 2) (v := .bool c2) rfl
  have x3 := H.cell (i := 3) (v := .int .i64 c3) rfl
  have x4 := H.cell (i := 4) (v := .int .i64 c4) rfl
  have x5 := H.cell (i := 5) (v := .string c5) rfl
  have x6 := H.cell (i := 6) (v := .string c6) rfl
  have x7 := H.cell (i := 7) (v := .string c7) rfl
  have x8 := H.cell (i := 8) (v := .slice a8 n8 p8) rfl
  have x9 := H.cell (i := 9) (v := .slice a9 n9 p9) rfl
  go_enter Try.func87, Try.ntmps87
  go_wp2_with fail
  generalize W.alloc (.cells #[.int .i64 c0, .int .i64 c1, .bool c2, .int .i64 c3, .int .i64 c4, .string c5, .string c6, .string c7, .slice a8 n8 p8, .slice a9 n9 p9] 29) = w1 at H hal ⊢
  have hb1 := hb0.trans (hal.mono hb0.size)
  refine (hB w1 c _ hys hb1 hc).mono ?_
  rintro e w2 ⟨v, rfl, hp, hb⟩
  have hb2 := hal.trans (hb.mono hal.size)
  go_wp2_with fail
  go_ret
  refine ⟨v, rfl, (hp.lk (hb1.trans (hb.mono hb1.size))).keep (Nat.le_refl _) (fun _ _ _ => rfl) (fun g hg _ => hg.imp id fun h => by have := hal.size; omega), hb2⟩
theorem pre_hd (d : Nat) (c : Nd) : ∃ l, pre d c = (d, c) :: l := by
  unfold pre foldE
  exact ⟨_, by show (0 + d, c) :: _ = _; rw [Nat.zero_add]⟩
theorem visitsE_any (v pf : Value) (hv : ∃ a n p, v = .slice a n p) (hp : ∃ g, pf = .func (.func g) #[] #[]) (W : World) :
    Calls Try.prog 86 #[v, pf] W fun e w' => e = .returned (.func (.func VE) #[] #[.pointer (some ⟨W.heap.size, 0, none⟩), .pointer (some ⟨W.heap.size + 1, 0, none⟩)]) ∧
      w' = (W.alloc (.cells #[v] 26)).alloc (.cells #[pf] 114) := by
  obtain ⟨a, n, p, rfl⟩ := hv
  obtain ⟨g, rfl⟩ := hp
  go_enter Try.func86, Try.ntmps86
  go_wp2_with fail
  go_ret
  exact ⟨rfl, rfl⟩
set_option maxRecDepth 100000 in
set_option maxHeartbeats 4000000 in
theorem deepest_any (w0 W : World) (L : List Nd) (v : Value) (hb0 : Below w0.heap.size w0 W) (hv : LK exprTy w0 W (fun _ => True) v L) (hL : ∀ c ∈ L, Bd c) (hlen : (L.flatMap (pre 1)).length ≤ 2000000) :
    Calls Try.prog 44 #[v] W fun e w' => e = .returned (.int .i64 ((mx (L.flatMap (pre 1)) : Nat) : Int)) ∧ Below W.heap.size W w' := by
  obtain ⟨a0, cap, rfl⟩ := hv.slice
  have hz := hb0.size
  generalize hxs : L.flatMap (pre 1) = xs at hlen ⊢
  have HB : ∀ d c, (d, c) ∈ xs → Bd c := fun d c h => by
    rw [← hxs, List.mem_flatMap] at h
    obtain ⟨c', hc', h⟩ := h
    exact (hL c' hc').pre 1 _ h
  refine (callsIn_wide (n := 5)).1 ?_
  refine callsIn_of_wp_marks Try.func44 rfl trivial ?_ rfl
  simp only [Try.ntmps44, List.size_toArray, List.length_cons, List.length_nil, Nat.reduceAdd, Nat.reduceSub, Array.replicate_succ, Array.replicate_zero, List.push_toArray, List.append_toArray, List.nil_append, List.cons_append]
  have H0 := RowAt.new W 3 #[.int .i64 0]
  have B0 : Below W.heap.size W (W.alloc (.cells #[.int .i64 0] 3)) := (Below.refl _ _).alloc (Nat.le_refl _) _
  have s0 : (W.alloc (.cells #[.int .i64 0] 3)).heap.size = W.heap.size + 1 := by simp
  gi_wp2
  generalize W.alloc (.cells #[.int .i64 0] 3) = w1 at *
  refine ⟨trivial, (callsIn_wide.2 (visitsE_any _ _ ⟨_, _, _, rfl⟩ ⟨_, rfl⟩ w1)).mono ?_⟩
  rintro e w3 ⟨rfl, hw3⟩
  have k1 : w3.cell? ⟨w1.heap.size, 0, none⟩ = some (.slice a0 L.length cap) := by rw [hw3]; exact ((RowAt.new w1 26 #[.slice a0 L.length cap]).alloc _).cell (i := 0) rfl
  have k2 : w3.cell? ⟨w1.heap.size + 1, 0, none⟩ = some (.func (.func 87) #[] #[]) := by
    have h := (RowAt.new (w1.alloc (.cells #[.slice a0 L.length cap] 26)) 114 #[.func (.func 87) #[] #[]]).cell (i := 0) rfl
    rw [World.size_alloc] at h
    rw [hw3]; exact h
  have b3 : Below w1.heap.size w1 w3 := by rw [hw3]; exact ((Below.refl _ _).alloc (Nat.le_refl _) _).alloc (by simp) _
  have s3 : w3.heap.size = W.heap.size + 3 := by rw [hw3]; simp [s0]
  clear hw3
  have H3 := H0.later b3
  have B3 : Below W.heap.size W w3 := B0.trans (b3.mono (by omega))
  rw [s0] at k1 k2
  gi_wp2
  refine wpIn_rangeV (α := Nat × Nd) rfl (by decide) (gf := VE) (lb := #[.pointer (some ⟨W.heap.size + 1, 0, none⟩), .pointer (some ⟨W.heap.size + 1 + 1, 0, none⟩)]) rfl trivial (enters_of Try.func136 (by kernel_rfl) rfl)
    (visE_any pre parts (fun _ => True) w0 w3 L _ _ _ (fun k => k = W.heap.size) xs _ hxs.symm hlen (hb0.trans (B3.mono hz)) (fun k hk => ⟨by omega, by omega⟩) k1 k2 (by omega)
      (hv.keep B3.size (fun g _ hlt => B3.block g hlt) fun g _ hlt => by omega) (fun d c h _ => partsOf_any w0 c (HB d c h)) pre_hd (fun d c h _ => pre_eq d (HB d c h).f8 (HB d c h).f9))
    (fun k hk => by omega) (fun x v h => by obtain ⟨ys, _, rfl⟩ := h; rfl)
    (fun i Wr => RowAt Wr W.heap.size 3 #[.int .i64 ((mx (xs.take i) : Nat) : Int)] ∧ Below W.heap.size W Wr) (fun _ _ _ => False)
    (fun i A B h hb => ⟨(hb.block _ (by omega)).trans h.1, h.2.trans (hb.mono (by omega))⟩) (fun _ _ _ _ h _ => h) ⟨H3, B3⟩
    (fun x a _ => ∃ ys : List Value, a = { tmps := #[.slice a0 L.length cap, undef, .int .i64 0, .pointer (some ⟨W.heap.size, 0, none⟩), .int .i64 (x.1 : Int), .slice a0 L.length cap, .func (.func VE) #[] #[.pointer (some ⟨W.heap.size + 1, 0, none⟩), .pointer (some ⟨W.heap.size + 1 + 1, 0, none⟩)], .int .i64 (x.1 : Int), .agg ys.toArray, undef, undef, undef, undef], defers := [] }) (fun x a A B h _ => h) ?assign ?body ?done ?stop
  case assign =>
    rintro l x v W1 K ⟨ys, hys, rfl⟩ _ hK
    gi_wp2
    exact hK _ _ ⟨ys, rfl⟩ (Below.refl _ _)
  case body =>
    rintro l i ⟨d, c⟩ a1 W1 hx ⟨hI, hB⟩ hsz ⟨ys, rfl⟩
    have x0 := hI.cell (i := 0) (v := .int .i64 ((mx (xs.take i) : Nat) : Int)) rfl
    have x1 := hI.soft 0
    have hm : mx (xs.take (i + 1)) = max (mx (xs.take i)) d := by
      rw [take_next hx, mx_append]
      congr 1
      show max d 0 = d
      omega
    generalize mx (xs.take i) = m at *
    have hI2 : ∀ u, RowAt (W1.setCell ⟨W.heap.size, 0, none⟩ u) W.heap.size 3 #[u] := fun u => hI.set 0 u
    gi_wp2
    all_goals refine ⟨But.setCell _ ⟨W.heap.size, 0, none⟩ _ rfl, trivial, ?_, hB.setCell (p := ⟨W.heap.size, 0, none⟩) (Nat.le_refl _) _⟩
    all_goals rw [hm]
    all_goals first | (rw [show max m d = m by omega]; exact hI2 _) | (rw [show max m d = d by omega]; exact hI2 _)
  case done =>
    rintro D W1 hD ⟨hI, hB⟩ hK
    rw [List.take_length] at hI
    have x0 := hI.cell (i := 0) (v := .int .i64 ((mx xs : Nat) : Int)) rfl
    gi_wp2
    refine ⟨by simp, .inl ⟨_, _, rfl, run_takeDeferred hK, ?_⟩⟩
    exact ⟨_, results_tmp rfl _ _ _, rfl, hB.trans (below_put _ _ _ (by omega))⟩
  case stop => exact fun _ _ _ _ _ _ h _ => h.elim
set_option maxRecDepth 100000 in
set_option maxHeartbeats 4000000 in
theorem total_any (w0 W : World) (L : List Nd) (v : Value) (hb0 : Below w0.heap.size w0 W) (hv : LK exprTy w0 W (fun _ => True) v L) (hL : ∀ c ∈ L, Bd c) (hlen : (L.flatMap (pre 1)).length ≤ 2000000) :
    Calls Try.prog 45 #[v] W fun e w' => e = .returned (.int .i64 (((L.flatMap (pre 1)).length : Nat) : Int)) ∧ Below W.heap.size W w' := by
  obtain ⟨a0, cap, rfl⟩ := hv.slice
  have hz := hb0.size
  generalize hxs : L.flatMap (pre 1) = xs at hlen ⊢
  have HB : ∀ d c, (d, c) ∈ xs → Bd c := fun d c h => by
    rw [← hxs, List.mem_flatMap] at h
    obtain ⟨c', hc', h⟩ := h
    exact (hL c' hc').pre 1 _ h
  refine (callsIn_wide (n := 5)).1 ?_
  refine callsIn_of_wp_marks Try.func45 rfl trivial ?_ rfl
  simp only [Try.ntmps45, List.size_toArray, List.length_cons, List.length_nil, Nat.reduceAdd, Nat.reduceSub, Array.replicate_succ, Array.replicate_zero, List.push_toArray, List.append_toArray, List.nil_append, List.cons_append]
  have H0 := RowAt.new W 3 #[.int .i64 0]
  have B0 : Below W.heap.size W (W.alloc (.cells #[.int .i64 0] 3)) := (Below.refl _ _).alloc (Nat.le_refl _) _
  have s0 : (W.alloc (.cells #[.int .i64 0] 3)).heap.size = W.heap.size + 1 := by simp
  gi_wp2
  generalize W.alloc (.cells #[.int .i64 0] 3) = w1 at *
  refine ⟨trivial, (callsIn_wide.2 (visitsE_any _ _ ⟨_, _, _, rfl⟩ ⟨_, rfl⟩ w1)).mono ?_⟩
  rintro e w3 ⟨rfl, hw3⟩
  have k1 : w3.cell? ⟨w1.heap.size, 0, none⟩ = some (.slice a0 L.length cap) := by rw [hw3]; exact ((RowAt.new w1 26 #[.slice a0 L.length cap]).alloc _).cell (i := 0) rfl
  have k2 : w3.cell? ⟨w1.heap.size + 1, 0, none⟩ = some (.func (.func 87) #[] #[]) := by
    have h := (RowAt.new (w1.alloc (.cells #[.slice a0 L.length cap] 26)) 114 #[.func (.func 87) #[] #[]]).cell (i := 0) rfl
    rw [World.size_alloc] at h
    rw [hw3]; exact h
  have b3 : Below w1.heap.size w1 w3 := by rw [hw3]; exact ((Below.refl _ _).alloc (Nat.le_refl _) _).alloc (by simp) _
  have s3 : w3.heap.size = W.heap.size + 3 := by rw [hw3]; simp [s0]
  clear hw3
  have H3 := H0.later b3
  have B3 : Below W.heap.size W w3 := B0.trans (b3.mono (by omega))
  rw [s0] at k1 k2
  gi_wp2
  refine wpIn_rangeV (α := Nat × Nd) rfl (by decide) (gf := VE) (lb := #[.pointer (some ⟨W.heap.size + 1, 0, none⟩), .pointer (some ⟨W.heap.size + 1 + 1, 0, none⟩)]) rfl trivial (enters_of Try.func136 (by kernel_rfl) rfl)
    (visE_any pre parts (fun _ => True) w0 w3 L _ _ _ (fun k => k = W.heap.size) xs _ hxs.symm hlen (hb0.trans (B3.mono hz)) (fun k hk => ⟨by omega, by omega⟩) k1 k2 (by omega)
      (hv.keep B3.size (fun g _ hlt => B3.block g hlt) fun g _ hlt => by omega) (fun d c h _ => partsOf_any w0 c (HB d c h)) pre_hd (fun d c h _ => pre_eq d (HB d c h).f8 (HB d c h).f9))
    (fun k hk => by omega) (fun x v h => by obtain ⟨ys, _, rfl⟩ := h; rfl)
    (fun i Wr => RowAt Wr W.heap.size 3 #[.int .i64 ((i : Nat) : Int)] ∧ Below W.heap.size W Wr) (fun _ _ _ => False)
    (fun i A B h hb => ⟨(hb.block _ (by omega)).trans h.1, h.2.trans (hb.mono (by omega))⟩) (fun _ _ _ _ h _ => h) ⟨H3, B3⟩
    (fun x a _ => ∃ ys : List Value, a = { tmps := #[.slice a0 L.length cap, undef, .int .i64 0, .pointer (some ⟨W.heap.size, 0, none⟩), .slice a0 L.length cap, .func (.func VE) #[] #[.pointer (some ⟨W.heap.size + 1, 0, none⟩), .pointer (some ⟨W.heap.size + 1 + 1, 0, none⟩)], .int .i64 (x.1 : Int), .agg ys.toArray, undef, undef, undef], defers := [] }) (fun x a A B h _ => h) ?assign ?body ?done ?stop
  case assign =>
    rintro l x v W1 K ⟨ys, hys, rfl⟩ _ hK
    gi_wp2
    exact hK _ _ ⟨ys, by simp⟩ (Below.refl _ _)
  case body =>
    rintro l i ⟨d, c⟩ a1 W1 hx ⟨hI, hB⟩ hsz ⟨ys, rfl⟩
    have x0 := hI.cell (i := 0) (v := .int .i64 ((i : Nat) : Int)) rfl
    have x1 := hI.soft 0
    have hil : i < xs.length := (List.getElem?_eq_some_iff.1 hx).1
    have hI2 : ∀ u, RowAt (W1.setCell ⟨W.heap.size, 0, none⟩ u) W.heap.size 3 #[u] := fun u => hI.set 0 u
    gi_wp2
    exact ⟨But.setCell _ ⟨W.heap.size, 0, none⟩ _ rfl, trivial, hI2 _, hB.setCell (p := ⟨W.heap.size, 0, none⟩) (Nat.le_refl _) _⟩
  case done =>
    rintro D W1 hD ⟨hI, hB⟩ hK
    have x0 := hI.cell (i := 0) (v := .int .i64 ((xs.length : Nat) : Int)) rfl
    gi_wp2
    refine ⟨by simp, .inl ⟨_, _, rfl, run_takeDeferred hK, ?_⟩⟩
    exact ⟨_, results_tmp rfl _ _ _, rfl, hB.trans (below_put _ _ _ (by omega))⟩
  case stop => exact fun _ _ _ _ _ _ h _ => h.elim
end Go.Proofs.Ytgihklohhjhjbaa
