/- Joined texts: AllSame SameX. -/
import Derived.Test.YtcliijfdlcagoaaGreatQHTwB
import Derived.Test.YtcliijfdlcagoaaGreatQZAB
import Derived.Shelf.Abstract
namespace Go.Proofs.YtcliijfdlcagoaaGreat
set_option linter.unusedVariables false
set_option linter.unusedSimpArgs false
open Go.RowKit
attribute [local go_sem] Oper.semAt_some
attribute [local go_sem ↓] execOp_ldT execOp_stX
theorem visitsT_any (v pf : Value) (hv : ∃ a n p, v = .slice a n p) (hp : ∃ g, pf = .func (.func g) #[] #[]) (W : World) :
    Calls Tryz.prog 86 #[v, pf] W fun e w' => e = .returned (.func (.func VT) #[] #[.pointer (some ⟨W.heap.size, 0, none⟩), .pointer (some ⟨W.heap.size + 1, 0, none⟩)]) ∧
      w' = (W.alloc (.cells #[v] 85)).alloc (.cells #[pf] 128) := by
  obtain ⟨a, n, p, rfl⟩ := hv
  obtain ⟨g, rfl⟩ := hp
  go_enter Tryz.func86, Tryz.ntmps86
  go_wp2_with fail
  go_ret
  exact ⟨rfl, rfl⟩
def AllB (xs : List (Nat × Nd)) : Prop := ∀ p ∈ xs, aloneD p.2 = true
def SomeB (xs : List (Nat × Nd)) : Prop := ∃ p ∈ xs, aloneD p.2 = false
theorem allB_is {xs : List (Nat × Nd)} (h : AllB xs) : (xs.all fun p => aloneD p.2) = true := List.all_eq_true.2 h
theorem someB_is {xs : List (Nat × Nd)} (h : SomeB xs) : (xs.all fun p => aloneD p.2) = false := by
  obtain ⟨p, hp, ha⟩ := h
  by_cases e : (xs.all fun p => aloneD p.2) = true
  · have := List.all_eq_true.1 e p hp
    rw [ha] at this; cases this
  · simpa using e
theorem setRow_new (w : World) (zs cs : Array Value) (T : TypeId) : (w.alloc (.cells zs T)).setRow w.heap.size cs = w.alloc (.cells cs T) := by
  unfold World.setRow World.alloc
  congr 1
  refine Array.ext_getElem? fun i => ?_
  simp only [Array.getElem?_modify, Array.getElem?_push]
  by_cases e : w.heap.size = i
  · subst e; simp
  · rw [if_neg e]; rw [if_neg (fun h => e h.symm), if_neg (fun h => e h.symm)]
theorem stX_new {w : World} {ys : List Value} (hl : ys.length = 20) (ho : ys.all Value.oneCell' = true) :
    (stX 127 (.pointer (some ⟨w.heap.size, 0, none⟩)) (.agg ys.toArray)).run Tryz.prog (w.alloc (.cells #[.int .i64 0, .int .i64 0, .bool false, .int .i64 0, .int .i64 0, .string ⟨#[]⟩, .string ⟨#[]⟩, .string ⟨#[]⟩, .slice none 0 0, .slice none 0 0, .int .i64 0, .int .i64 0, .bool false, .int .i64 0, .int .i64 0, .string ⟨#[]⟩, .string ⟨#[]⟩, .string ⟨#[]⟩, .slice none 0 0, .slice none 0 0] 127)) = .ok .skip (w.alloc (.cells ys.toArray 127)) := by
  have h := storeAt_row (P := Tryz.prog) (zs := #[.int .i64 0, .int .i64 0, .bool false, .int .i64 0, .int .i64 0, .string ⟨#[]⟩, .string ⟨#[]⟩, .string ⟨#[]⟩, .slice none 0 0, .slice none 0 0, .int .i64 0, .int .i64 0, .bool false, .int .i64 0, .int .i64 0, .string ⟨#[]⟩, .string ⟨#[]⟩, .string ⟨#[]⟩, .slice none 0 0, .slice none 0 0]) ys (fun w => by rw [hl]; exact Tryz.sizeOf127 w) hl ho (RowAt.new w 127 #[.int .i64 0, .int .i64 0, .bool false, .int .i64 0, .int .i64 0, .string ⟨#[]⟩, .string ⟨#[]⟩, .string ⟨#[]⟩, .slice none 0 0, .slice none 0 0, .int .i64 0, .int .i64 0, .bool false, .int .i64 0, .int .i64 0, .string ⟨#[]⟩, .string ⟨#[]⟩, .string ⟨#[]⟩, .slice none 0 0, .slice none 0 0])
  rw [setRow_new] at h
  simp [stX, h, Result.andThen]
set_option maxRecDepth 100000 in
set_option maxHeartbeats 8000000 in
theorem allSame_any (w0 W : World) (L : List Nd) (v : Value) (hb0 : Below w0.heap.size w0 W) (hv : LK twTy w0 W (fun _ => True) v L) (hL : ∀ t ∈ L, BdT t) (hws : wsum L ≤ 2000000) :
    Calls Tryz.prog 48 #[v] W fun e w' => e = .returned (.bool (L.all fun t => sameC exprTy t (cut 10 t))) ∧ Below W.heap.size W w' := by
  obtain ⟨a0, cap, rfl⟩ := hv.slice
  have hz := hb0.size
  have hall : ((L.flatMap (preT 1)).all fun p => aloneD p.2) = L.all fun t => sameC exprTy t (cut 10 t) := by
    refine all_flat fun t ht => ?_
    have := wt_le_wsum ht
    exact same_pre 2999999 1 t (hL t ht) (by omega)
  have hbd : ∀ p ∈ L.flatMap (preT 1), BdT p.2 ∧ p.1 < 3000000 := fun p hp => by
    obtain ⟨t, ht, hp⟩ := List.mem_flatMap.1 hp
    have := wt_le_wsum ht
    obtain ⟨h1, h2⟩ := (preF_bound (3000000 - 1) 1 t (hL t ht)).2 p hp
    exact ⟨h1, by unfold wt at h2; unfold wt at this; omega⟩
  have hlen : (L.flatMap (preT 1)).length ≤ 2000000 := Nat.le_trans (flat_bound fun t ht => (preF_bound (3000000 - 1) 1 t (hL t ht)).1) hws
  rw [← hall]
  clear hall hL hws
  generalize hxs : L.flatMap (preT 1) = xs at hbd hlen ⊢
  refine (callsIn_wide (n := 5)).1 ?_
  refine callsIn_of_wp_marks Tryz.func48 rfl trivial ?_ rfl
  simp only [Tryz.ntmps48, List.size_toArray, List.length_cons, List.length_nil, Nat.reduceAdd, Nat.reduceSub, Array.replicate_succ, Array.replicate_zero, List.push_toArray, List.append_toArray, List.nil_append, List.cons_append]
  have H0 := RowAt.new W 4 #[.bool false]
  have B0 : Below W.heap.size W (W.alloc (.cells #[.bool false] 4)) := (Below.refl _ _).alloc (Nat.le_refl _) _
  have s0 : (W.alloc (.cells #[.bool false] 4)).heap.size = W.heap.size + 1 := by simp
  gi_wp2
  generalize W.alloc (.cells #[.bool false] 4) = w1 at *
  refine ⟨trivial, (callsIn_wide.2 (visitsT_any _ _ ⟨_, _, _, rfl⟩ ⟨_, rfl⟩ w1)).mono ?_⟩
  rintro e w3 ⟨rfl, hw3⟩
  have k1 : w3.cell? ⟨w1.heap.size, 0, none⟩ = some (.slice a0 L.length cap) := by rw [hw3]; exact ((RowAt.new w1 85 #[.slice a0 L.length cap]).alloc _).cell (i := 0) rfl
  have k2 : w3.cell? ⟨w1.heap.size + 1, 0, none⟩ = some (.func (.func 87) #[] #[]) := by
    have h := (RowAt.new (w1.alloc (.cells #[.slice a0 L.length cap] 85)) 128 #[.func (.func 87) #[] #[]]).cell (i := 0) rfl
    rw [World.size_alloc] at h
    rw [hw3]; exact h
  have b3 : Below w1.heap.size w1 w3 := by rw [hw3]; exact ((Below.refl _ _).alloc (Nat.le_refl _) _).alloc (by simp) _
  have s3 : w3.heap.size = W.heap.size + 3 := by rw [hw3]; simp [s0]
  clear hw3
  have H3 := H0.later b3
  have B3 : Below W.heap.size W w3 := B0.trans (b3.mono (by omega))
  rw [s0] at k1 k2
  gi_wp2
  refine wpIn_rangeV (α := Nat × Nd) rfl (by decide) (gf := VT) (lb := #[.pointer (some ⟨W.heap.size + 1, 0, none⟩), .pointer (some ⟨W.heap.size + 1 + 1, 0, none⟩)]) rfl trivial (enters_of Tryz.func118 (by kernel_rfl) rfl)
    (visT_any preT partsT (fun p => aloneD p.2 = true) w0 w3 L _ _ _ (fun k => k = W.heap.size) xs _ hxs.symm hlen (hb0.trans (B3.mono hz)) (fun k hk => ⟨by omega, by omega⟩) k1 k2 (by omega)
      (hv.keep B3.size (fun g _ hlt => B3.block g hlt) fun g _ hlt => by omega) (fun d t h ha => twinsBelow_any w0 t (hbd _ h).1 ha) preT_hd (fun d t h ha => preT_eq (hbd _ h).2 ha))
    (fun k hk => by omega) (fun x v h => by obtain ⟨ys, _, rfl⟩ := h; rfl)
    (fun i Wr => RowAt Wr W.heap.size 4 #[.bool false] ∧ Below W.heap.size W Wr ∧ AllB (xs.take i))
    (fun c i Wr => c = .ret ∧ RowAt Wr W.heap.size 4 #[.bool false] ∧ Below W.heap.size W Wr ∧ SomeB xs)
    (fun i A B h hb => ⟨(hb.block _ (by omega)).trans h.1, h.2.1.trans (hb.mono (by omega)), h.2.2⟩) (fun c i A B h hb => ⟨h.1, (hb.block _ (by omega)).trans h.2.1, h.2.2.1.trans (hb.mono (by omega)), h.2.2.2⟩) ⟨H3, B3, fun p hp => by simp at hp⟩
    (fun x a Wr => ∃ (ys : List Value) (Bx : Nat), OutK twTy w0 ys [x.2] ∧ w3.heap.size + 1 < Bx ∧ RowAt Wr Bx 127 ys.toArray ∧
      a = { tmps := #[.slice a0 L.length cap, undef, .pointer (some ⟨W.heap.size, 0, none⟩), undef, .pointer (some ⟨Bx, 0, none⟩), .slice a0 L.length cap, .func (.func VT) #[] #[.pointer (some ⟨W.heap.size + 1, 0, none⟩), .pointer (some ⟨W.heap.size + 1 + 1, 0, none⟩)], .int .i64 (x.1 : Int), .agg ys.toArray, undef, undef, undef], defers := [] })
    (fun x a A B h hk => by obtain ⟨ys, Bx, h1, h2, h3, h4⟩ := h; exact ⟨ys, Bx, h1, h2, (hk Bx h2).trans h3, h4⟩) ?assign ?body ?done ?stop
  case assign =>
    rintro l ⟨d, t⟩ v W1 K ⟨ys, hys, rfl⟩ hsz hK
    have hyl : ys.length = 20 := hys.1
    have hyo : ys.all Value.oneCell' = true := List.all_eq_true.2 hys.ones
    have hst := stX_new (w := W1) hyl hyo
    gi_wp2
    exact hK _ _ ⟨ys, W1.heap.size, hys, hsz, RowAt.new W1 _ _, rfl⟩ ((Below.refl _ _).alloc (Nat.le_refl _) _)
  case body =>
    rintro l i ⟨d, t⟩ a1 W1 hx ⟨hI, hB, hA⟩ hsz ⟨ys, Bx, hys, hBx, hR, rfl⟩
    have hyl : ys.length = 20 := hys.1
    have ld := run_ldX (P := Tryz.prog) (o := 0) hyl Tryz.isAgg127 Tryz.sizeOf127 fun j u hj => by rw [Nat.zero_add]; exact hR.cell (i := j) (by simpa using hj)
    have hmem : (d, t) ∈ xs := List.mem_of_getElem? hx
    have hcall := sameAlone_any w0 t ys W1 hys (hb0.trans (hB.mono hz)) (hbd _ hmem).1
    have htk : Hid (xs.take (i + 1) = xs.take i ++ [(d, t)]) := take_next hx
    generalize ha : aloneD t = va at hcall
    have HA := Lib.hid ha
    clear ha
    cases va
    case true =>
      have hA2 : AllB (xs.take (i + 1)) := fun p hp => by
        rw [htk.out, List.mem_append] at hp
        rcases hp with hp | hp
        · exact hA p hp
        · rw [List.mem_singleton.1 hp]; exact HA.out
      gi_wp2
      refine ⟨trivial, (CallsIn.inRound l (callsIn_wide.2 hcall)).mono ?_⟩
      clear hcall ld
      rintro e w4 ⟨rfl, hb4⟩
      gi_wp2
      exact ⟨But.below hb4, (by first | trivial | exact HA.out), hI.later hb4, hB.trans (hb4.mono hB.size), hA2⟩
    case false =>
      gi_wp2
      refine ⟨trivial, (CallsIn.inRound l (callsIn_wide.2 hcall)).mono ?_⟩
      clear hcall ld
      rintro e w4 ⟨rfl, hb4⟩
      have hI4 := hI.later hb4
      have x0 := hI4.cell (i := 0) (v := .bool false) rfl
      have x1 := hI4.soft 0
      have hI5 : RowAt (w4.setCell ⟨W.heap.size, 0, none⟩ (.bool false)) W.heap.size 4 #[.bool false] := hI4.set 0 _
      gi_wp2
      exact ⟨(But.below hb4).trans (But.setCell _ ⟨W.heap.size, 0, none⟩ _ rfl), rfl, hI5, (hB.trans (hb4.mono hB.size)).setCell (p := ⟨W.heap.size, 0, none⟩) (Nat.le_refl _) _, ⟨(d, t), hmem, HA.out⟩⟩
  case done =>
    rintro D W1 hD ⟨hI, hB, hA⟩ hK
    have x0 := hI.cell (i := 0) (v := .bool false) rfl
    have x1 := hI.soft 0
    have hI5 : RowAt (W1.setCell ⟨W.heap.size, 0, none⟩ (.bool true)) W.heap.size 4 #[.bool true] := hI.set 0 _
    have hB5 := hB.setCell (p := ⟨W.heap.size, 0, none⟩) (Nat.le_refl _) (.bool true)
    have hK5 : (W1.setCell ⟨W.heap.size, 0, none⟩ (.bool true)).heap[D]? = some (.deferred (some [])) := (heap_setCell_other W1 ⟨W.heap.size, 0, none⟩ D _ (by show D ≠ W.heap.size; omega)).trans hK
    gi_wp2
    have hI6 : RowAt ((W1.setCell ⟨W.heap.size, 0, none⟩ (.bool true)).putObj D (.deferred none)) W.heap.size 4 #[.bool true] := (World.putObj_heap_other (by omega)).trans hI5
    have f0 := hI6.cell (i := 0) (v := .bool true) rfl
    have hB6 := hB5.trans (below_put (W1.setCell ⟨W.heap.size, 0, none⟩ (.bool true)) D (.deferred none) (by omega))
    refine ⟨by simp, .inl ⟨_, _, rfl, run_takeDeferred hK5, ?_⟩⟩
    generalize (W1.setCell ⟨W.heap.size, 0, none⟩ (.bool true)).putObj D (.deferred none) = w9 at f0 hB6 ⊢
    refine ⟨.bool true, by simp [results, Tryz.results48, go_sem, f0], ?_, hB6⟩
    rw [allB_is (by rw [List.take_length] at hA; exact hA)]
  case stop =>
    rintro D c i W1 hD hle ⟨rfl, hI, hB, hA⟩ hK
    gi_wp2
    have hI6 : RowAt (W1.putObj D (.deferred none)) W.heap.size 4 #[.bool false] := (World.putObj_heap_other (by omega)).trans hI
    have f0 := hI6.cell (i := 0) (v := .bool false) rfl
    have hB6 := hB.trans (below_put W1 D (.deferred none) (by omega))
    refine ⟨by simp, .inl ⟨_, _, rfl, run_takeDeferred hK, ?_⟩⟩
    generalize W1.putObj D (.deferred none) = w9 at f0 hB6 ⊢
    refine ⟨.bool false, by simp [results, Tryz.results48, go_sem, f0], ?_, hB6⟩
    rw [someB_is hA]
set_option maxRecDepth 100000 in
set_option maxHeartbeats 8000000 in
theorem SameExpr_any (w0 : World) (c c' : Nd) (us vs : List Value) (W : World) (hx : OutK exprTy w0 us [c]) (hy : OutK exprTy w0 vs [c']) (hb0 : Below w0.heap.size w0 W) (hc : Bd c) (hc' : Bd c') (hw : wt c ≤ 2000000) :
    Calls Tryz.prog 122 #[.agg us.toArray, .agg vs.toArray] W (BoolE (sameC exprTy c c') W) := by
  have hout := out_pair hx hy
  have hbd := bdT_pair hc hc'
  obtain ⟨x0, x1, x2, x3, x4, x5, x6, x7, ax8, nx8, px8, ax9, nx9, px9, rfl, -⟩ := hx.ten
  obtain ⟨y0, y1, y2, y3, y4, y5, y6, y7, ay8, ny8, py8, ay9, ny9, py9, rfl, -⟩ := hy.ten
  have hB : Below W.heap.size W ((W.alloc (.cells #[.int .i64 x0, .int .i64 x1, .bool x2, .int .i64 x3, .int .i64 x4, .string x5, .string x6, .string x7, .slice ax8 nx8 px8, .slice ax9 nx9 px9] 79)).alloc (.cells #[.int .i64 y0, .int .i64 y1, .bool y2, .int .i64 y3, .int .i64 y4, .string y5, .string y6, .string y7, .slice ay8 ny8 py8, .slice ay9 ny9 py9] 79)) := ((Below.refl _ _).alloc (Nat.le_refl _) _).alloc (by simp) _
  have s2 : ((W.alloc (.cells #[.int .i64 x0, .int .i64 x1, .bool x2, .int .i64 x3, .int .i64 x4, .string x5, .string x6, .string x7, .slice ax8 nx8 px8, .slice ax9 nx9 px9] 79)).alloc (.cells #[.int .i64 y0, .int .i64 y1, .bool y2, .int .i64 y3, .int .i64 y4, .string y5, .string y6, .string y7, .slice ay8 ny8 py8, .slice ay9 ny9 py9] 79)).heap.size = W.heap.size + 2 := by simp
  clear hx hy
  go_enter Tryz.func122, Tryz.ntmps122
  go_wp2_with fail
  generalize ((W.alloc (.cells #[.int .i64 x0, .int .i64 x1, .bool x2, .int .i64 x3, .int .i64 x4, .string x5, .string x6, .string x7, .slice ax8 nx8 px8, .slice ax9 nx9 px9] 79)).alloc (.cells #[.int .i64 y0, .int .i64 y1, .bool y2, .int .i64 y3, .int .i64 y4, .string y5, .string y6, .string y7, .slice ay8 ny8 py8, .slice ay9 ny9 py9] 79)) = w2 at hB s2 ⊢
  have R := RowAt.new w2 127 #[.int .i64 x0, .int .i64 x1, .bool x2, .int .i64 x3, .int .i64 x4, .string x5, .string x6, .string x7, .slice ax8 nx8 px8, .slice ax9 nx9 px9, .int .i64 y0, .int .i64 y1, .bool y2, .int .i64 y3, .int .i64 y4, .string y5, .string y6, .string y7, .slice ay8 ny8 py8, .slice ay9 ny9 py9]
  have hal : Below w2.heap.size w2 (w2.alloc (.cells #[.int .i64 x0, .int .i64 x1, .bool x2, .int .i64 x3, .int .i64 x4, .string x5, .string x6, .string x7, .slice ax8 nx8 px8, .slice ax9 nx9 px9, .int .i64 y0, .int .i64 y1, .bool y2, .int .i64 y3, .int .i64 y4, .string y5, .string y6, .string y7, .slice ay8 ny8 py8, .slice ay9 ny9 py9] 127)) := (Below.refl _ _).alloc (Nat.le_refl _) _
  rw [s2] at R
  generalize w2.alloc (.cells #[.int .i64 x0, .int .i64 x1, .bool x2, .int .i64 x3, .int .i64 x4, .string x5, .string x6, .string x7, .slice ax8 nx8 px8, .slice ax9 nx9 px9, .int .i64 y0, .int .i64 y1, .bool y2, .int .i64 y3, .int .i64 y4, .string y5, .string y6, .string y7, .slice ay8 ny8 py8, .slice ay9 ny9 py9] 127) = w3 at R hal ⊢
  have hB3 := hB.trans (hal.mono hB.size)
  have hlk : LK twTy w0 w3 (fun _ => True) (.slice (some ⟨W.heap.size + 2, 0, none⟩) 1 1) [pairT c c'] :=
    ⟨_, 1, _, rfl, hout, .inr ⟨W.heap.size + 2, 0, rfl, Nat.le_refl _, trivial, R.lt, fun j u hj => by rw [Nat.zero_add]; exact R.cell (by simpa using hj)⟩⟩
  refine (allSame_any w0 w3 [pairT c c'] _ (hb0.trans (hB3.mono hb0.size)) hlk (fun t ht => by rw [List.mem_singleton.1 ht]; exact hbd) (by rw [wsum_cons, wt_pair]; show wt c + 0 ≤ _; omega)).mono ?_
  rintro e w4 ⟨rfl, hb4⟩
  have hv : ([pairT c c'].all fun t => sameC exprTy t (cut 10 t)) = sameC exprTy c c' := by
    rw [List.all_cons, List.all_nil, Bool.and_true, sameC_pair]
  rw [hv]
  have hf := hB3.trans (hb4.mono hB3.size)
  go_wp2_with fail
  go_ret
  exact ⟨rfl, hf⟩
end Go.Proofs.YtcliijfdlcagoaaGreat
