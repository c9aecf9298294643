/- Joined texts: AllSame SameX SameS. -/
import Derived.Test.YtbbfanhhldbhhaaQHTwB
import Derived.Test.YtbbfanhhldbhhaaQGAC
import Derived.Test.YtbbfanhhldbhhaaQGAT
import Derived.Test.YtbbfanhhldbhhaaQGAA
import Derived.Test.YtbbfanhhldbhhaaQGAF
import Derived.Test.YtbbfanhhldbhhaaQGAK
import Derived.Shelf.Abstract
/- The program's allSame. -/
namespace Go.Proofs.Ytbbfanhhldbhhaa
open Go.RowKit
attribute [local go_sem] Oper.semAt_some
attribute [local go_sem ↓] execOp_ldT execOp_stX

theorem visitsT_any (v pf : Value) (hv : ∃ a n p, v = .slice a n p) (hp : ∃ g, pf = .func (.func g) #[] #[]) (W : World) :
    Calls Try.prog 159 #[v, pf] W fun e w' => e = .returned (.func (.func VT) #[] #[.pointer (some ⟨W.heap.size, 0, none⟩), .pointer (some ⟨W.heap.size + 1, 0, none⟩)]) ∧
      w' = (W.alloc (.cells #[v] 113)).alloc (.cells #[pf] 184) := by
  obtain ⟨a, n, p, rfl⟩ := hv
  obtain ⟨g, rfl⟩ := hp
  go_enter Try.func159, Try.ntmps159
  go_wp2_with fail
  go_ret
  exact ⟨rfl, rfl⟩
def AllB (xs : List (Nat × Nd)) : Prop := ∀ p ∈ xs, aloneD p.2 = true
def SomeB (xs : List (Nat × Nd)) : Prop := ∃ p ∈ xs, aloneD p.2 = false
theorem allB_is {xs : List (Nat × Nd)} (h : AllB xs) : (xs.all fun p => aloneD p.2) = true := List.all_eq_true.2 h
theorem someB_is {xs : List (Nat × Nd)} (h : SomeB xs) : (xs.all fun p => aloneD p.2) = false := by
  obtain ⟨p, hp, ha⟩ := h
  by_cases e : (xs.all fun p => aloneD p.2) = true
  · have := List.all_eq_true.1 e p hp
    rw [ha] at this; cases this
  · simpa using e
theorem setRow_new (w : World) (zs cs : Array Value) (T : TypeId) : (w.alloc (.cells zs T)).setRow w.heap.size cs = w.alloc (.cells cs T) := by
  unfold World.setRow World.alloc
  congr 1
  refine Array.ext_getElem? fun i => ?_
  simp only [Array.getElem?_modify, Array.getElem?_push]
  by_cases e : w.heap.size = i
  · subst e; simp
  · rw [if_neg e]; rw [if_neg (fun h => e h.symm), if_neg (fun h => e h.symm)]
theorem stX_new {w : World} {ys : List Value} (hl : ys.length = 20) (ho : ys.all Value.oneCell' = true) :
    (stX 112 (.pointer (some ⟨w.heap.size, 0, none⟩)) (.agg ys.toArray)).run Try.prog (w.alloc (.cells #[.int .i64 0, .int .i64 0, .bool false, .int .i64 0, .int .i64 0, .string ⟨#[]⟩, .string ⟨#[]⟩, .string ⟨#[]⟩, .slice none 0 0, .slice none 0 0, .int .i64 0, .int .i64 0, .bool false, .int .i64 0, .int .i64 0, .string ⟨#[]⟩, .string ⟨#[]⟩, .string ⟨#[]⟩, .slice none 0 0, .slice none 0 0] 112)) = .ok .skip (w.alloc (.cells ys.toArray 112)) := by
  have h := storeAt_row (P := Try.prog) (zs := #[.int .i64 0, .int .i64 0, .bool false, .int .i64 0, .int .i64 0, .string ⟨#[]⟩, .string ⟨#[]⟩, .string ⟨#[]⟩, .slice none 0 0, .slice none 0 0, .int .i64 0, .int .i64 0, .bool false, .int .i64 0, .int .i64 0, .string ⟨#[]⟩, .string ⟨#[]⟩, .string ⟨#[]⟩, .slice none 0 0, .slice none 0 0]) ys (fun w => by rw [hl]; exact Try.sizeOf112 w) hl ho (RowAt.new w 112 #[.int .i64 0, .int .i64 0, .bool false, .int .i64 0, .int .i64 0, .string ⟨#[]⟩, .string ⟨#[]⟩, .string ⟨#[]⟩, .slice none 0 0, .slice none 0 0, .int .i64 0, .int .i64 0, .bool false, .int .i64 0, .int .i64 0, .string ⟨#[]⟩, .string ⟨#[]⟩, .string ⟨#[]⟩, .slice none 0 0, .slice none 0 0])
  rw [setRow_new] at h
  simp [stX, h, Result.andThen]
set_option maxRecDepth 100000 in
set_option maxHeartbeats 8000000 in
theorem allSame_any (w0 W : World) (L : List Nd) (v : Value) (hb0 : Below w0.heap.size w0 W) (hv : LK twTy w0 W (fun _ => True) v L) (hL : ∀ t ∈ L, BdT t) (hws : wsum L ≤ 2000000) :
    Calls Try.prog 92 #[v] W fun e w' => e = .returned (.bool (L.all fun t => sameC exprTy t (cut 10 t))) ∧ Below W.heap.size W w' := by
  obtain ⟨a0, cap, rfl⟩ := hv.slice
  have hz := hb0.size
  have hall : ((L.flatMap (preT 1)).all fun p => aloneD p.2) = L.all fun t => sameC exprTy t (cut 10 t) := by
    refine all_flat fun t ht => ?_
    have := wt_le_wsum ht
    exact same_pre 2999999 1 t (hL t ht) (by omega)
  have hbd : ∀ p ∈ L.flatMap (preT 1), BdT p.2 ∧ p.1 < 3000000 := fun p hp => by
    obtain ⟨t, ht, hp⟩ := List.mem_flatMap.1 hp
    have := wt_le_wsum ht
    obtain ⟨h1, h2⟩ := (preF_bound (3000000 - 1) 1 t (hL t ht)).2 p hp
    exact ⟨h1, by unfold wt at h2; unfold wt at this; omega⟩
  have hlen : (L.flatMap (preT 1)).length ≤ 2000000 := Nat.le_trans (flat_bound fun t ht => (preF_bound (3000000 - 1) 1 t (hL t ht)).1) hws
  rw [← hall]
  clear hall hL hws
  generalize hxs : L.flatMap (preT 1) = xs at hbd hlen ⊢
  refine (callsIn_wide (n := 5)).1 ?_
  refine callsIn_of_wp_marks Try.func92 rfl trivial ?_ rfl
  simp only [Try.ntmps92, List.size_toArray, List.length_cons, List.length_nil, Nat.reduceAdd, Nat.reduceSub, Array.replicate_succ, Array.replicate_zero, List.push_toArray, List.append_toArray, List.nil_append, List.cons_append]
  have H0 := RowAt.new W 4 #[.bool false]
  have B0 : Below W.heap.size W (W.alloc (.cells #[.bool false] 4)) := (Below.refl _ _).alloc (Nat.le_refl _) _
  have s0 : (W.alloc (.cells #[.bool false] 4)).heap.size = W.heap.size + 1 := by simp
  gi_wp2
  generalize W.alloc (.cells #[.bool false] 4) = w1 at *
  refine ⟨trivial, (callsIn_wide.2 (visitsT_any _ _ ⟨_, _, _, rfl⟩ ⟨_, rfl⟩ w1)).mono ?_⟩
  rintro e w3 ⟨rfl, hw3⟩
  have k1 : w3.cell? ⟨w1.heap.size, 0, none⟩ = some (.slice a0 L.length cap) := by rw [hw3]; exact ((RowAt.new w1 113 #[.slice a0 L.length cap]).alloc _).cell (i := 0) rfl
  have k2 : w3.cell? ⟨w1.heap.size + 1, 0, none⟩ = some (.func (.func 160) #[] #[]) := by
    have h := (RowAt.new (w1.alloc (.cells #[.slice a0 L.length cap] 113)) 184 #[.func (.func 160) #[] #[]]).cell (i := 0) rfl
    rw [World.size_alloc] at h
    rw [hw3]; exact h
  have b3 : Below w1.heap.size w1 w3 := by rw [hw3]; exact ((Below.refl _ _).alloc (Nat.le_refl _) _).alloc (by simp) _
  have s3 : w3.heap.size = W.heap.size + 3 := by rw [hw3]; simp [s0]
  clear hw3
  have H3 := H0.later b3
  have B3 : Below W.heap.size W w3 := B0.trans (b3.mono (by omega))
  rw [s0] at k1 k2
  gi_wp2
  refine wpIn_rangeV (α := Nat × Nd) rfl (by decide) (gf := VT) (lb := #[.pointer (some ⟨W.heap.size + 1, 0, none⟩), .pointer (some ⟨W.heap.size + 1 + 1, 0, none⟩)]) rfl trivial (enters_of Try.func221 (by kernel_rfl) rfl)
    (visT_any preT partsT (fun p => aloneD p.2 = true) w0 w3 L _ _ _ (fun k => k = W.heap.size) xs _ hxs.symm hlen (hb0.trans (B3.mono hz)) (fun k hk => ⟨by omega, by omega⟩) k1 k2 (by omega)
      (hv.keep B3.size (fun g _ hlt => B3.block g hlt) fun g _ hlt => by omega) (fun d t h ha => twinsBelow_any w0 t (hbd _ h).1 ha) preT_hd (fun d t h ha => preT_eq (hbd _ h).2 ha))
    (fun k hk => by omega) (fun x v h => by obtain ⟨ys, _, rfl⟩ := h; rfl)
    (fun i Wr => RowAt Wr W.heap.size 4 #[.bool false] ∧ Below W.heap.size W Wr ∧ AllB (xs.take i))
    (fun c i Wr => c = .ret ∧ RowAt Wr W.heap.size 4 #[.bool false] ∧ Below W.heap.size W Wr ∧ SomeB xs)
    (fun i A B h hb => ⟨(hb.block _ (by omega)).trans h.1, h.2.1.trans (hb.mono (by omega)), h.2.2⟩) (fun c i A B h hb => ⟨h.1, (hb.block _ (by omega)).trans h.2.1, h.2.2.1.trans (hb.mono (by omega)), h.2.2.2⟩) ⟨H3, B3, fun p hp => by simp at hp⟩
    (fun x a Wr => ∃ (ys : List Value) (Bx : Nat), OutK twTy w0 ys [x.2] ∧ w3.heap.size + 1 < Bx ∧ RowAt Wr Bx 112 ys.toArray ∧
      a = { tmps := #[.slice a0 L.length cap, undef, .pointer (some ⟨W.heap.size, 0, none⟩), undef, .pointer (some ⟨Bx, 0, none⟩), .slice a0 L.length cap, .func (.func VT) #[] #[.pointer (some ⟨W.heap.size + 1, 0, none⟩), .pointer (some ⟨W.heap.size + 1 + 1, 0, none⟩)], .int .i64 (x.1 : Int), .agg ys.toArray, undef, undef, undef], defers := [] })
    (fun x a A B h hk => by obtain ⟨ys, Bx, h1, h2, h3, h4⟩ := h; exact ⟨ys, Bx, h1, h2, (hk Bx h2).trans h3, h4⟩) ?assign ?body ?done ?stop
  case assign =>
    rintro l ⟨d, t⟩ v W1 K ⟨ys, hys, rfl⟩ hsz hK
    have hyl : ys.length = 20 := hys.1
    have hyo : ys.all Value.oneCell' = true := List.all_eq_true.2 hys.ones
    have hst := stX_new (w := W1) hyl hyo
    gi_wp2
    exact hK _ _ ⟨ys, W1.heap.size, hys, hsz, RowAt.new W1 _ _, rfl⟩ ((Below.refl _ _).alloc (Nat.le_refl _) _)
  case body =>
    rintro l i ⟨d, t⟩ a1 W1 hx ⟨hI, hB, hA⟩ hsz ⟨ys, Bx, hys, hBx, hR, rfl⟩
    have hyl : ys.length = 20 := hys.1
    have ld := run_ldX (P := Try.prog) (o := 0) hyl Try.isAgg112 Try.sizeOf112 fun j u hj => by rw [Nat.zero_add]; exact hR.cell (i := j) (by simpa using hj)
    have hmem : (d, t) ∈ xs := List.mem_of_getElem? hx
    have hcall := sameAlone_any w0 t ys W1 hys (hb0.trans (hB.mono hz)) (hbd _ hmem).1
    have htk : Hid (xs.take (i + 1) = xs.take i ++ [(d, t)]) := take_next hx
    generalize ha : aloneD t = va at hcall
    have HA := Lib.hid ha
    clear ha
    cases va
    case true =>
      have hA2 : AllB (xs.take (i + 1)) := fun p hp => by
        rw [htk.out, List.mem_append] at hp
        rcases hp with hp | hp
        · exact hA p hp
        · rw [List.mem_singleton.1 hp]; exact HA.out
      gi_wp2
      refine ⟨trivial, (CallsIn.inRound l (callsIn_wide.2 hcall)).mono ?_⟩
      clear hcall ld
      rintro e w4 ⟨rfl, hb4⟩
      gi_wp2
      exact ⟨But.below hb4, (by first | trivial | exact HA.out), hI.later hb4, hB.trans (hb4.mono hB.size), hA2⟩
    case false =>
      gi_wp2
      refine ⟨trivial, (CallsIn.inRound l (callsIn_wide.2 hcall)).mono ?_⟩
      clear hcall ld
      rintro e w4 ⟨rfl, hb4⟩
      have hI4 := hI.later hb4
      have x0 := hI4.cell (i := 0) (v := .bool false) rfl
      have x1 := hI4.soft 0
      have hI5 : RowAt (w4.setCell ⟨W.heap.size, 0, none⟩ (.bool false)) W.heap.size 4 #[.bool false] := hI4.set 0 _
      gi_wp2
      exact ⟨(But.below hb4).trans (But.setCell _ ⟨W.heap.size, 0, none⟩ _ rfl), rfl, hI5, (hB.trans (hb4.mono hB.size)).setCell (p := ⟨W.heap.size, 0, none⟩) (Nat.le_refl _) _, ⟨(d, t), hmem, HA.out⟩⟩
  case done =>
    rintro D W1 hD ⟨hI, hB, hA⟩ hK
    have x0 := hI.cell (i := 0) (v := .bool false) rfl
    have x1 := hI.soft 0
    have hI5 : RowAt (W1.setCell ⟨W.heap.size, 0, none⟩ (.bool true)) W.heap.size 4 #[.bool true] := hI.set 0 _
    have hB5 := hB.setCell (p := ⟨W.heap.size, 0, none⟩) (Nat.le_refl _) (.bool true)
    have hK5 : (W1.setCell ⟨W.heap.size, 0, none⟩ (.bool true)).heap[D]? = some (.deferred (some [])) := (heap_setCell_other W1 ⟨W.heap.size, 0, none⟩ D _ (by show D ≠ W.heap.size; omega)).trans hK
    gi_wp2
    have hI6 : RowAt ((W1.setCell ⟨W.heap.size, 0, none⟩ (.bool true)).putObj D (.deferred none)) W.heap.size 4 #[.bool true] := (World.putObj_heap_other (by omega)).trans hI5
    have f0 := hI6.cell (i := 0) (v := .bool true) rfl
    have hB6 := hB5.trans (below_put (W1.setCell ⟨W.heap.size, 0, none⟩ (.bool true)) D (.deferred none) (by omega))
    refine ⟨by simp, .inl ⟨_, _, rfl, run_takeDeferred hK5, ?_⟩⟩
    generalize (W1.setCell ⟨W.heap.size, 0, none⟩ (.bool true)).putObj D (.deferred none) = w9 at f0 hB6 ⊢
    refine ⟨.bool true, by simp [results, Try.results92, go_sem, f0], ?_, hB6⟩
    rw [allB_is (by rw [List.take_length] at hA; exact hA)]
  case stop =>
    rintro D c i W1 hD hle ⟨rfl, hI, hB, hA⟩ hK
    gi_wp2
    have hI6 : RowAt (W1.putObj D (.deferred none)) W.heap.size 4 #[.bool false] := (World.putObj_heap_other (by omega)).trans hI
    have f0 := hI6.cell (i := 0) (v := .bool false) rfl
    have hB6 := hB.trans (below_put W1 D (.deferred none) (by omega))
    refine ⟨by simp, .inl ⟨_, _, rfl, run_takeDeferred hK, ?_⟩⟩
    generalize W1.putObj D (.deferred none) = w9 at f0 hB6 ⊢
    refine ⟨.bool false, by simp [results, Try.results92, go_sem, f0], ?_, hB6⟩
    rw [someB_is hA]
end Go.Proofs.Ytbbfanhhldbhhaa

/- The program's SameExpr. -/
namespace Go.Proofs.Ytbbfanhhldbhhaa
open Go.RowKit

set_option maxRecDepth 100000 in
set_option maxHeartbeats 8000000 in
theorem SameExpr_any (w0 : World) (c c' : Nd) (us vs : List Value) (W : World) (hx : OutK exprTy w0 us [c]) (hy : OutK exprTy w0 vs [c']) (hb0 : Below w0.heap.size w0 W) (hc : Bd c) (hc' : Bd c') (hw : wt c ≤ 2000000) :
    Calls Try.prog 28 #[.agg us.toArray, .agg vs.toArray] W (BoolE (sameC exprTy c c') W) := by
  have hout := out_pair hx hy
  have hbd := bdT_pair hc hc'
  obtain ⟨x0, x1, x2, x3, x4, x5, x6, x7, ax8, nx8, px8, ax9, nx9, px9, rfl, -⟩ := hx.ten
  obtain ⟨y0, y1, y2, y3, y4, y5, y6, y7, ay8, ny8, py8, ay9, ny9, py9, rfl, -⟩ := hy.ten
  have hB : Below W.heap.size W ((W.alloc (.cells #[.int .i64 x0, .int .i64 x1, .bool x2, .int .i64 x3, .int .i64 x4, .string x5, .string x6, .string x7, .slice ax8 nx8 px8, .slice ax9 nx9 px9] 34)).alloc (.cells #[.int .i64 y0, .int .i64 y1, .bool y2, .int .i64 y3, .int .i64 y4, .string y5, .string y6, .string y7, .slice ay8 ny8 py8, .slice ay9 ny9 py9] 34)) := ((Below.refl _ _).alloc (Nat.le_refl _) _).alloc (by simp) _
  have s2 : ((W.alloc (.cells #[.int .i64 x0, .int .i64 x1, .bool x2, .int .i64 x3, .int .i64 x4, .string x5, .string x6, .string x7, .slice ax8 nx8 px8, .slice ax9 nx9 px9] 34)).alloc (.cells #[.int .i64 y0, .int .i64 y1, .bool y2, .int .i64 y3, .int .i64 y4, .string y5, .string y6, .string y7, .slice ay8 ny8 py8, .slice ay9 ny9 py9] 34)).heap.size = W.heap.size + 2 := by simp
  clear hx hy
  go_enter Try.func28, Try.ntmps28
  go_wp2_with fail
  generalize ((W.alloc (.cells #[.int .i64 x0, .int .i64 x1, .bool x2, .int .i64 x3, .int .i64 x4, .string x5, .string x6, .string x7, .slice ax8 nx8 px8, .slice ax9 nx9 px9] 34)).alloc (.cells #[.int .i64 y0, .int .i64 y1, .bool y2, .int .i64 y3, .int .i64 y4, .string y5, .string y6, .string y7, .slice ay8 ny8 py8, .slice ay9 ny9 py9] 34)) = w2 at hB s2 ⊢
  have R := RowAt.new w2 112 #[.int .i64 x0, .int .i64 x1, .bool x2, .int .i64 x3, .int .i64 x4, .string x5, .string x6, .string x7, .slice ax8 nx8 px8, .slice ax9 nx9 px9, .int .i64 y0, .int .i64 y1, .bool y2, .int .i64 y3, .int .i64 y4, .string y5, .string y6, .string y7, .slice ay8 ny8 py8, .slice ay9 ny9 py9]
  have hal : Below w2.heap.size w2 (w2.alloc (.cells #[.int .i64 x0, .int .i64 x1, .bool x2, .int .i64 x3, .int .i64 x4, .string x5, .string x6, .string x7, .slice ax8 nx8 px8, .slice ax9 nx9 px9, .int .i64 y0, .int .i64 y1, .bool y2, .int .i64 y3, .int .i64 y4, .string y5, .string y6, .string y7, .slice ay8 ny8 py8, .slice ay9 ny9 py9] 112)) := (Below.refl _ _).alloc (Nat.le_refl _) _
  rw [s2] at R
  generalize w2.alloc (.cells #[.int .i64 x0, .int .i64 x1, .bool x2, .int .i64 x3, .int .i64 x4, .string x5, .string x6, .string x7, .slice ax8 nx8 px8, .slice ax9 nx9 px9, .int .i64 y0, .int .i64 y1, .bool y2, .int .i64 y3, .int .i64 y4, .string y5, .string y6, .string y7, .slice ay8 ny8 py8, .slice ay9 ny9 py9] 112) = w3 at R hal ⊢
  have hB3 := hB.trans (hal.mono hB.size)
  have hlk : LK twTy w0 w3 (fun _ => True) (.slice (some ⟨W.heap.size + 2, 0, none⟩) 1 1) [pairT c c'] :=
    ⟨_, 1, _, rfl, hout, .inr ⟨W.heap.size + 2, 0, rfl, Nat.le_refl _, trivial, R.lt, fun j u hj => by rw [Nat.zero_add]; exact R.cell (by simpa using hj)⟩⟩
  refine (allSame_any w0 w3 [pairT c c'] _ (hb0.trans (hB3.mono hb0.size)) hlk (fun t ht => by rw [List.mem_singleton.1 ht]; exact hbd) (by rw [wsum_cons, wt_pair]; show wt c + 0 ≤ _; omega)).mono ?_
  rintro e w4 ⟨rfl, hb4⟩
  have hv : ([pairT c c'].all fun t => sameC exprTy t (cut 10 t)) = sameC exprTy c c' := by
    rw [List.all_cons, List.all_nil, Bool.and_true, sameC_pair]
  rw [hv]
  have hf := hB3.trans (hb4.mono hB3.size)
  go_wp2_with fail
  go_ret
  exact ⟨rfl, hf⟩
end Go.Proofs.Ytbbfanhhldbhhaa

/- The model's comparison of trees. -/
namespace Go.Proofs.Ytbbfanhhldbhhaa
open Go.RowKit

/-- what the model's SameExpr and l7Same are known to give -/
def SameExprP (c c' : Nat → Dat) : Prop := ∀ (x0 x1 : Int) (x2 : Bool) (x3 x4 : Int) (x5 x6 x7 : ByteArray) (x8 x9 : Value) (y0 y1 : Int) (y2 : Bool) (y3 y4 : Int) (y5 y6 y7 : ByteArray) (y8 y9 : Value) (w : World),
  Rd w 0 x8 (c 8) → Fits (c 8) .exprs → Rd w 0 x9 (c 9) → Fits (c 9) .queries → Rd w 0 y8 (c' 8) → Fits (c' 8) .exprs → Rd w 0 y9 (c' 9) → Fits (c' 9) .queries →
  Calls Try.prog 27 #[.agg #[.int .i64 x0, .int .i64 x1, .bool x2, .int .i64 x3, .int .i64 x4, .string x5, .string x6, .string x7, x8, x9], .agg #[.int .i64 y0, .int .i64 y1, .bool y2, .int .i64 y3, .int .i64 y4, .string y5, .string y6, .string y7, y8, y9]] w (BoolE (sameFields x0 y0 x1 y1 x2 y2 x3 y3 x4 y4 x5 y5 x6 y6 x7 y7 (same (c 8) (c' 8) .exprs) (same (c 9) (c' 9) .queries)) w)
def SameSP (d d' : Dat) : Prop := ∀ (x y : Value) (w : World), Rd w 0 x d → Fits d .exprs → Rd w 0 y d' → Fits d' .exprs → Calls Try.prog 91 #[x, y] w (BoolE (same d d' .exprs) w)
set_option maxRecDepth 100000 in
set_option maxHeartbeats 4000000 in
theorem l7Same_step (n n' : Nat) (f f' : Nat → Nat → Dat) (IH : ∀ i, i < n → SameExprP (f i) (f' i)) : SameSP (.sl n 10 f) (.sl n' 10 f') := by
  intro x y w hr hf hs hf'
  obtain ⟨a, cap, rfl⟩ := hr.slice
  obtain ⟨a2, cap2, rfl⟩ := hs.slice
  have hn := hf.2.1
  have hn' := hf'.2.1
  rw [same_sl]
  by_cases hnn : n = n'
  case neg =>
    have d : ((n : Int) != (n' : Int)) = true := by simp; omega
    have d2 : (n == n') = false := by simpa using hnn
    rw [d2, Bool.false_and]
    clear hnn d2
    go_enter Try.func91, Try.ntmps91
    go_wp2_with fail
    go_ret
    exact ⟨rfl, Below.refl _ _⟩
  subst hnn
  have HV : Hid (((n == n) && (List.range n).all fun i => sameC (rowTy .exprs) (f i) (f' i)) = (List.range n).all fun i => sameC exprTy (f i) (f' i)) := by show _ = _; simp [rowTy]
  rw [HV.out]
  clear HV
  go_enter Try.func91, Try.ntmps91
  go_wp2_with fail
  go_loopw [5] (fun i wr => ∃ j : Nat, j ≤ n ∧ i = .int .i64 (j : Int) ∧ Hid (((List.range j).all fun i => sameC exprTy (f i) (f' i)) = true) ∧ Below w.heap.size w wr) (fun i _ => n - (intOf i).toNat)
  case atStart => exact ⟨0, by omega, rfl, rfl, Below.refl _ _⟩
  case round =>
    obtain ⟨j, hj, rfl, HA, hB⟩ := hrel
    by_cases hlt : j < n
    · have hlt2 : (j : Int) < (n : Int) := by omega
      obtain ⟨g, o, rfl, -, hg, x0, x1, x2, x3, x4, x5, x6, x7, x8, x9, ⟨z0, z1, z2, z3, z4, z5, z6, z7, z8, z9⟩, ⟨⟨e0, b0⟩, ⟨e1, b1⟩, e2, ⟨e3, b3⟩, ⟨e4, b4⟩, ⟨e5, b5⟩, ⟨e6, b6⟩, ⟨e7, b7⟩, ⟨r8, q8⟩, ⟨r9, q9⟩⟩⟩ := row_exprs (hr.later hB) hf hlt
      obtain ⟨g2, o2, rfl, -, hg2, y0, y1, y2, y3, y4, y5, y6, y7, y8, y9, ⟨k0, k1, k2, k3, k4, k5, k6, k7, k8, k9⟩, ⟨⟨l0, m0⟩, ⟨l1, m1⟩, l2, ⟨l3, m3⟩, ⟨l4, m4⟩, ⟨l5, m5⟩, ⟨l6, m6⟩, ⟨l7, m7⟩, ⟨s8, t8⟩, ⟨s9, t9⟩⟩⟩ := row_exprs (hs.later hB) hf' hlt
      have hE := fun (v : World) (h : Below wr.heap.size wr v) => IH j hlt x0 x1 x2 x3 x4 x5 x6 x7 x8 x9 y0 y1 y2 y3 y4 y5 y6 y7 y8 y9 v (Rd.later r8 h) q8 (Rd.later r9 h) q9 (Rd.later s8 h) t8 (Rd.later s9 h) t9
      simp only [← sameC_expr e0 l0 e1 l1 e2 l2 e3 l3 e4 l4 e5 l5 e6 l6 e7 l7] at hE
      clear e0 l0 e1 l1 e2 l2 e3 l3 e4 l4 e5 l5 e6 l6 e7 l7
      replace z0 := lat_cell z0
      replace k0 := lat_cell k0
      replace z1 := lat_cell z1
      replace k1 := lat_cell k1
      replace z2 := lat_cell z2
      replace k2 := lat_cell k2
      replace z3 := lat_cell z3
      replace k3 := lat_cell k3
      replace z4 := lat_cell z4
      replace k4 := lat_cell k4
      replace z5 := lat_cell z5
      replace k5 := lat_cell k5
      replace z6 := lat_cell z6
      replace k6 := lat_cell k6
      replace z7 := lat_cell z7
      replace k7 := lat_cell k7
      replace z8 := lat_cell z8
      replace k8 := lat_cell k8
      replace z9 := lat_cell z9
      replace k9 := lat_cell k9
      cases hV : sameC exprTy (f j) (f' j)
      all_goals
        rw [hV] at hE
        have HV2 := Lib.hid hV
        clear hV
        go_wp2_with fail
        refine region_lat (by kernel_rfl) (by kernel_rfl) ?_
        iterate 10 (go_big_quiet_step ((refine (hE _ (lat_below wr _)).mono ?_; rintro e w'' ⟨rfl, hb''⟩; exact ⟨rfl, lat_to hb''⟩)))
        refine wpQuiet_nil ?_
        rintro _ ⟨nq, rfl⟩
        have hbq := hB.trans ((lat_below wr nq).mono hB.size)
        clear hE z0 k0 z1 k1 z2 k2 z3 k3 z4 k4 z5 k5 z6 k6 z7 k7 z8 k8 z9 k9
        generalize lat wr nq = wq at hbq ⊢
      · go_wp2_with fail
        go_ret
        refine ⟨?_, hbq⟩
        have h : ((List.range n).all fun i => sameC exprTy (f i) (f' i)) = false := by
          rw [List.all_eq_false]
          exact ⟨j, List.mem_range.2 hlt, by rw [HV2.out]; simp⟩
        rw [h]
        rfl
      · have HA2 : Hid (((List.range (j + 1)).all fun i => sameC exprTy (f i) (f' i)) = true) := by show _ = true; rw [all_succ, HA.out, HV2.out]; rfl
        go_wp2_with fail
        go_roundw
        case rel => exact ⟨j + 1, by omega, by go_num, HA2, hbq⟩
        case measure => simp [intOf]; omega
    · obtain rfl : n = j := by omega
      go_wp2_with fail
      go_ret
      exact ⟨by rw [HA.out]; rfl, hB⟩
end Go.Proofs.Ytbbfanhhldbhhaa
