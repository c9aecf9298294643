/- Joined texts: AllSame StE DrawB0 DrawS DrawE Key. -/
import Derived.Test.YtkacelpndeoogaaQHTwB
import Derived.Test.YtkacelpndeoogaaQPH
import Derived.Test.YtkacelpndeoogaaQPA
import Derived.Test.YtkacelpndeoogaaQPB
import Derived.Test.YtkacelpndeoogaaQPC
import Derived.Shelf.Abstract
import Derived.Laws.Tables
/- The program's allSame. -/
namespace Go.Proofs.Ytkacelpndeoogaa
open Go.RowKit
attribute [local go_sem] Oper.semAt_some
attribute [local go_sem ↓] execOp_ldT execOp_stX

theorem visitsT_any (v pf : Value) (hv : ∃ a n p, v = .slice a n p) (hp : ∃ g, pf = .func (.func g) #[] #[]) (W : World) :
    Calls Try.prog 105 #[v, pf] W fun e w' => e = .returned (.func (.func VT) #[] #[.pointer (some ⟨W.heap.size, 0, none⟩), .pointer (some ⟨W.heap.size + 1, 0, none⟩)]) ∧
      w' = (W.alloc (.cells #[v] 79)).alloc (.cells #[pf] 135) := by
  obtain ⟨a, n, p, rfl⟩ := hv
  obtain ⟨g, rfl⟩ := hp
  go_enter Try.func105, Try.ntmps105
  go_wp2_with fail
  go_ret
  exact ⟨rfl, rfl⟩
def AllB (xs : List (Nat × Nd)) : Prop := ∀ p ∈ xs, aloneD p.2 = true
def SomeB (xs : List (Nat × Nd)) : Prop := ∃ p ∈ xs, aloneD p.2 = false
theorem allB_is {xs : List (Nat × Nd)} (h : AllB xs) : (xs.all fun p => aloneD p.2) = true := List.all_eq_true.2 h
theorem someB_is {xs : List (Nat × Nd)} (h : SomeB xs) : (xs.all fun p => aloneD p.2) = false := by
  obtain ⟨p, hp, ha⟩ := h
  by_cases e : (xs.all fun p => aloneD p.2) = true
  · have := List.all_eq_true.1 e p hp
    rw [ha] at this; cases this
  · simpa using e
theorem setRow_new (w : World) (zs cs : Array Value) (T : TypeId) : (w.alloc (.cells zs T)).setRow w.heap.size cs = w.alloc (.cells cs T) := by
  unfold World.setRow World.alloc
  congr 1
  refine Array.ext_getElem? fun i => ?_
  simp only [Array.getElem?_modify, Array.getElem?_push]
  by_cases e : w.heap.size = i
  · subst e; simp
  · rw [if_neg e]; rw [if_neg (fun h => e h.symm), if_neg (fun h => e h.symm)]
theorem stX_new {w : World} {ys : List Value} (hl : ys.length = 20) (ho : ys.all Value.oneCell' = true) :
    (stX 78 (.pointer (some ⟨w.heap.size, 0, none⟩)) (.agg ys.toArray)).run Try.prog (w.alloc (.cells #[.int .i64 0, .int .i64 0, .bool false, .int .i64 0, .int .i64 0, .string ⟨#[]⟩, .string ⟨#[]⟩, .string ⟨#[]⟩, .slice none 0 0, .slice none 0 0, .int .i64 0, .int .i64 0, .bool false, .int .i64 0, .int .i64 0, .string ⟨#[]⟩, .string ⟨#[]⟩, .string ⟨#[]⟩, .slice none 0 0, .slice none 0 0] 78)) = .ok .skip (w.alloc (.cells ys.toArray 78)) := by
  have h := storeAt_row (P := Try.prog) (zs := #[.int .i64 0, .int .i64 0, .bool false, .int .i64 0, .int .i64 0, .string ⟨#[]⟩, .string ⟨#[]⟩, .string ⟨#[]⟩, .slice none 0 0, .slice none 0 0, .int .i64 0, .int .i64 0, .bool false, .int .i64 0, .int .i64 0, .string ⟨#[]⟩, .string ⟨#[]⟩, .string ⟨#[]⟩, .slice none 0 0, .slice none 0 0]) ys (fun w => by rw [hl]; exact Try.sizeOf78 w) hl ho (RowAt.new w 78 #[.int .i64 0, .int .i64 0, .bool false, .int .i64 0, .int .i64 0, .string ⟨#[]⟩, .string ⟨#[]⟩, .string ⟨#[]⟩, .slice none 0 0, .slice none 0 0, .int .i64 0, .int .i64 0, .bool false, .int .i64 0, .int .i64 0, .string ⟨#[]⟩, .string ⟨#[]⟩, .string ⟨#[]⟩, .slice none 0 0, .slice none 0 0])
  rw [setRow_new] at h
  simp [stX, h, Result.andThen]
set_option maxRecDepth 100000 in
set_option maxHeartbeats 8000000 in
theorem allSame_any (w0 W : World) (L : List Nd) (v : Value) (hb0 : Below w0.heap.size w0 W) (hv : LK twTy w0 W (fun _ => True) v L) (hL : ∀ t ∈ L, BdT t) (hws : wsum L ≤ 2000000) :
    Calls Try.prog 49 #[v] W fun e w' => e = .returned (.bool (L.all fun t => sameC exprTy t (cut 10 t))) ∧ Below W.heap.size W w' := by
  obtain ⟨a0, cap, rfl⟩ := hv.slice
  have hz := hb0.size
  have hall : ((L.flatMap (preT 1)).all fun p => aloneD p.2) = L.all fun t => sameC exprTy t (cut 10 t) := by
    refine all_flat fun t ht => ?_
    have := wt_le_wsum ht
    exact same_pre 2999999 1 t (hL t ht) (by omega)
  have hbd : ∀ p ∈ L.flatMap (preT 1), BdT p.2 ∧ p.1 < 3000000 := fun p hp => by
    obtain ⟨t, ht, hp⟩ := List.mem_flatMap.1 hp
    have := wt_le_wsum ht
    obtain ⟨h1, h2⟩ := (preF_bound (3000000 - 1) 1 t (hL t ht)).2 p hp
    exact ⟨h1, by unfold wt at h2; unfold wt at this; omega⟩
  have hlen : (L.flatMap (preT 1)).length ≤ 2000000 := Nat.le_trans (flat_bound fun t ht => (preF_bound (3000000 - 1) 1 t (hL t ht)).1) hws
  rw [← hall]
  clear hall hL hws
  generalize hxs : L.flatMap (preT 1) = xs at hbd hlen ⊢
  refine (callsIn_wide (n := 5)).1 ?_
  refine callsIn_of_wp_marks Try.func49 rfl trivial ?_ rfl
  simp only [Try.ntmps49, List.size_toArray, List.length_cons, List.length_nil, Nat.reduceAdd, Nat.reduceSub, Array.replicate_succ, Array.replicate_zero, List.push_toArray, List.append_toArray, List.nil_append, List.cons_append]
  have H0 := RowAt.new W 4 #[.bool false]
  have B0 : Below W.heap.size W (W.alloc (.cells #[.bool false] 4)) := (Below.refl _ _).alloc (Nat.le_refl _) _
  have s0 : (W.alloc (.cells #[.bool false] 4)).heap.size = W.heap.size + 1 := by simp
  gi_wp2
  generalize W.alloc (.cells #[.bool false] 4) = w1 at *
  refine ⟨trivial, (callsIn_wide.2 (visitsT_any _ _ ⟨_, _, _, rfl⟩ ⟨_, rfl⟩ w1)).mono ?_⟩
  rintro e w3 ⟨rfl, hw3⟩
  have k1 : w3.cell? ⟨w1.heap.size, 0, none⟩ = some (.slice a0 L.length cap) := by rw [hw3]; exact ((RowAt.new w1 79 #[.slice a0 L.length cap]).alloc _).cell (i := 0) rfl
  have k2 : w3.cell? ⟨w1.heap.size + 1, 0, none⟩ = some (.func (.func 106) #[] #[]) := by
    have h := (RowAt.new (w1.alloc (.cells #[.slice a0 L.length cap] 79)) 135 #[.func (.func 106) #[] #[]]).cell (i := 0) rfl
    rw [World.size_alloc] at h
    rw [hw3]; exact h
  have b3 : Below w1.heap.size w1 w3 := by rw [hw3]; exact ((Below.refl _ _).alloc (Nat.le_refl _) _).alloc (by simp) _
  have s3 : w3.heap.size = W.heap.size + 3 := by rw [hw3]; simp [s0]
  clear hw3
  have H3 := H0.later b3
  have B3 : Below W.heap.size W w3 := B0.trans (b3.mono (by omega))
  rw [s0] at k1 k2
  gi_wp2
  refine wpIn_rangeV (α := Nat × Nd) rfl (by decide) (gf := VT) (lb := #[.pointer (some ⟨W.heap.size + 1, 0, none⟩), .pointer (some ⟨W.heap.size + 1 + 1, 0, none⟩)]) rfl trivial (enters_of Try.func171 (by kernel_rfl) rfl)
    (visT_any preT partsT (fun p => aloneD p.2 = true) w0 w3 L _ _ _ (fun k => k = W.heap.size) xs _ hxs.symm hlen (hb0.trans (B3.mono hz)) (fun k hk => ⟨by omega, by omega⟩) k1 k2 (by omega)
      (hv.keep B3.size (fun g _ hlt => B3.block g hlt) fun g _ hlt => by omega) (fun d t h ha => twinsBelow_any w0 t (hbd _ h).1 ha) preT_hd (fun d t h ha => preT_eq (hbd _ h).2 ha))
    (fun k hk => by omega) (fun x v h => by obtain ⟨ys, _, rfl⟩ := h; rfl)
    (fun i Wr => RowAt Wr W.heap.size 4 #[.bool false] ∧ Below W.heap.size W Wr ∧ AllB (xs.take i))
    (fun c i Wr => c = .ret ∧ RowAt Wr W.heap.size 4 #[.bool false] ∧ Below W.heap.size W Wr ∧ SomeB xs)
    (fun i A B h hb => ⟨(hb.block _ (by omega)).trans h.1, h.2.1.trans (hb.mono (by omega)), h.2.2⟩) (fun c i A B h hb => ⟨h.1, (hb.block _ (by omega)).trans h.2.1, h.2.2.1.trans (hb.mono (by omega)), h.2.2.2⟩) ⟨H3, B3, fun p hp => by simp at hp⟩
    (fun x a Wr => ∃ (ys : List Value) (Bx : Nat), OutK twTy w0 ys [x.2] ∧ w3.heap.size + 1 < Bx ∧ RowAt Wr Bx 78 ys.toArray ∧
      a = { tmps := #[.slice a0 L.length cap, undef, .pointer (some ⟨W.heap.size, 0, none⟩), undef, .pointer (some ⟨Bx, 0, none⟩), .slice a0 L.length cap, .func (.func VT) #[] #[.pointer (some ⟨W.heap.size + 1, 0, none⟩), .pointer (some ⟨W.heap.size + 1 + 1, 0, none⟩)], .int .i64 (x.1 : Int), .agg ys.toArray, undef, undef, undef], defers := [] })
    (fun x a A B h hk => by obtain ⟨ys, Bx, h1, h2, h3, h4⟩ := h; exact ⟨ys, Bx, h1, h2, (hk Bx h2).trans h3, h4⟩) ?assign ?body ?done ?stop
  case assign =>
    rintro l ⟨d, t⟩ v W1 K ⟨ys, hys, rfl⟩ hsz hK
    have hyl : ys.length = 20 := hys.1
    have hyo : ys.all Value.oneCell' = true := List.all_eq_true.2 hys.ones
    have hst := stX_new (w := W1) hyl hyo
    gi_wp2
    exact hK _ _ ⟨ys, W1.heap.size, hys, hsz, RowAt.new W1 _ _, rfl⟩ ((Below.refl _ _).alloc (Nat.le_refl _) _)
  case body =>
    rintro l i ⟨d, t⟩ a1 W1 hx ⟨hI, hB, hA⟩ hsz ⟨ys, Bx, hys, hBx, hR, rfl⟩
    have hyl : ys.length = 20 := hys.1
    have ld := run_ldX (P := Try.prog) (o := 0) hyl Try.isAgg78 Try.sizeOf78 fun j u hj => by rw [Nat.zero_add]; exact hR.cell (i := j) (by simpa using hj)
    have hmem : (d, t) ∈ xs := List.mem_of_getElem? hx
    have hcall := sameAlone_any w0 t ys W1 hys (hb0.trans (hB.mono hz)) (hbd _ hmem).1
    have htk : Hid (xs.take (i + 1) = xs.take i ++ [(d, t)]) := take_next hx
    generalize ha : aloneD t = va at hcall
    have HA := Lib.hid ha
    clear ha
    cases va
    case true =>
      have hA2 : AllB (xs.take (i + 1)) := fun p hp => by
        rw [htk.out, List.mem_append] at hp
        rcases hp with hp | hp
        · exact hA p hp
        · rw [List.mem_singleton.1 hp]; exact HA.out
      gi_wp2
      refine ⟨trivial, (CallsIn.inRound l (callsIn_wide.2 hcall)).mono ?_⟩
      clear hcall ld
      rintro e w4 ⟨rfl, hb4⟩
      gi_wp2
      exact ⟨But.below hb4, (by first | trivial | exact HA.out), hI.later hb4, hB.trans (hb4.mono hB.size), hA2⟩
    case false =>
      gi_wp2
      refine ⟨trivial, (CallsIn.inRound l (callsIn_wide.2 hcall)).mono ?_⟩
      clear hcall ld
      rintro e w4 ⟨rfl, hb4⟩
      have hI4 := hI.later hb4
      have x0 := hI4.cell (i := 0) (v := .bool false) rfl
      have x1 := hI4.soft 0
      have hI5 : RowAt (w4.setCell ⟨W.heap.size, 0, none⟩ (.bool false)) W.heap.size 4 #[.bool false] := hI4.set 0 _
      gi_wp2
      exact ⟨(But.below hb4).trans (But.setCell _ ⟨W.heap.size, 0, none⟩ _ rfl), rfl, hI5, (hB.trans (hb4.mono hB.size)).setCell (p := ⟨W.heap.size, 0, none⟩) (Nat.le_refl _) _, ⟨(d, t), hmem, HA.out⟩⟩
  case done =>
    rintro D W1 hD ⟨hI, hB, hA⟩ hK
    have x0 := hI.cell (i := 0) (v := .bool false) rfl
    have x1 := hI.soft 0
    have hI5 : RowAt (W1.setCell ⟨W.heap.size, 0, none⟩ (.bool true)) W.heap.size 4 #[.bool true] := hI.set 0 _
    have hB5 := hB.setCell (p := ⟨W.heap.size, 0, none⟩) (Nat.le_refl _) (.bool true)
    have hK5 : (W1.setCell ⟨W.heap.size, 0, none⟩ (.bool true)).heap[D]? = some (.deferred (some [])) := (heap_setCell_other W1 ⟨W.heap.size, 0, none⟩ D _ (by show D ≠ W.heap.size; omega)).trans hK
    gi_wp2
    have hI6 : RowAt ((W1.setCell ⟨W.heap.size, 0, none⟩ (.bool true)).putObj D (.deferred none)) W.heap.size 4 #[.bool true] := (World.putObj_heap_other (by omega)).trans hI5
    have f0 := hI6.cell (i := 0) (v := .bool true) rfl
    have hB6 := hB5.trans (below_put (W1.setCell ⟨W.heap.size, 0, none⟩ (.bool true)) D (.deferred none) (by omega))
    refine ⟨by simp, .inl ⟨_, _, rfl, run_takeDeferred hK5, ?_⟩⟩
    generalize (W1.setCell ⟨W.heap.size, 0, none⟩ (.bool true)).putObj D (.deferred none) = w9 at f0 hB6 ⊢
    refine ⟨.bool true, by simp [results, Try.results49, go_sem, f0], ?_, hB6⟩
    rw [allB_is (by rw [List.take_length] at hA; exact hA)]
  case stop =>
    rintro D c i W1 hD hle ⟨rfl, hI, hB, hA⟩ hK
    gi_wp2
    have hI6 : RowAt (W1.putObj D (.deferred none)) W.heap.size 4 #[.bool false] := (World.putObj_heap_other (by omega)).trans hI
    have f0 := hI6.cell (i := 0) (v := .bool false) rfl
    have hB6 := hB.trans (below_put W1 D (.deferred none) (by omega))
    refine ⟨by simp, .inl ⟨_, _, rfl, run_takeDeferred hK, ?_⟩⟩
    generalize W1.putObj D (.deferred none) = w9 at f0 hB6 ⊢
    refine ⟨.bool false, by simp [results, Try.results49, go_sem, f0], ?_, hB6⟩
    rw [someB_is hA]
end Go.Proofs.Ytkacelpndeoogaa

/- A new block for an expression, filled in one store. -/
namespace Go.Proofs.Ytkacelpndeoogaa
open Go.RowKit

theorem execOp_stE (ρ : Operand → Value) (dst : Option Tmp) (x y : Operand) (ty : TypeId) (pos : String) (after : Array Edge) (guard : Option (Nat × Bool)) :
    execOp ρ { dst := dst, op := .store 29 x y, type := ty, pos := pos, after := after, guard := guard } = stX 29 (ρ x) (ρ y) := rfl
theorem stE_new {w : World} {ys : List Value} (hl : ys.length = 10) (ho : ys.all Value.oneCell' = true) :
    (stX 29 (.pointer (some ⟨w.heap.size, 0, none⟩)) (.agg ys.toArray)).run Try.prog (w.alloc (.cells #[.int .i64 0, .int .i64 0, .bool false, .int .i64 0, .int .i64 0, .string ⟨#[]⟩, .string ⟨#[]⟩, .string ⟨#[]⟩, .slice none 0 0, .slice none 0 0] 29)) = .ok .skip (w.alloc (.cells ys.toArray 29)) := by
  have h := storeAt_row (P := Try.prog) (zs := #[.int .i64 0, .int .i64 0, .bool false, .int .i64 0, .int .i64 0, .string ⟨#[]⟩, .string ⟨#[]⟩, .string ⟨#[]⟩, .slice none 0 0, .slice none 0 0]) ys (fun w => by rw [hl]; exact Try.sizeOf29 w) hl ho (RowAt.new w 29 #[.int .i64 0, .int .i64 0, .bool false, .int .i64 0, .int .i64 0, .string ⟨#[]⟩, .string ⟨#[]⟩, .string ⟨#[]⟩, .slice none 0 0, .slice none 0 0])
  rw [setRow_new] at h
  simp [stX, h, Result.andThen]
end Go.Proofs.Ytkacelpndeoogaa

/- The contract of the function that draws bytes. -/
namespace Go.Proofs.Ytkacelpndeoogaa
open Go.RowKit

theorem Try.info5b : (Try.prog.info? 5).map (fun i => (i.zero, i.size, i.bytes)) = some (some (.int .u8 0), 1, 1) := by kernel_rfl

theorem Cur.below {B C B' : Nat} {a : Option Addr} {len cap : Nat} {W W' : World} (H : Cur B C a len cap W) (g : Below B' W W') (hC : C < B') : Cur B C a len cap W' := by
  obtain ⟨h1, ⟨i, h, hi, hc⟩, h3, h4⟩ := H
  refine ⟨h1, ⟨i, h, hi, (g.block C hC).trans hc⟩, h3, fun j hj => ?_⟩
  obtain ⟨b, off, n, e1, e2, e3, e4, e5⟩ := h4 j hj
  exact ⟨b, off, n, e1, e2, e3, e4, (World.cell?_of_block (w := W) (w' := W') (a := ⟨b, off + j, none⟩) (g.block b (by omega))).trans e5⟩
theorem OwnB.turn {e : TypeId} {Bo C : Nat} {v : Value} {l : List UInt8} {W W' : World} (H : OwnB e W Bo v l) (g : W.grownBy W' (some C)) (hC : C < Bo) : OwnB e W' Bo v l :=
  World.ownsRow.kept H g (by
    rcases h : v.ownBlock with _ | k
    · exact .inl rfl
    · refine .inr fun e => ?_
      have := (World.ownsRow.lt H k h).1
      simp at e; omega)

def BytesE (B C : Nat) (a : Option Addr) (len cap n : Nat) (W : World) (e : Ending) (W' : World) : Prop :=
  ∃ (l : List UInt8) (g c : Nat), l.length = n ∧ e = .returned (.slice (some ⟨g, 0, none⟩) n c) ∧ OwnB 5 W' W.heap.size (.slice (some ⟨g, 0, none⟩) n c) l ∧ Cur B C a len cap W' ∧ W.grownBy W' (some C)

set_option maxRecDepth 100000 in
set_option maxHeartbeats 800000 in
theorem bytes_any (n B C : Nat) (a : Option Addr) (len cap : Nat) (W : World) (H : Cur B C a len cap W) (hn : n ≤ 1000) :
    Calls Try.prog 178 #[.pointer (some ⟨C, 0, none⟩), .int .i64 (n : Int)] W (BytesE B C a len cap n W) := by
  obtain ⟨i0, hi, hz0, hz1, hz2⟩ := info_parts Try.info5b
  have hC := H.lt
  have hBC := H.1
  go_enter Try.func178, Try.ntmps178
  go_wp2
  go_loopw [5, 6] (fun v i wr => ∃ (k g c : Nat) (l : List UInt8), k ≤ n ∧ i = .int .i64 (k : Int) ∧ v = .slice (some ⟨g, 0, none⟩) k c ∧ Hid (l.length = k) ∧ OwnB 5 wr W.heap.size (.slice (some ⟨g, 0, none⟩) k c) l ∧ Cur B C a len cap wr ∧ W.grownBy wr (some C)) (fun _ i _ => n - (intOf i).toNat)
  case atStart => exact ⟨0, W.heap.size, 0, [], by omega, rfl, rfl, rfl, World.ownsRow_lit W #[] 0 (Nat.le_refl _) (by unfold maxLen; omega) rfl, H.alloc _, grown_alloc _ _ _⟩
  case round =>
    obtain ⟨k, g, c, l, hk, rfl, rfl, HL, hown, hcur, hbel⟩ := hrel
    have hsz := hbel.size
    by_cases hlt : k < n
    · go_wp2_with fail
      refine (byte_any B C a len cap _ hcur).mono ?_
      rintro e W1 ⟨x, hx0, hx1, rfl, hc1, hg1⟩
      have hown1 := hown.turn hg1 (by omega)
      have hbel1 := grown_tr hbel hg1
      have hsz1 := hbel1.size
      have hl1 := hg1.size
      have hb : x = ((UInt8.ofNat x.toNat).toNat : Int) := by simp; omega
      have HB := Lib.hid hb; clear hb hown hcur hg1
      go_wp2_with (at_builtin; refine appB Try.underlying22 hi hz0 hz1 hz2 rfl (.tmp 13) (.tmp 17) rfl W.heap.size (.slice (some ⟨g, 0, none⟩) k c) l (UInt8.ofNat x.toNat) _ W1 rfl rfl hown1 HB.out (by have := HL.out; omega) (by omega) ?_; intro g2 c2 W2 hown2 hbel2)
      go_roundw
      case rel => exact ⟨k + 1, g2, c2, l ++ [UInt8.ofNat x.toNat], by omega, by go_num, by rw [HL.out], by unfold Hid; rw [List.length_append, HL.out]; rfl, by rw [← HL.out]; exact hown2, hc1.below hbel2 (by omega), grown_below hbel1 hbel2⟩
      case measure => simp [intOf]; omega
    · have e : k = n := by omega
      subst e
      go_wp2_with fail
      go_ret
      exact ⟨l, g, c, HL.out, rfl, hown, hcur, hbel⟩

theorem bytes_anyI (x : Int) (B C : Nat) (a : Option Addr) (len cap : Nat) (W : World) (H : Cur B C a len cap W) (h0 : 0 ≤ x) (h1 : x ≤ 1000) :
    Calls Try.prog 178 #[.pointer (some ⟨C, 0, none⟩), .int .i64 x] W (BytesE B C a len cap x.toNat W) := by
  obtain ⟨n, rfl⟩ := Int.eq_ofNat_of_zero_le h0
  exact bytes_any n B C a len cap W H (by omega)

def StringE (m : Nat) (B : Nat) (W : World) (e : Ending) (W' : World) : Prop := ∃ S : ByteArray, S.size ≤ m ∧ e = .returned (.string S) ∧ Below B W W'
end Go.Proofs.Ytkacelpndeoogaa

/- Contracts of the functions that pick a string, and that say yes once in a while. -/
namespace Go.Proofs.Ytkacelpndeoogaa
open Go.RowKit

/-- some bool comes back, the cursor goes on -/
def OnceE (B C : Nat) (a : Option Addr) (len cap : Nat) (W : World) (e : Ending) (W' : World) : Prop :=
  ∃ x : Bool, e = .returned (.bool x) ∧ Cur B C a len cap W' ∧ W.grownBy W' (some C)
theorem once_any (n : Int) (B C : Nat) (a : Option Addr) (len cap : Nat) (W : World) (H : Cur B C a len cap W) (hn : 1 ≤ n) (hn2 : n ≤ 1000000) :
    Calls Try.prog 83 #[.pointer (some ⟨C, 0, none⟩), .int .i64 n] W (OnceE B C a len cap W) := by
  go_enter Try.func83, Try.ntmps83
  go_wp2_with fail
  refine (below_any n B C a len cap _ H hn hn2).mono ?_
  rintro e W1 ⟨x, hx0, hx1, rfl, hc, hg⟩
  go_wp2_with fail
  go_ret
  exact ⟨_, rfl, hc, hg⟩

/-- some string of at most M bytes comes back, the cursor goes on -/
def TextE (M : Nat) (B C : Nat) (a : Option Addr) (len cap : Nat) (W : World) (e : Ending) (W' : World) : Prop :=
  ∃ S : ByteArray, S.size ≤ M ∧ e = .returned (.string S) ∧ Cur B C a len cap W' ∧ W.grownBy W' (some C)

set_option maxRecDepth 100000 in
set_option maxHeartbeats 400000 in
theorem pick_any (M L m : Nat) (B C : Nat) (a : Option Addr) (len cap : Nat) (W : World) (H : Cur B C a len cap W) (hm : 1 ≤ m) (hm2 : m ≤ 1000) (hL : L < W.heap.size) (hLC : L ≠ C)
    (hv : ∀ j, j < m → ∃ S : ByteArray, S.size ≤ M ∧ W.cell? ⟨L, j, none⟩ = some (.string S)) :
    Calls Try.prog 176 #[.pointer (some ⟨C, 0, none⟩), .slice (some ⟨L, 0, none⟩) m m] W (TextE M B C a len cap W) := by
  go_enter Try.func176, Try.ntmps176
  go_wp2_with fail
  refine (below_any (m : Int) B C a len cap _ H (by omega) (by omega)).mono ?_
  rintro e W1 ⟨x, hx0, hx1, rfl, hc, hg⟩
  obtain ⟨j, rfl⟩ := Int.eq_ofNat_of_zero_le hx0
  obtain ⟨S, hS, hvc⟩ := hv j (by omega)
  have hjm : j < m := by omega
  have hcell : W1.cell? ⟨L, j, none⟩ = some (.string S) := by
    rw [World.cell?_of_block (w := W) (w' := W1) (a := ⟨L, j, none⟩) (hg.block L hL (fun e => hLC (by simpa using e)))]
    exact hvc
  go_wp2_with fail
  go_ret
  exact ⟨S, hS, rfl, hc, hg⟩
end Go.Proofs.Ytkacelpndeoogaa

/- Structs in boxes of their own while a draw goes on. -/
namespace Go.Proofs.Ytkacelpndeoogaa
open Go.RowKit

theorem RowAt.turn {W W' : World} {B : Nat} {T : TypeId} {cs : Array Value} {r : Option Nat} (h : RowAt W B T cs) (g : W.grownBy W' r) (hr : some B ≠ r) : RowAt W' B T cs := (g.block B h.lt hr).trans h
theorem setRow_other (W : World) (b k : Nat) (cs : Array Value) (h : k ≠ b) : (W.setRow b cs).heap[k]? = W.heap[k]? := by
  unfold World.setRow
  simp only [Array.getElem?_modify]
  rw [if_neg (fun e => h e.symm)]
theorem setRow_grown (W : World) (b : Nat) (cs : Array Value) : W.grownBy (W.setRow b cs) (some b) :=
  ⟨rfl, rfl, rfl, by unfold World.setRow; simp, fun k _ hk => setRow_other W b k cs (fun e => hk (by rw [e]))⟩
theorem RowAt.setRow {W : World} {b : Nat} {T : TypeId} {zs : Array Value} (h : RowAt W b T zs) (cs : Array Value) : RowAt (W.setRow b cs) b T cs := setRow_heap W b zs cs T (0, 0) h
/-- what was there at the start turns at most at the cursor, though a block made since is written -/
theorem grown_own {W W' W'' : World} {r : Option Nat} {b : Nat} (h : W.grownBy W' r) (g : W'.grownBy W'' (some b)) (hb : W.heap.size ≤ b) : W.grownBy W'' r :=
  ⟨g.os.trans h.os, g.tape.trans h.tape, g.output.trans h.output, Nat.le_trans h.size g.size, fun k hk hr => (g.block k (Nat.lt_of_lt_of_le hk h.size) (fun e => by injection e with e; omega)).trans (h.block k hk hr)⟩
theorem Cur.own {B C b : Nat} {a : Option Addr} {len cap : Nat} {W W' : World} (H : Cur B C a len cap W) (g : W.grownBy W' (some b)) (hb : C < b) : Cur B C a len cap W' := by
  have hlt := H.lt
  obtain ⟨h1, ⟨i, h, hi, hc⟩, h3, h4⟩ := H
  refine ⟨h1, ⟨i, h, hi, (g.block C hlt (fun e => by injection e with e; omega)).trans hc⟩, h3, fun j hj => ?_⟩
  obtain ⟨b', off, n, e1, e2, e3, e4, e5⟩ := h4 j hj
  exact ⟨b', off, n, e1, e2, e3, e4, (World.cell?_of_block (w := W) (a := ⟨b', off + j, none⟩) (g.block b' (by omega) (fun e => by injection e with e; omega))).trans e5⟩
/-- the zero expression -/
def zeroE : List Value := [.int .i64 0, .int .i64 0, .bool false, .int .i64 0, .int .i64 0, .string ⟨#[]⟩, .string ⟨#[]⟩, .string ⟨#[]⟩, .slice none 0 0, .slice none 0 0]
theorem ldE_row {W : World} {b : Nat} {ys : List Value} (h : RowAt W b 29 ys.toArray) (hl : ys.length = 10) :
    (ldX 29 (.pointer (some ⟨b, 0, none⟩))).run Try.prog W = .ok (.value (.agg ys.toArray)) W :=
  run_ldX (P := Try.prog) (o := 0) hl Try.isAgg29 Try.sizeOf29 fun k u hk => by rw [Nat.zero_add]; exact h.cell (i := k) (by simpa using hk)
theorem stE_row {W : World} {b : Nat} {zs : Array Value} {ys : List Value} (h : RowAt W b 29 zs) (hz : zs.size = 10) (hl : ys.length = 10) (ho : ys.all Value.oneCell' = true) :
    (stX 29 (.pointer (some ⟨b, 0, none⟩)) (.agg ys.toArray)).run Try.prog W = .ok .skip (W.setRow b ys.toArray) := by
  have := storeAt_row (P := Try.prog) (zs := zs) ys (fun w => by rw [hl]; exact Try.sizeOf29 w) (by rw [hl, hz]) ho h
  simp [stX, this, Result.andThen]
/-- a column -/
def ColD (B C : Nat) (a : Option Addr) (len cap : Nat) (W : World) (e : Ending) (W' : World) : Prop :=
  ∃ s6 s7 : ByteArray, s6.size ≤ 24 ∧ s7.size ≤ 24 ∧ e = .returned (.agg #[.int .i64 2, .int .i64 0, .bool false, .int .i64 0, .int .i64 0, .string ⟨#[]⟩, .string s6, .string s7, .slice none 0 0, .slice none 0 0]) ∧ Cur B C a len cap W' ∧ W.grownBy W' (some C)
end Go.Proofs.Ytkacelpndeoogaa

/- Contracts of the map of keywords and of Fold, program and model. -/
namespace Go.Proofs.Ytkacelpndeoogaa
open Go.RowKit Go.Maps

/-- a store of the map's making, which cannot fail -/
theorem wpList_insert_own {H : Type} {P : Program} (w : World) {ops : Array Oper} {rest : List Oper} {o : Oper} {a : Act} {Q : Exit → Act → World → Prop}
    (hg : o.guard = none) (m x v : Operand) (t : TypeId) (hop : o.op = Op.insert t m x v)
    (k e : TypeId) (K : Keyed P k) (ht : P.underlying t = some (.map k e)) (R : Value → Option (DataW H × List MemPlace)) (b n : Nat) (D : DataW H)
    (hm : a.eval m = .map (some b)) (hown : w.ownsMap P k R b n D) (hn : n < maxLen) (key val : Value) (kl : Lit) (hx : a.eval x = key) (hv : a.eval v = val) (hkey : keyOf P k key = some kl)
    (d : DataW H) (ps : List MemPlace) (hval : R val = some (d, ps))
    (hK : ∀ w', w'.ownsMap P k R b (n + 1) (D.put kl d) → w.grownBy w' (some b) → wpList P ops Q rest (a.put o.dst undef) w') :
    wpList P ops Q (o :: rest) a w := by
  refine wpList_plain hg fun K' hK' => ?_
  obtain ⟨w', hrun, r1, r2⟩ := hown.update K ht hn hkey hval
  unfold Oper.wp
  simp [execOp, hop, hm, hx, hv, hrun, Result.andThen]
  exact hK' _ _ (hK w' r1 r2)

theorem lawS : Keyed Try.prog 9 := string_keyed Try.underlying9
theorem zeroI (w : World) : (zeroValue 3).run Try.prog w = .ok (.int .i64 0) w := by kernel_rfl

/-- block b is the map of the first k keywords -/
def KwAt (w0 : World) (b k : Nat) (w : World) : Prop := w.ownsMap Try.prog 9 (plainElem Try.prog 3) b k (kwD k) ∧ w0.grownBy w (some b)
end Go.Proofs.Ytkacelpndeoogaa
