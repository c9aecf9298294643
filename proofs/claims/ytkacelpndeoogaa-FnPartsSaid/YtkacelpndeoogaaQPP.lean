/- Joined texts: DrawTree DrawArgs DrawOut ExDef TreeI Msr. -/
import Derived.Test.YtkacelpndeoogaaQPO
import Derived.Test.YtkacelpndeoogaaQHBentI
import Derived.Test.YtkacelpndeoogaaQHFoldS
import Derived.Test.YtkacelpndeoogaaQHSzTree
import Derived.Test.YtkacelpndeoogaaQPH
import Derived.Deep.RegionLaw
/- Drawing a tree out of bytes: l7Draw of the model. -/
namespace Go.Proofs.Ytkacelpndeoogaa
open Go.RowKit
attribute [local go_sem ↓] execOp_ldE execOp_stE

set_option maxRecDepth 100000 in
set_option maxHeartbeats 1000000 in
theorem size4_any (a : Option Addr) (len cap : Nat) (w : World) (hlen : len ≤ 9223372036854775807) :
    Calls Try.prog 87 #[.slice a len cap, .int .i64 4] w fun e w' => ∃ n : Int, 2 ≤ n ∧ n ≤ 4 ∧ e = .returned (.int .i64 n) ∧ w = w' := by
  obtain ⟨q, hq, hql⟩ : ∃ q : Nat, (len : Int).tdiv 20 = (q : Int) ∧ q ≤ len := ⟨len / 20, by rw [Int.tdiv_eq_ediv_of_nonneg (by omega)]; omega, Nat.div_le_self _ _⟩
  have hq20 : (q : Int) ≤ 461168601842738790 := by
    have := Int.tdiv_eq_ediv_of_nonneg (a := (len : Int)) (b := 20) (by omega)
    omega
  by_cases h : 2 < q
  · have hd : decide (4 < 2 + (q : Int)) = true := by simp; omega
    go_enter Try.func87, Try.ntmps87
    go_wp2_with fail
    go_ret
    exact ⟨4, by omega, by omega, rfl, rfl⟩
  · have hd : decide (4 < 2 + (q : Int)) = false := by simp; omega
    go_enter Try.func87, Try.ntmps87
    go_wp2_with fail
    go_ret
    exact ⟨2 + (q : Int), by omega, by omega, rfl, rfl⟩
/-- a drawn tree comes back -/
def TreeD (W : World) (e : Ending) (W' : World) : Prop :=
  ∃ (L : Nat) (τ : Tau) (ys : List Value), e = .returned (.agg ys.toArray) ∧ GoodRow τ 1000 .exprs ys 106 ∧ Inv L τ 1000 W' ∧ W.heap.size ≤ L ∧ Below W.heap.size W W'
theorem RowB.wid {B B' : Nat} {a : Option Addr} {len : Nat} {W : World} (h : RowB B a len W) (hB : B ≤ B') : RowB B' a len W := by
  refine ⟨h.1, fun j hj => ?_⟩
  obtain ⟨b, off, n, e1, e2, e3⟩ := h.2 j hj
  exact ⟨b, off, n, e1, by omega, e3⟩
def tau0 : Tau := fun _ => none
theorem inv0 (L S : Nat) (W : World) : Inv L tau0 S W := ⟨fun _ _ _ _ h => by cases h⟩
theorem We_le : ∀ d, d ≤ 3 → We d ≤ 53 := by decide
theorem dbl_none {τ : Tau} {g : Nat} (h : τ g = none) : dbl τ g = none := by unfold dbl; rw [h]; rfl
theorem Inv.under {L : Nat} {τ : Tau} {S : Nat} {w : World} (H : Inv L τ S w) {k : Nat} (h : k < L) : τ k = none := by
  cases e : τ k with
  | none => rfl
  | some b => have := H.low e; omega
set_option maxRecDepth 100000 in
set_option maxHeartbeats 16000000 in
theorem tree_any (a : Option Addr) (len cap : Nat) (W : World) (hrow : RowB W.heap.size a len W) :
    Calls Try.prog 40 #[.slice a len cap] W (TreeD W) := by
  have hlen := hrow.1
  have P2 := RowAt.new W 29 #[.int .i64 0, .int .i64 0, .bool false, .int .i64 0, .int .i64 0, .string ⟨#[]⟩, .string ⟨#[]⟩, .string ⟨#[]⟩, .slice none 0 0, .slice none 0 0]
  have hbel : Below W.heap.size W (W.alloc (.cells #[.int .i64 0, .int .i64 0, .bool false, .int .i64 0, .int .i64 0, .string ⟨#[]⟩, .string ⟨#[]⟩, .string ⟨#[]⟩, .slice none 0 0, .slice none 0 0] 29)) := (Below.refl _ _).alloc (Nat.le_refl _) _
  have hsz : (W.alloc (.cells #[.int .i64 0, .int .i64 0, .bool false, .int .i64 0, .int .i64 0, .string ⟨#[]⟩, .string ⟨#[]⟩, .string ⟨#[]⟩, .slice none 0 0, .slice none 0 0] 29)).heap.size = W.heap.size + 1 := by simp
  go_enter Try.func40, Try.ntmps40
  go_wp2_with fail
  generalize W.alloc (.cells #[.int .i64 0, .int .i64 0, .bool false, .int .i64 0, .int .i64 0, .string ⟨#[]⟩, .string ⟨#[]⟩, .string ⟨#[]⟩, .slice none 0 0, .slice none 0 0] 29) = W1 at P2 hbel hsz ⊢
  refine (new_any W1.heap.size a len cap _ ((hrow.later hbel).wid (by omega)) (Nat.le_refl _)).mono ?_
  rintro e W2 ⟨rfl, hc, hb⟩
  have hC := hc.lt
  replace P2 := P2.later hb
  replace hbel := hbel.trans (hb.mono (by omega))
  clear hb hrow
  obtain ⟨c, ecB, ecC, eca, ecl, ecc⟩ : ∃ c : Cu, c.B = W1.heap.size ∧ c.C = W1.heap.size ∧ c.a = a ∧ c.len = len ∧ c.cap = cap := ⟨⟨W1.heap.size, W1.heap.size, a, len, cap⟩, rfl, rfl, rfl, rfl, rfl⟩
  have hcur : c.at W2 := by show Cur c.B c.C c.a c.len c.cap W2; rw [ecB, ecC, eca, ecl, ecc]; exact hc
  rw [← ecC] at hsz hC ⊢
  clear hc ecB ecC eca ecl ecc
  have H := DS.start (L := c.C + 1) hcur (inv0 _ 1000 W2) (Nat.lt_succ_self _) hC
  have hb2 : W.heap.size < c.C := by omega
  have hb2' : some W.heap.size ≠ some c.C := by intro e; injection e; omega
  clear hcur hsz
  have hrun : ∀ {W' : World}, W2.grownBy W' (some c.C) → Below W.heap.size W W' := fun g => below_of_grown hbel g (by omega) (by omega)
  go_wp2_with fail
  refine (once_any 16 c.B c.C c.a c.len c.cap _ H.cur (by omega) (by omega)).mono ?_
  rintro e W3 ⟨x, rfl, hc, hg⟩
  replace P2 := P2.turn hg hb2'
  replace H := H.draw hc hg
  clear hc hg
  cases x
  · go_wp2_with fail
    refine (size4_any a len cap W3 hlen).mono ?_
    rintro e Z ⟨n, hn2, hn4, rfl, rfl⟩
    go_wp2_with fail
    refine (below_any n c.B c.C c.a c.len c.cap _ H.cur (by omega) (by omega)).mono ?_
    rintro e W4 ⟨x, hx0, hx1, rfl, hc, hg⟩
    replace P2 := P2.turn hg hb2'
    replace H := H.draw hc hg
    clear hc hg
    obtain ⟨d, rfl⟩ : ∃ d : Nat, x = (d : Int) := Int.eq_ofNat_of_zero_le hx0
    have hd : d ≤ 3 := by omega
    clear hx0 hx1 hn2 hn4
    have hWe := We_le d hd
    go_wp2_with fail
    refine (expr_all d (by omega) (c.C + 1) c _ _ H.here).mono ?_
    rintro e W5 ⟨τ', ys, rfl, hy, K⟩
    replace P2 := P2.turn K.grown hb2'
    replace H := H.call K
    clear K
    obtain ⟨e0, e1, e2, e3, e4, e5, e6, e7, a8, n8, p8, a9, n9, p9, rfl⟩ := hy.tenS
    have st1 := stE_new (w := W5) (ys := [.int .i64 e0, .int .i64 e1, .bool e2, .int .i64 e3, .int .i64 e4, .string e5, .string e6, .string e7, .slice a8 n8 p8, .slice a9 n9 p9]) rfl rfl
    have R4 := Bx.new H 29 #[.int .i64 e0, .int .i64 e1, .bool e2, .int .i64 e3, .int .i64 e4, .string e5, .string e6, .string e7, .slice a8 n8 p8, .slice a9 n9 p9]
    replace P2 := P2.alloc (.cells #[.int .i64 e0, .int .i64 e1, .bool e2, .int .i64 e3, .int .i64 e4, .string e5, .string e6, .string e7, .slice a8 n8 p8, .slice a9 n9 p9] 29)
    replace H := H.alloc (.cells #[.int .i64 e0, .int .i64 e1, .bool e2, .int .i64 e3, .int .i64 e4, .string e5, .string e6, .string e7, .slice a8 n8 p8, .slice a9 n9 p9] 29)
    go_wp2_with fail
    clear st1
    generalize W5.alloc (.cells #[.int .i64 e0, .int .i64 e1, .bool e2, .int .i64 e3, .int .i64 e4, .string e5, .string e6, .string e7, .slice a8 n8 p8, .slice a9 n9 p9] 29) = W6 at P2 R4 H ⊢
    have hb4 := R4.hi
    generalize W5.heap.size = b4 at R4 hb4 ⊢
    refine (once_any 4 c.B c.C c.a c.len c.cap _ H.cur (by omega) (by omega)).mono ?_
    rintro e W7 ⟨x, rfl, hc, hg⟩
    replace P2 := P2.turn hg hb2'
    replace R4 := R4.drawC H hg
    replace H := H.draw hc hg
    clear hc hg
    have ld := ldE_row (ys := [.int .i64 e0, .int .i64 e1, .bool e2, .int .i64 e3, .int .i64 e4, .string e5, .string e6, .string e7, .slice a8 n8 p8, .slice a9 n9 p9]) R4.row rfl
    cases x
    · have st := stE_row (ys := [.int .i64 e0, .int .i64 e1, .bool e2, .int .i64 e3, .int .i64 e4, .string e5, .string e6, .string e7, .slice a8 n8 p8, .slice a9 n9 p9]) P2 rfl rfl rfl
      have hb := P2.setRow [.int .i64 e0, .int .i64 e1, .bool e2, .int .i64 e3, .int .i64 e4, .string e5, .string e6, .string e7, .slice a8 n8 p8, .slice a9 n9 p9].toArray
      have hgs := setRow_grown W7 W.heap.size [.int .i64 e0, .int .i64 e1, .bool e2, .int .i64 e3, .int .i64 e4, .string e5, .string e6, .string e7, .slice a8 n8 p8, .slice a9 n9 p9].toArray
      have HF : TreeD W (.returned (.agg #[.int .i64 e0, .int .i64 e1, .bool e2, .int .i64 e3, .int .i64 e4, .string e5, .string e6, .string e7, .slice a8 n8 p8, .slice a9 n9 p9])) (W7.setRow W.heap.size [.int .i64 e0, .int .i64 e1, .bool e2, .int .i64 e3, .int .i64 e4, .string e5, .string e6, .string e7, .slice a8 n8 p8, .slice a9 n9 p9].toArray) :=
        ⟨c.C + 1, τ', _, rfl, hy.le (TLe.refl _) (by omega), H.inv.keep (fun k b hk => hgs.block k (H.inv.lt hk) (fun e => by have := H.inv.low hk; injection e; omega)), by omega, (hrun H.grown).grown hgs (by have := H.size; omega) (fun k e => by injection e with e; subst e; exact Nat.le_refl _)⟩
      go_wp2_with fail
      generalize (W7).setRow W.heap.size [.int .i64 e0, .int .i64 e1, .bool e2, .int .i64 e3, .int .i64 e4, .string e5, .string e6, .string e7, .slice a8 n8 p8, .slice a9 n9 p9].toArray = wf at hb HF ⊢
      have f0 := hb.cell (i := 0) (v := .int .i64 e0) rfl
      have f1 := hb.cell (i := 1) (v := .int .i64 e1) rfl
      have f2 := hb.cell (i := 2) (v := .bool e2) rfl
      have f3 := hb.cell (i := 3) (v := .int .i64 e3) rfl
      have f4 := hb.cell (i := 4) (v := .int .i64 e4) rfl
      have f5 := hb.cell (i := 5) (v := .string e5) rfl
      have f6 := hb.cell (i := 6) (v := .string e6) rfl
      have f7 := hb.cell (i := 7) (v := .string e7) rfl
      have f8 := hb.cell (i := 8) (v := .slice a8 n8 p8) rfl
      have f9 := hb.cell (i := 9) (v := .slice a9 n9 p9) rfl
      refine bodyPost_ret (v := .agg #[.int .i64 e0, .int .i64 e1, .bool e2, .int .i64 e3, .int .i64 e4, .string e5, .string e6, .string e7, .slice a8 n8 p8, .slice a9 n9 p9]) (by simp [results, Try.results40, go_sem, f0, f1, f2, f3, f4, f5, f6, f7, f8, f9]) rfl ?_
      exact HF
    · have hlt2 : W.heap.size < W7.heap.size := P2.lt
      go_wp2_with fail
      refine (bent_all (2 * We d) (by omega) (c.C + 1) c (dbl τ') W7 [.int .i64 e0, .int .i64 e1, .bool e2, .int .i64 e3, .int .i64 e4, .string e5, .string e6, .string e7, .slice a8 n8 p8, .slice a9 n9 p9] H.inv.dbl H.cur H.lo (Nat.le_trans H.hi H.size) hy.slack).mono ?_
      rintro e W8 ⟨τ1, τ2, zs, rfl, hBu, hT, hz, hI, hcur, hK⟩
      replace P2 : RowAt W8 W.heap.size 29 _ := (hK.blk W.heap.size hlt2 (dbl_none (H.inv.under (by omega))) (by omega)).trans P2
      have P4 : RowAt W8 b4 29 _ := (hK.blk b4 R4.row.lt (dbl_none R4.free) (by omega)).trans R4.row
      have hf4 := hK.free b4 R4.row.lt (dbl_none R4.free)
      obtain ⟨z0, z1, z2, z3, z4, z5, z6, z7, za8, zn8, zp8, za9, zn9, zp9, rfl⟩ := hz.tenS
      have st4 := stE_row (ys := [.int .i64 z0, .int .i64 z1, .bool z2, .int .i64 z3, .int .i64 z4, .string z5, .string z6, .string z7, .slice za8 zn8 zp8, .slice za9 zn9 zp9]) P4 rfl rfl rfl
      have hg4 := setRow_grown W8 b4 [.int .i64 z0, .int .i64 z1, .bool z2, .int .i64 z3, .int .i64 z4, .string z5, .string z6, .string z7, .slice za8 zn8 zp8, .slice za9 zn9 zp9].toArray
      have hne : W.heap.size ≠ b4 := by omega
      replace P2 : RowAt (W8.setRow b4 [.int .i64 z0, .int .i64 z1, .bool z2, .int .i64 z3, .int .i64 z4, .string z5, .string z6, .string z7, .slice za8 zn8 zp8, .slice za9 zn9 zp9].toArray) W.heap.size 29 _ := (setRow_other W8 b4 W.heap.size _ hne).trans P2
      replace P4 := P4.setRow [.int .i64 z0, .int .i64 z1, .bool z2, .int .i64 z3, .int .i64 z4, .string z5, .string z6, .string z7, .slice za8 zn8 zp8, .slice za9 zn9 zp9].toArray
      have hI9 : Inv (c.C + 1) τ2 1000 (W8.setRow b4 [.int .i64 z0, .int .i64 z1, .bool z2, .int .i64 z3, .int .i64 z4, .string z5, .string z6, .string z7, .slice za8 zn8 zp8, .slice za9 zn9 zp9].toArray) := hI.keep (fun k b hk => hg4.block k (hI.lt hk) (fun e => by injection e with e; subst e; rw [hf4] at hk; cases hk))
      have hB7 := hrun H.grown
      have hB8 : Below W.heap.size W W8 := ⟨hK.os.trans hB7.os, hK.tape.trans hB7.tape, hK.output.trans hB7.output, Nat.le_trans hB7.size hK.size, fun k hk => (hK.blk k (by omega) (dbl_none (H.inv.under (by omega))) (by omega)).trans (hB7.block k hk)⟩
      have hB9 := hB8.grown hg4 (by have := hK.size; omega) (fun k e => by injection e with e; omega)
      have hs9 : W.heap.size ≤ (W8.setRow b4 [.int .i64 z0, .int .i64 z1, .bool z2, .int .i64 z3, .int .i64 z4, .string z5, .string z6, .string z7, .slice za8 zn8 zp8, .slice za9 zn9 zp9].toArray).heap.size := by have := hK.size; have := hg4.size; omega
      clear ld hK hI hB8 hg4
      have ld9 := ldE_row (ys := [.int .i64 z0, .int .i64 z1, .bool z2, .int .i64 z3, .int .i64 z4, .string z5, .string z6, .string z7, .slice za8 zn8 zp8, .slice za9 zn9 zp9]) P4 rfl
      have st := stE_row (ys := [.int .i64 z0, .int .i64 z1, .bool z2, .int .i64 z3, .int .i64 z4, .string z5, .string z6, .string z7, .slice za8 zn8 zp8, .slice za9 zn9 zp9]) P2 rfl rfl rfl
      have hb := P2.setRow [.int .i64 z0, .int .i64 z1, .bool z2, .int .i64 z3, .int .i64 z4, .string z5, .string z6, .string z7, .slice za8 zn8 zp8, .slice za9 zn9 zp9].toArray
      have hgs := setRow_grown (W8.setRow b4 [.int .i64 z0, .int .i64 z1, .bool z2, .int .i64 z3, .int .i64 z4, .string z5, .string z6, .string z7, .slice za8 zn8 zp8, .slice za9 zn9 zp9].toArray) W.heap.size [.int .i64 z0, .int .i64 z1, .bool z2, .int .i64 z3, .int .i64 z4, .string z5, .string z6, .string z7, .slice za8 zn8 zp8, .slice za9 zn9 zp9].toArray
      have HF : TreeD W (.returned (.agg #[.int .i64 z0, .int .i64 z1, .bool z2, .int .i64 z3, .int .i64 z4, .string z5, .string z6, .string z7, .slice za8 zn8 zp8, .slice za9 zn9 zp9])) ((W8.setRow b4 [.int .i64 z0, .int .i64 z1, .bool z2, .int .i64 z3, .int .i64 z4, .string z5, .string z6, .string z7, .slice za8 zn8 zp8, .slice za9 zn9 zp9].toArray).setRow W.heap.size [.int .i64 z0, .int .i64 z1, .bool z2, .int .i64 z3, .int .i64 z4, .string z5, .string z6, .string z7, .slice za8 zn8 zp8, .slice za9 zn9 zp9].toArray) :=
        ⟨c.C + 1, τ2, _, rfl, hz.le (TLe.refl _) (by omega), hI9.keep (fun k b hk => hgs.block k (hI9.lt hk) (fun e => by have := hI9.low hk; injection e; omega)), by omega, hB9.grown hgs hs9 (fun k e => by injection e with e; subst e; exact Nat.le_refl _)⟩
      go_wp2_with fail
      generalize (W8.setRow b4 [.int .i64 z0, .int .i64 z1, .bool z2, .int .i64 z3, .int .i64 z4, .string z5, .string z6, .string z7, .slice za8 zn8 zp8, .slice za9 zn9 zp9].toArray).setRow W.heap.size [.int .i64 z0, .int .i64 z1, .bool z2, .int .i64 z3, .int .i64 z4, .string z5, .string z6, .string z7, .slice za8 zn8 zp8, .slice za9 zn9 zp9].toArray = wf at hb HF ⊢
      have f0 := hb.cell (i := 0) (v := .int .i64 z0) rfl
      have f1 := hb.cell (i := 1) (v := .int .i64 z1) rfl
      have f2 := hb.cell (i := 2) (v := .bool z2) rfl
      have f3 := hb.cell (i := 3) (v := .int .i64 z3) rfl
      have f4 := hb.cell (i := 4) (v := .int .i64 z4) rfl
      have f5 := hb.cell (i := 5) (v := .string z5) rfl
      have f6 := hb.cell (i := 6) (v := .string z6) rfl
      have f7 := hb.cell (i := 7) (v := .string z7) rfl
      have f8 := hb.cell (i := 8) (v := .slice za8 zn8 zp8) rfl
      have f9 := hb.cell (i := 9) (v := .slice za9 zn9 zp9) rfl
      refine bodyPost_ret (v := .agg #[.int .i64 z0, .int .i64 z1, .bool z2, .int .i64 z3, .int .i64 z4, .string z5, .string z6, .string z7, .slice za8 zn8 zp8, .slice za9 zn9 zp9]) (by simp [results, Try.results40, go_sem, f0, f1, f2, f3, f4, f5, f6, f7, f8, f9]) rfl ?_
      exact HF
  · go_wp2_with fail
    refine (deep_any (c.C + 1) c tau0 _ H.here).mono ?_
    rintro e W4 ⟨τ', ys, rfl, hy, K⟩
    replace P2 := P2.turn K.grown hb2'
    replace H := H.call K
    obtain ⟨e0, e1, e2, e3, e4, e5, e6, e7, a8, n8, p8, a9, n9, p9, rfl⟩ := hy.tenS
    have st := stE_row (ys := [.int .i64 e0, .int .i64 e1, .bool e2, .int .i64 e3, .int .i64 e4, .string e5, .string e6, .string e7, .slice a8 n8 p8, .slice a9 n9 p9]) P2 rfl rfl rfl
    have hb := P2.setRow [.int .i64 e0, .int .i64 e1, .bool e2, .int .i64 e3, .int .i64 e4, .string e5, .string e6, .string e7, .slice a8 n8 p8, .slice a9 n9 p9].toArray
    have hgs := setRow_grown W4 W.heap.size [.int .i64 e0, .int .i64 e1, .bool e2, .int .i64 e3, .int .i64 e4, .string e5, .string e6, .string e7, .slice a8 n8 p8, .slice a9 n9 p9].toArray
    have HF : TreeD W (.returned (.agg #[.int .i64 e0, .int .i64 e1, .bool e2, .int .i64 e3, .int .i64 e4, .string e5, .string e6, .string e7, .slice a8 n8 p8, .slice a9 n9 p9])) (W4.setRow W.heap.size [.int .i64 e0, .int .i64 e1, .bool e2, .int .i64 e3, .int .i64 e4, .string e5, .string e6, .string e7, .slice a8 n8 p8, .slice a9 n9 p9].toArray) :=
      ⟨c.C + 1, τ', _, rfl, hy.le (TLe.refl _) (by omega), H.inv.keep (fun k b hk => hgs.block k (H.inv.lt hk) (fun e => by have := H.inv.low hk; injection e; omega)), by omega, (hrun H.grown).grown hgs (by have := H.size; omega) (fun k e => by injection e with e; subst e; exact Nat.le_refl _)⟩
    go_wp2_with fail
    generalize W4.setRow W.heap.size [.int .i64 e0, .int .i64 e1, .bool e2, .int .i64 e3, .int .i64 e4, .string e5, .string e6, .string e7, .slice a8 n8 p8, .slice a9 n9 p9].toArray = wf at hb HF ⊢
    have f0 := hb.cell (i := 0) (v := .int .i64 e0) rfl
    have f1 := hb.cell (i := 1) (v := .int .i64 e1) rfl
    have f2 := hb.cell (i := 2) (v := .bool e2) rfl
    have f3 := hb.cell (i := 3) (v := .int .i64 e3) rfl
    have f4 := hb.cell (i := 4) (v := .int .i64 e4) rfl
    have f5 := hb.cell (i := 5) (v := .string e5) rfl
    have f6 := hb.cell (i := 6) (v := .string e6) rfl
    have f7 := hb.cell (i := 7) (v := .string e7) rfl
    have f8 := hb.cell (i := 8) (v := .slice a8 n8 p8) rfl
    have f9 := hb.cell (i := 9) (v := .slice a9 n9 p9) rfl
    refine bodyPost_ret (v := .agg #[.int .i64 e0, .int .i64 e1, .bool e2, .int .i64 e3, .int .i64 e4, .string e5, .string e6, .string e7, .slice a8 n8 p8, .slice a9 n9 p9]) (by simp [results, Try.results40, go_sem, f0, f1, f2, f3, f4, f5, f6, f7, f8, f9]) rfl ?_
    exact HF
end Go.Proofs.Ytkacelpndeoogaa

/- Drawing a tree and a place. -/
namespace Go.Proofs.Ytkacelpndeoogaa
open Go.RowKit
attribute [local go_sem ↓] execOp_stE

def ArgD (W : World) (e : Ending) (W' : World) : Prop :=
  ∃ (L : Nat) (τ : Tau) (ys : List Value) (k : Int), e = .returned (.tuple #[.agg ys.toArray, .int .i64 k]) ∧ GoodRow τ 1000 .exprs ys 106 ∧ Inv L τ 1000 W' ∧ W.heap.size ≤ L ∧ (-9223372036854775808 ≤ k ∧ k ≤ 9223372036854775807) ∧ Below W.heap.size W W'
set_option maxRecDepth 100000 in
set_option maxHeartbeats 4000000 in
theorem drawDepthOf_any (a : Option Addr) (len cap : Nat) (W : World) (hrow : RowB W.heap.size a len W) :
    Calls Try.prog 10 #[.slice a len cap] W (TreeD W) := by
  have P2 := RowAt.new W 29 #[.int .i64 0, .int .i64 0, .bool false, .int .i64 0, .int .i64 0, .string ⟨#[]⟩, .string ⟨#[]⟩, .string ⟨#[]⟩, .slice none 0 0, .slice none 0 0]
  have hbel : Below W.heap.size W (W.alloc (.cells #[.int .i64 0, .int .i64 0, .bool false, .int .i64 0, .int .i64 0, .string ⟨#[]⟩, .string ⟨#[]⟩, .string ⟨#[]⟩, .slice none 0 0, .slice none 0 0] 29)) := (Below.refl _ _).alloc (Nat.le_refl _) _
  have hsz : (W.alloc (.cells #[.int .i64 0, .int .i64 0, .bool false, .int .i64 0, .int .i64 0, .string ⟨#[]⟩, .string ⟨#[]⟩, .string ⟨#[]⟩, .slice none 0 0, .slice none 0 0] 29)).heap.size = W.heap.size + 1 := by simp
  go_enter Try.func10, Try.ntmps10
  go_wp2_with fail
  generalize W.alloc (.cells #[.int .i64 0, .int .i64 0, .bool false, .int .i64 0, .int .i64 0, .string ⟨#[]⟩, .string ⟨#[]⟩, .string ⟨#[]⟩, .slice none 0 0, .slice none 0 0] 29) = W1 at P2 hbel hsz ⊢
  have hs1 : W.heap.size < W1.heap.size := by omega
  clear hsz
  refine (tree_any a len cap W1 ((hrow.later hbel).wid (by omega))).mono ?_
  rintro e W2 ⟨L, τ, ys, rfl, hy, hI, hL, hb⟩
  replace P2 := P2.later hb
  replace hbel := hbel.trans (hb.mono (by omega))
  have hs2 := hb.size
  clear hb
  obtain ⟨e0, e1, e2, e3, e4, e5, e6, e7, a8, n8, p8, a9, n9, p9, rfl⟩ := hy.tenS
  have st := stE_row (ys := [.int .i64 e0, .int .i64 e1, .bool e2, .int .i64 e3, .int .i64 e4, .string e5, .string e6, .string e7, .slice a8 n8 p8, .slice a9 n9 p9]) P2 rfl rfl rfl
  have hb := P2.setRow [.int .i64 e0, .int .i64 e1, .bool e2, .int .i64 e3, .int .i64 e4, .string e5, .string e6, .string e7, .slice a8 n8 p8, .slice a9 n9 p9].toArray
  have hgs := setRow_grown W2 W.heap.size [.int .i64 e0, .int .i64 e1, .bool e2, .int .i64 e3, .int .i64 e4, .string e5, .string e6, .string e7, .slice a8 n8 p8, .slice a9 n9 p9].toArray
  have HF : TreeD W (.returned (.agg #[.int .i64 e0, .int .i64 e1, .bool e2, .int .i64 e3, .int .i64 e4, .string e5, .string e6, .string e7, .slice a8 n8 p8, .slice a9 n9 p9])) (W2.setRow W.heap.size [.int .i64 e0, .int .i64 e1, .bool e2, .int .i64 e3, .int .i64 e4, .string e5, .string e6, .string e7, .slice a8 n8 p8, .slice a9 n9 p9].toArray) :=
    ⟨L, τ, _, rfl, hy, hI.keep (fun k b hk => hgs.block k (hI.lt hk) (fun e => by have := hI.low hk; injection e; omega)), by omega, hbel.grown hgs (by omega) (fun k e => by injection e with e; subst e; exact Nat.le_refl _)⟩
  go_wp2_with fail
  generalize W2.setRow W.heap.size [.int .i64 e0, .int .i64 e1, .bool e2, .int .i64 e3, .int .i64 e4, .string e5, .string e6, .string e7, .slice a8 n8 p8, .slice a9 n9 p9].toArray = wf at hb HF ⊢
  have f0 := hb.cell (i := 0) (v := .int .i64 e0) rfl
  have f1 := hb.cell (i := 1) (v := .int .i64 e1) rfl
  have f2 := hb.cell (i := 2) (v := .bool e2) rfl
  have f3 := hb.cell (i := 3) (v := .int .i64 e3) rfl
  have f4 := hb.cell (i := 4) (v := .int .i64 e4) rfl
  have f5 := hb.cell (i := 5) (v := .string e5) rfl
  have f6 := hb.cell (i := 6) (v := .string e6) rfl
  have f7 := hb.cell (i := 7) (v := .string e7) rfl
  have f8 := hb.cell (i := 8) (v := .slice a8 n8 p8) rfl
  have f9 := hb.cell (i := 9) (v := .slice a9 n9 p9) rfl
  refine bodyPost_ret (v := .agg #[.int .i64 e0, .int .i64 e1, .bool e2, .int .i64 e3, .int .i64 e4, .string e5, .string e6, .string e7, .slice a8 n8 p8, .slice a9 n9 p9]) (by simp [results, Try.results10, go_sem, f0, f1, f2, f3, f4, f5, f6, f7, f8, f9]) rfl ?_
  exact HF
set_option maxRecDepth 100000 in
set_option maxHeartbeats 4000000 in
theorem drawExprOk_any (a : Option Addr) (len cap : Nat) (W : World) (hrow : RowB W.heap.size a len W) :
    Calls Try.prog 16 #[.slice a len cap] W (TreeD W) := by
  have P2 := RowAt.new W 29 #[.int .i64 0, .int .i64 0, .bool false, .int .i64 0, .int .i64 0, .string ⟨#[]⟩, .string ⟨#[]⟩, .string ⟨#[]⟩, .slice none 0 0, .slice none 0 0]
  have hbel : Below W.heap.size W (W.alloc (.cells #[.int .i64 0, .int .i64 0, .bool false, .int .i64 0, .int .i64 0, .string ⟨#[]⟩, .string ⟨#[]⟩, .string ⟨#[]⟩, .slice none 0 0, .slice none 0 0] 29)) := (Below.refl _ _).alloc (Nat.le_refl _) _
  have hsz : (W.alloc (.cells #[.int .i64 0, .int .i64 0, .bool false, .int .i64 0, .int .i64 0, .string ⟨#[]⟩, .string ⟨#[]⟩, .string ⟨#[]⟩, .slice none 0 0, .slice none 0 0] 29)).heap.size = W.heap.size + 1 := by simp
  go_enter Try.func16, Try.ntmps16
  go_wp2_with fail
  generalize W.alloc (.cells #[.int .i64 0, .int .i64 0, .bool false, .int .i64 0, .int .i64 0, .string ⟨#[]⟩, .string ⟨#[]⟩, .string ⟨#[]⟩, .slice none 0 0, .slice none 0 0] 29) = W1 at P2 hbel hsz ⊢
  have hs1 : W.heap.size < W1.heap.size := by omega
  clear hsz
  refine (tree_any a len cap W1 ((hrow.later hbel).wid (by omega))).mono ?_
  rintro e W2 ⟨L, τ, ys, rfl, hy, hI, hL, hb⟩
  replace P2 := P2.later hb
  replace hbel := hbel.trans (hb.mono (by omega))
  have hs2 := hb.size
  clear hb
  obtain ⟨e0, e1, e2, e3, e4, e5, e6, e7, a8, n8, p8, a9, n9, p9, rfl⟩ := hy.tenS
  have st := stE_row (ys := [.int .i64 e0, .int .i64 e1, .bool e2, .int .i64 e3, .int .i64 e4, .string e5, .string e6, .string e7, .slice a8 n8 p8, .slice a9 n9 p9]) P2 rfl rfl rfl
  have hb := P2.setRow [.int .i64 e0, .int .i64 e1, .bool e2, .int .i64 e3, .int .i64 e4, .string e5, .string e6, .string e7, .slice a8 n8 p8, .slice a9 n9 p9].toArray
  have hgs := setRow_grown W2 W.heap.size [.int .i64 e0, .int .i64 e1, .bool e2, .int .i64 e3, .int .i64 e4, .string e5, .string e6, .string e7, .slice a8 n8 p8, .slice a9 n9 p9].toArray
  have HF : TreeD W (.returned (.agg #[.int .i64 e0, .int .i64 e1, .bool e2, .int .i64 e3, .int .i64 e4, .string e5, .string e6, .string e7, .slice a8 n8 p8, .slice a9 n9 p9])) (W2.setRow W.heap.size [.int .i64 e0, .int .i64 e1, .bool e2, .int .i64 e3, .int .i64 e4, .string e5, .string e6, .string e7, .slice a8 n8 p8, .slice a9 n9 p9].toArray) :=
    ⟨L, τ, _, rfl, hy, hI.keep (fun k b hk => hgs.block k (hI.lt hk) (fun e => by have := hI.low hk; injection e; omega)), by omega, hbel.grown hgs (by omega) (fun k e => by injection e with e; subst e; exact Nat.le_refl _)⟩
  go_wp2_with fail
  generalize W2.setRow W.heap.size [.int .i64 e0, .int .i64 e1, .bool e2, .int .i64 e3, .int .i64 e4, .string e5, .string e6, .string e7, .slice a8 n8 p8, .slice a9 n9 p9].toArray = wf at hb HF ⊢
  have f0 := hb.cell (i := 0) (v := .int .i64 e0) rfl
  have f1 := hb.cell (i := 1) (v := .int .i64 e1) rfl
  have f2 := hb.cell (i := 2) (v := .bool e2) rfl
  have f3 := hb.cell (i := 3) (v := .int .i64 e3) rfl
  have f4 := hb.cell (i := 4) (v := .int .i64 e4) rfl
  have f5 := hb.cell (i := 5) (v := .string e5) rfl
  have f6 := hb.cell (i := 6) (v := .string e6) rfl
  have f7 := hb.cell (i := 7) (v := .string e7) rfl
  have f8 := hb.cell (i := 8) (v := .slice a8 n8 p8) rfl
  have f9 := hb.cell (i := 9) (v := .slice a9 n9 p9) rfl
  refine bodyPost_ret (v := .agg #[.int .i64 e0, .int .i64 e1, .bool e2, .int .i64 e3, .int .i64 e4, .string e5, .string e6, .string e7, .slice a8 n8 p8, .slice a9 n9 p9]) (by simp [results, Try.results16, go_sem, f0, f1, f2, f3, f4, f5, f6, f7, f8, f9]) rfl ?_
  exact HF
end Go.Proofs.Ytkacelpndeoogaa

/- What a drawn tree reads as. -/
namespace Go.Proofs.Ytkacelpndeoogaa
open Go.RowKit

theorem tree_out {L : Nat} {τ : Tau} {W : World} {ys : List Value} {N : Nat} (H : Inv L τ 1000 W) (hy : GoodRow τ 1000 .exprs ys N) :
    ∃ c : Nd, OutK exprTy W ys [c] ∧ msr (c 8) + msr (c 9) ≤ 5001 * N ∧ (∀ j, msr (c j) ≤ 5001 * N) := by
  have key : ∀ j, ∃ d, (10 ≤ j → d = .v undef) ∧ ∀ hj : j < exprTy.length, ∃ y, ys[j]? = some y ∧ Rd W 0 y d ∧ Fits d (exprTy[j]) ∧ msr d ≤ 5001 * slw τ y + strB 1000 (exprTy[j]) := fun j => by
    by_cases hj : j < exprTy.length
    · obtain ⟨y, hy1, hg⟩ := hy.cell j hj
      obtain ⟨d, h1, h2, h3⟩ := good_reads H (by omega) (slw τ y) _ y hg (Nat.le_refl _)
      exact ⟨d, fun h => absurd hj (by simp [exprTy]; omega), fun _ => ⟨y, hy1, h1, h2, h3⟩⟩
    · exact ⟨.v undef, fun _ => rfl, fun h => absurd h hj⟩
  let c : Nd := fun j => Classical.choose (key j)
  have hc : ∀ j (hj : j < exprTy.length), ∃ y, ys[j]? = some y ∧ Rd W 0 y (c j) ∧ Fits (c j) (exprTy[j]) ∧ msr (c j) ≤ 5001 * slw τ y + strB 1000 (exprTy[j]) := fun j hj => (Classical.choose_spec (key j)).2 hj
  have hbig : ∀ j, 10 ≤ j → c j = .v undef := fun j hj => (Classical.choose_spec (key j)).1 hj
  have hs := hy.sum
  refine ⟨c, OutK.one hy.len fun j hj => ?_, ?_, fun j => ?_⟩
  · obtain ⟨y, h1, h2, h3, _⟩ := hc j hj
    exact ⟨y, h1, h2, h3⟩
  · obtain ⟨y8, h8, -, -, m8⟩ := hc 8 (by decide)
    obtain ⟨y9, h9, -, -, m9⟩ := hc 9 (by decide)
    obtain ⟨c0, c1, c2, c3, c4, c5, c6, c7, x8, x9, rfl, -, -, -, -, -, -, -, -, -, hs2⟩ := hy.ten
    obtain rfl : x8 = y8 := by simpa using h8
    obtain rfl : x9 = y9 := by simpa using h9
    replace m8 : msr (c 8) ≤ 5001 * slw τ x8 + 0 := m8
    replace m9 : msr (c 9) ≤ 5001 * slw τ x9 + 0 := m9
    omega
  · by_cases hj : j < exprTy.length
    · obtain ⟨y, h1, -, -, m⟩ := hc j hj
      have hw := hy.cellW h1
      have hb : strB 1000 (exprTy[j]) ≤ 1000 := by unfold strB; split <;> omega
      omega
    · rw [hbig j (by simp [exprTy] at hj; omega)]
      exact Nat.zero_le _
end Go.Proofs.Ytkacelpndeoogaa

/- What depths and sizes are known to be; no more nodes than the data measures. -/
namespace Go.Proofs.Ytkacelpndeoogaa
open Go.RowKit

theorem siz_le : ∀ (d : Dat) (ty : Ty), Fits d ty → fold sizA d ty ≤ msr d
  | .v _, ty, hf => by cases ty <;> exact Nat.zero_le _
  | .sl n k f, ty, hf => by
    obtain ⟨hd, _, hk, hfit⟩ := hf
    have IH : ∀ i j ty, Fits (f i j) ty → fold sizA (f i j) ty ≤ msr (f i j) := fun i j ty h => siz_le (f i j) ty h
    have key : ∀ g : Nat → Nat, (∀ i, i < n → g i ≤ rowm f k i + 1) → sizA.of ((List.range n).map g) ≤ n + partm f k n := fun g hg => by
      have : ∀ m, m ≤ n → sizA.of ((List.range m).map g) ≤ m + partm f k m := fun m => by
        induction m with
        | zero => intro _; exact Nat.zero_le _
        | succ m ih =>
          intro hm
          have h1 := ih (by omega)
          have h2 := hg m (by omega)
          rw [of_range, partm_succ]
          show _ + _ ≤ _
          omega
      exact this n (Nat.le_refl n)
    rw [msr_is]
    have hs := fun i => show rowm f k i = ((List.range k).map fun j => msr (f i j)).sum from rfl
    cases ty
    case int => cases hd
    case bool => cases hd
    case str => cases hd
    case names => exact Nat.zero_le _
    all_goals
      obtain rfl := hk
      rw [fold]
      refine key _ fun i hi => ?_
      rw [hs i]
      simp only [rowTy, exprTy, List.length_cons, List.length_nil, List.length_append, Nat.zero_add, Nat.reduceAdd, List.range_succ, List.range_zero, List.nil_append, List.cons_append, List.map_cons, List.map_nil, List.sum_cons, List.sum_nil]
    case exprs =>
      have h1 := IH i 8 _ (hfit i hi 8 (by decide))
      have h2 := IH i 9 _ (hfit i hi 9 (by decide))
      show (_ + _) + 1 ≤ _
      simp only [rowTy, exprTy, List.getElem_cons_succ, List.getElem_cons_zero] at h1 h2
      omega
    case items =>
      have h1 := IH i 10 _ (hfit i hi 10 (by decide))
      have h2 := IH i 11 _ (hfit i hi 11 (by decide))
      simp only [rowTy, exprTy, List.cons_append, List.nil_append, List.getElem_cons_succ, List.getElem_cons_zero] at h1 h2
      cases (f i 0).tru
      · show (_ + _) + 1 ≤ _
        omega
      · exact Nat.zero_le _
    case rows =>
      have h1 := IH i 0 _ (hfit i hi 0 (by decide))
      simp only [rowTy, List.getElem_cons_zero] at h1
      omega
    case sources =>
      have h1 := IH i 2 _ (hfit i hi 2 (by decide))
      simp only [rowTy, List.getElem_cons_succ, List.getElem_cons_zero] at h1
      omega
    case keys =>
      have h1 := IH i 8 _ (hfit i hi 8 (by decide))
      have h2 := IH i 9 _ (hfit i hi 9 (by decide))
      show (_ + _) + 1 ≤ _
      simp only [rowTy, exprTy, List.cons_append, List.nil_append, List.getElem_cons_succ, List.getElem_cons_zero] at h1 h2
      omega
    case queries =>
      have h1 := IH i 1 _ (hfit i hi 1 (by decide))
      have h2 := IH i 2 _ (hfit i hi 2 (by decide))
      have h3 := IH i 3 _ (hfit i hi 3 (by decide))
      have h4 := IH i 4 _ (hfit i hi 4 (by decide))
      show _ + _ + _ + _ ≤ _
      simp only [rowTy, List.getElem_cons_succ, List.getElem_cons_zero] at h1 h2 h3 h4
      omega
/-- an int's bounds -/
abbrev I64 (n : Int) : Prop := -9223372036854775808 ≤ n ∧ n ≤ 9223372036854775807
/-- what the program's DepthOf and QueryDepth are known to give -/
def DepthOfI (c : Nat → Dat) : Prop := ∀ (c0 c1 : Int) (c2 : Bool) (c3 c4 : Int) (c5 c6 c7 : ByteArray) (x8 x9 : Value) (w : World), I64 c0 → I64 c1 → I64 c3 → I64 c4 → c5.size ≤ 9223372036854775807 → c6.size ≤ 9223372036854775807 → c7.size ≤ 9223372036854775807 → Rd w 0 x8 (c 8) → Fits (c 8) .exprs → Rd w 0 x9 (c 9) → Fits (c 9) .queries →
  Calls Try.prog 12 #[.agg #[.int .i64 c0, .int .i64 c1, .bool c2, .int .i64 c3, .int .i64 c4, .string c5, .string c6, .string c7, x8, x9]] w (IntE ((foldE depA c : Nat) : Int) w)
def QueryDepthI (q : Nat → Dat) : Prop := ∀ (c0 : Bool) (x1 x2 x3 x4 : Value) (c5 : Int) (w : World), I64 c5 → Rd w 0 x1 (q 1) → Fits (q 1) .items → Rd w 0 x2 (q 2) → Fits (q 2) .sources → Rd w 0 x3 (q 3) → Fits (q 3) .exprs → Rd w 0 x4 (q 4) → Fits (q 4) .keys →
  Calls Try.prog 14 #[.agg #[.bool c0, x1, x2, x3, x4, .int .i64 c5]] w (IntE ((foldQ depA q : Nat) : Int) w)
/-- what the program's SizeOf and QuerySize are known to give -/
def SizeOfI (c : Nat → Dat) : Prop := ∀ (c0 c1 : Int) (c2 : Bool) (c3 c4 : Int) (c5 c6 c7 : ByteArray) (x8 x9 : Value) (w : World), I64 c0 → I64 c1 → I64 c3 → I64 c4 → c5.size ≤ 9223372036854775807 → c6.size ≤ 9223372036854775807 → c7.size ≤ 9223372036854775807 → Rd w 0 x8 (c 8) → Fits (c 8) .exprs → Rd w 0 x9 (c 9) → Fits (c 9) .queries →
  Calls Try.prog 13 #[.agg #[.int .i64 c0, .int .i64 c1, .bool c2, .int .i64 c3, .int .i64 c4, .string c5, .string c6, .string c7, x8, x9]] w (IntE ((foldE sizA c : Nat) : Int) w)
def QuerySizeI (q : Nat → Dat) : Prop := ∀ (c0 : Bool) (x1 x2 x3 x4 : Value) (c5 : Int) (w : World), I64 c5 → Rd w 0 x1 (q 1) → Fits (q 1) .items → Rd w 0 x2 (q 2) → Fits (q 2) .sources → Rd w 0 x3 (q 3) → Fits (q 3) .exprs → Rd w 0 x4 (q 4) → Fits (q 4) .keys →
  Calls Try.prog 15 #[.agg #[.bool c0, x1, x2, x3, x4, .int .i64 c5]] w (IntE ((foldQ sizA q : Nat) : Int) w)
end Go.Proofs.Ytkacelpndeoogaa

/- The program's DepthOf, SizeOf, QueryDepth and QuerySize, as the laws take them. -/
namespace Go.Proofs.Ytkacelpndeoogaa
open Go.RowKit

/-- an expression as the contracts take it -/
def ndOf (c0 c1 : Int) (c2 : Bool) (c3 c4 : Int) (c5 c6 c7 : ByteArray) (c : Nd) : Nd := fun j => match j with
  | 0 => .v (.int .i64 c0) | 1 => .v (.int .i64 c1) | 2 => .v (.bool c2) | 3 => .v (.int .i64 c3) | 4 => .v (.int .i64 c4) | 5 => .v (.string c5) | 6 => .v (.string c6) | 7 => .v (.string c7) | j => c j
theorem ndOf_out {c0 c1 : Int} {c2 : Bool} {c3 c4 : Int} {c5 c6 c7 : ByteArray} {c : Nd} {x8 x9 : Value} {w : World} (b0 : I64 c0) (b1 : I64 c1) (b3 : I64 c3) (b4 : I64 c4) (b5 : c5.size ≤ 9223372036854775807) (b6 : c6.size ≤ 9223372036854775807) (b7 : c7.size ≤ 9223372036854775807)
    (r8 : Rd w 0 x8 (c 8)) (q8 : Fits (c 8) .exprs) (r9 : Rd w 0 x9 (c 9)) (q9 : Fits (c 9) .queries) :
    OutP w [.int .i64 c0, .int .i64 c1, .bool c2, .int .i64 c3, .int .i64 c4, .string c5, .string c6, .string c7, x8, x9] [ndOf c0 c1 c2 c3 c4 c5 c6 c7 c] := OutP.one rfl (fun m hm => match m, hm with
  | 0, _ => ⟨_, rfl, rfl, ⟨_, rfl, b0⟩⟩
  | 1, _ => ⟨_, rfl, rfl, ⟨_, rfl, b1⟩⟩
  | 2, _ => ⟨_, rfl, rfl, ⟨_, rfl⟩⟩
  | 3, _ => ⟨_, rfl, rfl, ⟨_, rfl, b3⟩⟩
  | 4, _ => ⟨_, rfl, rfl, ⟨_, rfl, b4⟩⟩
  | 5, _ => ⟨_, rfl, rfl, ⟨_, rfl, b5⟩⟩
  | 6, _ => ⟨_, rfl, rfl, ⟨_, rfl, b6⟩⟩
  | 7, _ => ⟨_, rfl, rfl, ⟨_, rfl, b7⟩⟩
  | 8, _ => ⟨_, rfl, r8, q8⟩
  | 9, _ => ⟨_, rfl, r9, q9⟩
  | m + 10, hm => absurd hm (by simp [exprTy]))

theorem mem_exprsOf_bd {d : Dat} {ty : Ty} {M : Nat} (hf : Fits d ty) (hm : msr d ≤ M) (hM : M ≤ 1048576) (nd : Nd) (p : Nat × Nd) (hp : p ∈ fold preA d ty) (he : p.2 = nd) : Bd nd := by
  obtain ⟨a, b, c, e⟩ := pre_bd d ty hf p hp
  subst he
  exact ⟨by omega, by omega, c, e⟩
theorem queryBd {c : Nd} (q1 : Fits (c 1) .items) (q2 : Fits (c 2) .sources) (q3 : Fits (c 3) .exprs) (q4 : Fits (c 4) .keys) (m1 : msr (c 1) ≤ 1048576) (m2 : msr (c 2) ≤ 1048576) (m3 : msr (c 3) ≤ 1048576) (m4 : msr (c 4) ≤ 1048576) : ∀ nd ∈ exprsOf c, Bd nd := by
  intro nd hnd
  have hq : foldQ preA c = (exprsOf c).flatMap (foldE preA) := by
    rw [foldQ_is preA_good q1 q2 q3 q4, preA_of]; rfl
  have h0 : (0, nd) ∈ foldQ preA c := by
    rw [hq, List.mem_flatMap]
    exact ⟨nd, hnd, by unfold foldE; exact List.mem_cons_self ..⟩
  unfold foldQ at h0
  simp only [preA, List.mem_append] at h0
  rcases h0 with ((h | h) | h) | h
  · exact mem_exprsOf_bd q1 (Nat.le_refl _) m1 nd _ h rfl
  · exact mem_exprsOf_bd q2 (Nat.le_refl _) m2 nd _ h rfl
  · exact mem_exprsOf_bd q3 (Nat.le_refl _) m3 nd _ h rfl
  · exact mem_exprsOf_bd q4 (Nat.le_refl _) m4 nd _ h rfl
set_option maxRecDepth 100000 in
set_option maxHeartbeats 2000000 in
theorem DepthOf_impl : ∀ c : Nat → Dat, msr (c 8) + msr (c 9) ≤ 1048576 → Fits (c 8) .exprs → Fits (c 9) .queries → DepthOfI c := by
  intro c hm _ _ c0 c1 c2 c3 c4 c5 c6 c7 x8 x9 W b0 b1 b3 b4 b5 b6 b7 r8 q8 r9 q9
  have hout := ndOf_out (c2 := c2) b0 b1 b3 b4 b5 b6 b7 r8 q8 r9 q9
  have hbd : Bd (ndOf c0 c1 c2 c3 c4 c5 c6 c7 c) := ⟨by show msr (c 8) ≤ _; omega, by show msr (c 9) ≤ _; omega, q8, q9⟩
  have hfold : foldE depA (ndOf c0 c1 c2 c3 c4 c5 c6 c7 c) = foldE depA c := rfl
  have hsz : foldE sizA (ndOf c0 c1 c2 c3 c4 c5 c6 c7 c) ≤ 1048577 := by
    have g8 := siz_le (c 8) _ q8
    have g9 := siz_le (c 9) _ q9
    show (fold sizA (c 8) .exprs + fold sizA (c 9) .queries) + 1 ≤ _
    omega
  obtain ⟨a8, n8, p8, rfl⟩ := r8.slice_of q8 rfl
  obtain ⟨a9, n9, p9, rfl⟩ := r9.slice_of q9 rfl
  have HB := BX.new W 29 #[.int .i64 c0, .int .i64 c1, .bool c2, .int .i64 c3, .int .i64 c4, .string c5, .string c6, .string c7, .slice a8 n8 p8, .slice a9 n9 p9]
  rw [← hfold]
  generalize ndOf c0 c1 c2 c3 c4 c5 c6 c7 c = nd at hout hbd hsz ⊢
  have x0 := HB.box.cell (i := 0) (v := .int .i64 c0) rfl
  have x1 := HB.box.cell (i := 1) (v := .int .i64 c1) rfl
  have x2 := HB.box.cell (i := 2) (v := .bool c2) rfl
  have x3 := HB.box.cell (i := 3) (v := .int .i64 c3) rfl
  have x4 := HB.box.cell (i := 4) (v := .int .i64 c4) rfl
  have x5 := HB.box.cell (i := 5) (v := .string c5) rfl
  have x6 := HB.box.cell (i := 6) (v := .string c6) rfl
  have x7 := HB.box.cell (i := 7) (v := .string c7) rfl
  have x8 := HB.box.cell (i := 8) (v := .slice a8 n8 p8) rfl
  have x9 := HB.box.cell (i := 9) (v := .slice a9 n9 p9) rfl
  go_enter Try.func12, Try.ntmps12
  have s1 : (W.alloc (.cells #[.int .i64 c0, .int .i64 c1, .bool c2, .int .i64 c3, .int .i64 c4, .string c5, .string c6, .string c7, .slice a8 n8 p8, .slice a9 n9 p9] 29)).heap.size = W.heap.size + 1 := by simp
  go_wp2_with fail
  generalize W.alloc (.cells #[.int .i64 c0, .int .i64 c1, .bool c2, .int .i64 c3, .int .i64 c4, .string c5, .string c6, .string c7, .slice a8 n8 p8, .slice a9 n9 p9] 29) = w1 at HB s1 ⊢
  have h2 := RowAt.new w1 29 #[.int .i64 c0, .int .i64 c1, .bool c2, .int .i64 c3, .int .i64 c4, .string c5, .string c6, .string c7, .slice a8 n8 p8, .slice a9 n9 p9]
  have hal : Below w1.heap.size w1 (w1.alloc (.cells #[.int .i64 c0, .int .i64 c1, .bool c2, .int .i64 c3, .int .i64 c4, .string c5, .string c6, .string c7, .slice a8 n8 p8, .slice a9 n9 p9] 29)) := (Below.refl _ _).alloc (Nat.le_refl _) _
  rw [s1] at h2
  generalize w1.alloc (.cells #[.int .i64 c0, .int .i64 c1, .bool c2, .int .i64 c3, .int .i64 c4, .string c5, .string c6, .string c7, .slice a8 n8 p8, .slice a9 n9 p9] 29) = w2 at h2 hal ⊢
  have hB2 := HB.b.trans (hal.mono HB.b.size)
  have hlk : LK exprTy W w2 (fun _ => True) (.slice (some ⟨W.heap.size + 1, 0, none⟩) 1 1) [nd] :=
    ⟨_, 1, _, rfl, hout, .inr ⟨W.heap.size + 1, 0, rfl, Nat.le_refl _, trivial, h2.lt, fun j u hj => by rw [Nat.zero_add]; exact h2.cell (by simpa using hj)⟩⟩
  have hlen : ([nd].flatMap (pre 1)).length ≤ 2000000 := by
    rw [len_flat]
    show sizA.of [foldE sizA nd] ≤ _
    rw [sizA_good.of_cons]
    show _ + 0 ≤ _
    omega
  refine (deepest_any W w2 [nd] _ hB2 hlk (fun c hc => by rw [List.mem_singleton.1 hc]; exact hbd) hlen).mono ?_
  rintro e w3 ⟨rfl, hb3⟩
  have hval : mx ([nd].flatMap (pre 1)) = foldE depA nd := by
    rw [mx_flat]; show depA.of [foldE depA nd] = _; rw [depA_good.of_cons]; show max _ 0 = _; omega
  rw [hval]
  have hfb := hB2.trans (hb3.mono hB2.size)
  clear x0 x1 x2 x3 x4 x5 x6 x7 x8 x9
  go_wp2_with fail
  go_ret
  exact ⟨rfl, hfb⟩
set_option maxRecDepth 100000 in
set_option maxHeartbeats 2000000 in
theorem SizeOf_impl : ∀ c : Nat → Dat, msr (c 8) + msr (c 9) ≤ 1048576 → Fits (c 8) .exprs → Fits (c 9) .queries → SizeOfI c := by
  intro c hm _ _ c0 c1 c2 c3 c4 c5 c6 c7 x8 x9 W b0 b1 b3 b4 b5 b6 b7 r8 q8 r9 q9
  have hout := ndOf_out (c2 := c2) b0 b1 b3 b4 b5 b6 b7 r8 q8 r9 q9
  have hbd : Bd (ndOf c0 c1 c2 c3 c4 c5 c6 c7 c) := ⟨by show msr (c 8) ≤ _; omega, by show msr (c 9) ≤ _; omega, q8, q9⟩
  have hfold : foldE sizA (ndOf c0 c1 c2 c3 c4 c5 c6 c7 c) = foldE sizA c := rfl
  have hsz : foldE sizA (ndOf c0 c1 c2 c3 c4 c5 c6 c7 c) ≤ 1048577 := by
    have g8 := siz_le (c 8) _ q8
    have g9 := siz_le (c 9) _ q9
    show (fold sizA (c 8) .exprs + fold sizA (c 9) .queries) + 1 ≤ _
    omega
  obtain ⟨a8, n8, p8, rfl⟩ := r8.slice_of q8 rfl
  obtain ⟨a9, n9, p9, rfl⟩ := r9.slice_of q9 rfl
  have HB := BX.new W 29 #[.int .i64 c0, .int .i64 c1, .bool c2, .int .i64 c3, .int .i64 c4, .string c5, .string c6, .string c7, .slice a8 n8 p8, .slice a9 n9 p9]
  rw [← hfold]
  generalize ndOf c0 c1 c2 c3 c4 c5 c6 c7 c = nd at hout hbd hsz ⊢
  have x0 := HB.box.cell (i := 0) (v := .int .i64 c0) rfl
  have x1 := HB.box.cell (i := 1) (v := .int .i64 c1) rfl
  have x2 := HB.box.cell (i := 2) (v := .bool c2) rfl
  have x3 := HB.box.cell (i := 3) (v := .int .i64 c3) rfl
  have x4 := HB.box.cell (i := 4) (v := .int .i64 c4) rfl
  have x5 := HB.box.cell (i := 5) (v := .string c5) rfl
  have x6 := HB.box.cell (i := 6) (v := .string c6) rfl
  have x7 := HB.box.cell (i := 7) (v := .string c7) rfl
  have x8 := HB.box.cell (i := 8) (v := .slice a8 n8 p8) rfl
  have x9 := HB.box.cell (i := 9) (v := .slice a9 n9 p9) rfl
  go_enter Try.func13, Try.ntmps13
  have s1 : (W.alloc (.cells #[.int .i64 c0, .int .i64 c1, .bool c2, .int .i64 c3, .int .i64 c4, .string c5, .string c6, .string c7, .slice a8 n8 p8, .slice a9 n9 p9] 29)).heap.size = W.heap.size + 1 := by simp
  go_wp2_with fail
  generalize W.alloc (.cells #[.int .i64 c0, .int .i64 c1, .bool c2, .int .i64 c3, .int .i64 c4, .string c5, .string c6, .string c7, .slice a8 n8 p8, .slice a9 n9 p9] 29) = w1 at HB s1 ⊢
  have h2 := RowAt.new w1 29 #[.int .i64 c0, .int .i64 c1, .bool c2, .int .i64 c3, .int .i64 c4, .string c5, .string c6, .string c7, .slice a8 n8 p8, .slice a9 n9 p9]
  have hal : Below w1.heap.size w1 (w1.alloc (.cells #[.int .i64 c0, .int .i64 c1, .bool c2, .int .i64 c3, .int .i64 c4, .string c5, .string c6, .string c7, .slice a8 n8 p8, .slice a9 n9 p9] 29)) := (Below.refl _ _).alloc (Nat.le_refl _) _
  rw [s1] at h2
  generalize w1.alloc (.cells #[.int .i64 c0, .int .i64 c1, .bool c2, .int .i64 c3, .int .i64 c4, .string c5, .string c6, .string c7, .slice a8 n8 p8, .slice a9 n9 p9] 29) = w2 at h2 hal ⊢
  have hB2 := HB.b.trans (hal.mono HB.b.size)
  have hlk : LK exprTy W w2 (fun _ => True) (.slice (some ⟨W.heap.size + 1, 0, none⟩) 1 1) [nd] :=
    ⟨_, 1, _, rfl, hout, .inr ⟨W.heap.size + 1, 0, rfl, Nat.le_refl _, trivial, h2.lt, fun j u hj => by rw [Nat.zero_add]; exact h2.cell (by simpa using hj)⟩⟩
  have hlen : ([nd].flatMap (pre 1)).length ≤ 2000000 := by
    rw [len_flat]
    show sizA.of [foldE sizA nd] ≤ _
    rw [sizA_good.of_cons]
    show _ + 0 ≤ _
    omega
  refine (total_any W w2 [nd] _ hB2 hlk (fun c hc => by rw [List.mem_singleton.1 hc]; exact hbd) hlen).mono ?_
  rintro e w3 ⟨rfl, hb3⟩
  have hval : ([nd].flatMap (pre 1)).length = foldE sizA nd := by
    rw [len_flat]; show sizA.of [foldE sizA nd] = _; rw [sizA_good.of_cons]; rfl
  rw [hval]
  have hfb := hB2.trans (hb3.mono hB2.size)
  clear x0 x1 x2 x3 x4 x5 x6 x7 x8 x9
  go_wp2_with fail
  go_ret
  exact ⟨rfl, hfb⟩
set_option maxRecDepth 100000 in
set_option maxHeartbeats 2000000 in
theorem QueryDepth_impl : ∀ c : Nat → Dat, msr (c 1) + msr (c 2) + msr (c 3) + msr (c 4) ≤ 1048576 → Fits (c 1) .items → Fits (c 2) .sources → Fits (c 3) .exprs → Fits (c 4) .keys → QueryDepthI c := by
  intro c hm _ _ _ _ c0 x1 x2 x3 x4 c5 W b5 r1 q1 r2 q2 r3 q3 r4 q4
  have hbd : ∀ nd ∈ exprsOf c, Bd nd := queryBd q1 q2 q3 q4 (by omega) (by omega) (by omega) (by omega)
  have hsz : foldQ sizA c ≤ 1048576 := by
    have g1 := siz_le (c 1) _ q1
    have g2 := siz_le (c 2) _ q2
    have g3 := siz_le (c 3) _ q3
    have g4 := siz_le (c 4) _ q4
    show _ + _ + _ + _ ≤ _
    omega
  have hfq := foldQ_is depA_good q1 q2 q3 q4
  have hfs := foldQ_is sizA_good q1 q2 q3 q4
  rw [hfq]
  rw [hfs] at hsz
  clear hfq hfs
  obtain ⟨a1, n1, p1, rfl⟩ := r1.slice_of q1 rfl
  obtain ⟨a2, n2, p2, rfl⟩ := r2.slice_of q2 rfl
  obtain ⟨a3, n3, p3, rfl⟩ := r3.slice_of q3 rfl
  obtain ⟨a4, n4, p4, rfl⟩ := r4.slice_of q4 rfl
  obtain ⟨h1, E1, r1, q1⟩ := r1.openS q1 rfl
  obtain ⟨h2, E2, r2, q2⟩ := r2.openS q2 rfl
  obtain ⟨h3, E3, r3, q3⟩ := r3.openS q3 rfl
  obtain ⟨h4, E4, r4, q4⟩ := r4.openS q4 rfl
  have hN : n1 + (exFrom (.sl n2 3 h2)).length + n3 + n4 ≤ 1048576 := by
    rw [E1, E2, E3, E4] at hm
    replace hm : msr (.sl n1 13 h1) + msr (.sl n2 3 h2) + msr (.sl n3 10 h3) + msr (.sl n4 11 h4) ≤ 1048576 := hm
    have k1 := msr_n n1 13 h1
    have k2 := exFrom_msr q2
    have k3 := msr_n n3 10 h3
    have k4 := msr_n n4 11 h4
    omega
  have hex : exprsOf c = ((exItems (.sl n1 13 h1) ++ exFrom (.sl n2 3 h2)) ++ (Dat.sl n3 10 h3).els) ++ (Dat.sl n4 11 h4).els := by
    unfold exprsOf
    rw [E1, E2, E3, E4]
    rfl
  have HB := BX.new W 38 #[.bool c0, .slice a1 n1 p1, .slice a2 n2 p2, .slice a3 n3 p3, .slice a4 n4 p4, .int .i64 c5]
  have hcall := exprsIn_any W (W.alloc (.cells #[.bool c0, .slice a1 n1 p1, .slice a2 n2 p2, .slice a3 n3 p3, .slice a4 n4 p4, .int .i64 c5] 38)) c0 a1 n1 p1 a2 n2 p2 a3 n3 p3 a4 n4 p4 c5 h1 h2 h3 h4 HB.b r1 q1 r2 q2 r3 q3 r4 q4 hN
  rw [← hex] at hcall
  clear E1 E2 E3 E4 r1 r2 r3 r4 q1 q2 q3 q4 hN hm hex
  generalize exprsOf c = L at *
  have x0 := HB.box.cell (i := 0) (v := .bool c0) rfl
  have x1 := HB.box.cell (i := 1) (v := .slice a1 n1 p1) rfl
  have x2 := HB.box.cell (i := 2) (v := .slice a2 n2 p2) rfl
  have x3 := HB.box.cell (i := 3) (v := .slice a3 n3 p3) rfl
  have x4 := HB.box.cell (i := 4) (v := .slice a4 n4 p4) rfl
  have x5 := HB.box.cell (i := 5) (v := .int .i64 c5) rfl
  go_enter Try.func14, Try.ntmps14
  go_wp2_with fail
  refine hcall.mono ?_
  clear hcall x0 x1 x2 x3 x4 x5
  rintro e w2 ⟨v, rfl, ho, hb2⟩
  have hB2 := HB.b.trans (hb2.mono HB.b.size)
  have hlk : LK exprTy W w2 (fun _ => True) v L := ho.lk fun _ _ _ => trivial
  have hlen : (L.flatMap (pre 1)).length ≤ 2000000 := by rw [len_flat]; show sizA.of _ ≤ _; have : sizA.of (L.map (foldE sizA)) ≤ 1048576 := hsz; omega
  obtain ⟨vv, hvv⟩ : ∃ vv, vv = v := ⟨_, rfl⟩
  rw [← hvv] at hlk ⊢
  clear hvv
  have hD := deepest_any W w2 L vv hB2 hlk hbd hlen
  go_wp2_with fail
  refine hD.mono ?_
  clear hD
  rintro e w3 ⟨rfl, hb3⟩
  have hval : mx (L.flatMap (pre 1)) = depA.qn c (depA.of (L.map (foldE depA))) := by
    rw [mx_flat]; rfl
  rw [hval]
  have hfb := hB2.trans (hb3.mono hB2.size)
  go_wp2_with fail
  go_ret
  exact ⟨rfl, hfb⟩
set_option maxRecDepth 100000 in
set_option maxHeartbeats 2000000 in
theorem QuerySize_impl : ∀ c : Nat → Dat, msr (c 1) + msr (c 2) + msr (c 3) + msr (c 4) ≤ 1048576 → Fits (c 1) .items → Fits (c 2) .sources → Fits (c 3) .exprs → Fits (c 4) .keys → QuerySizeI c := by
  intro c hm _ _ _ _ c0 x1 x2 x3 x4 c5 W b5 r1 q1 r2 q2 r3 q3 r4 q4
  have hbd : ∀ nd ∈ exprsOf c, Bd nd := queryBd q1 q2 q3 q4 (by omega) (by omega) (by omega) (by omega)
  have hsz : foldQ sizA c ≤ 1048576 := by
    have g1 := siz_le (c 1) _ q1
    have g2 := siz_le (c 2) _ q2
    have g3 := siz_le (c 3) _ q3
    have g4 := siz_le (c 4) _ q4
    show _ + _ + _ + _ ≤ _
    omega
  have hfq := foldQ_is sizA_good q1 q2 q3 q4
  have hfs := foldQ_is sizA_good q1 q2 q3 q4
  rw [hfq]
  rw [hfs] at hsz
  clear hfq hfs
  obtain ⟨a1, n1, p1, rfl⟩ := r1.slice_of q1 rfl
  obtain ⟨a2, n2, p2, rfl⟩ := r2.slice_of q2 rfl
  obtain ⟨a3, n3, p3, rfl⟩ := r3.slice_of q3 rfl
  obtain ⟨a4, n4, p4, rfl⟩ := r4.slice_of q4 rfl
  obtain ⟨h1, E1, r1, q1⟩ := r1.openS q1 rfl
  obtain ⟨h2, E2, r2, q2⟩ := r2.openS q2 rfl
  obtain ⟨h3, E3, r3, q3⟩ := r3.openS q3 rfl
  obtain ⟨h4, E4, r4, q4⟩ := r4.openS q4 rfl
  have hN : n1 + (exFrom (.sl n2 3 h2)).length + n3 + n4 ≤ 1048576 := by
    rw [E1, E2, E3, E4] at hm
    replace hm : msr (.sl n1 13 h1) + msr (.sl n2 3 h2) + msr (.sl n3 10 h3) + msr (.sl n4 11 h4) ≤ 1048576 := hm
    have k1 := msr_n n1 13 h1
    have k2 := exFrom_msr q2
    have k3 := msr_n n3 10 h3
    have k4 := msr_n n4 11 h4
    omega
  have hex : exprsOf c = ((exItems (.sl n1 13 h1) ++ exFrom (.sl n2 3 h2)) ++ (Dat.sl n3 10 h3).els) ++ (Dat.sl n4 11 h4).els := by
    unfold exprsOf
    rw [E1, E2, E3, E4]
    rfl
  have HB := BX.new W 38 #[.bool c0, .slice a1 n1 p1, .slice a2 n2 p2, .slice a3 n3 p3, .slice a4 n4 p4, .int .i64 c5]
  have hcall := exprsIn_any W (W.alloc (.cells #[.bool c0, .slice a1 n1 p1, .slice a2 n2 p2, .slice a3 n3 p3, .slice a4 n4 p4, .int .i64 c5] 38)) c0 a1 n1 p1 a2 n2 p2 a3 n3 p3 a4 n4 p4 c5 h1 h2 h3 h4 HB.b r1 q1 r2 q2 r3 q3 r4 q4 hN
  rw [← hex] at hcall
  clear E1 E2 E3 E4 r1 r2 r3 r4 q1 q2 q3 q4 hN hm hex
  generalize exprsOf c = L at *
  have x0 := HB.box.cell (i := 0) (v := .bool c0) rfl
  have x1 := HB.box.cell (i := 1) (v := .slice a1 n1 p1) rfl
  have x2 := HB.box.cell (i := 2) (v := .slice a2 n2 p2) rfl
  have x3 := HB.box.cell (i := 3) (v := .slice a3 n3 p3) rfl
  have x4 := HB.box.cell (i := 4) (v := .slice a4 n4 p4) rfl
  have x5 := HB.box.cell (i := 5) (v := .int .i64 c5) rfl
  go_enter Try.func15, Try.ntmps15
  go_wp2_with fail
  refine hcall.mono ?_
  clear hcall x0 x1 x2 x3 x4 x5
  rintro e w2 ⟨v, rfl, ho, hb2⟩
  have hB2 := HB.b.trans (hb2.mono HB.b.size)
  have hlk : LK exprTy W w2 (fun _ => True) v L := ho.lk fun _ _ _ => trivial
  have hlen : (L.flatMap (pre 1)).length ≤ 2000000 := by rw [len_flat]; show sizA.of _ ≤ _; have : sizA.of (L.map (foldE sizA)) ≤ 1048576 := hsz; omega
  obtain ⟨vv, hvv⟩ : ∃ vv, vv = v := ⟨_, rfl⟩
  rw [← hvv] at hlk ⊢
  clear hvv
  have hD := total_any W w2 L vv hB2 hlk hbd hlen
  go_wp2_with fail
  refine hD.mono ?_
  clear hD
  rintro e w3 ⟨rfl, hb3⟩
  have hval : (L.flatMap (pre 1)).length = sizA.qn c (sizA.of (L.map (foldE sizA))) := by
    rw [len_flat]; rfl
  rw [hval]
  have hfb := hB2.trans (hb3.mono hB2.size)
  go_wp2_with fail
  go_ret
  exact ⟨rfl, hfb⟩
end Go.Proofs.Ytkacelpndeoogaa

/- The measure of a slice, element by element. -/
namespace Go.Proofs.Ytkacelpndeoogaa
open Go.RowKit

theorem msr_next (j k : Nat) (f : Nat → Nat → Dat) : msr (.sl (j + 1) k f) = msr (.sl j k f) + (1 + ((List.range k).map fun m => msr (f j m)).sum) := by
  rw [msr, msr, List.range_succ, List.map_append, List.sum_append]
  simp only [List.map_cons, List.map_nil, List.sum_cons, List.sum_nil]
  omega
theorem msr_mono (k : Nat) (f : Nat → Nat → Dat) {j n : Nat} (h : j ≤ n) : msr (.sl j k f) ≤ msr (.sl n k f) := by
  induction n with
  | zero => obtain rfl : j = 0 := by omega
            exact Nat.le_refl _
  | succ n ih =>
    by_cases e : j = n + 1
    · subst e; exact Nat.le_refl _
    · have := ih (by omega)
      rw [msr_next]
      omega
end Go.Proofs.Ytkacelpndeoogaa
