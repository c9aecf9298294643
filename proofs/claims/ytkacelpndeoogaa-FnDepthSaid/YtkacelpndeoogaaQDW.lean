/- Joined texts: DrawTree DrawArgs DrawOut. -/
import Derived.Test.YtkacelpndeoogaaQDU
import Derived.Test.YtkacelpndeoogaaQHBentI
import Derived.Deep.RegionLaw
/- Drawing a tree out of bytes: l7Draw of the model. -/
namespace Go.Proofs.Ytkacelpndeoogaa
open Go.RowKit
attribute [local go_sem ↓] execOp_ldE execOp_stE

set_option maxRecDepth 100000 in
set_option maxHeartbeats 1000000 in
theorem size4_any (a : Option Addr) (len cap : Nat) (w : World) (hlen : len ≤ 9223372036854775807) :
    Calls Try.prog 87 #[.slice a len cap, .int .i64 4] w fun e w' => ∃ n : Int, 2 ≤ n ∧ n ≤ 4 ∧ e = .returned (.int .i64 n) ∧ w = w' := by
  obtain ⟨q, hq, hql⟩ : ∃ q : Nat, (len : Int).tdiv 20 = (q : Int) ∧ q ≤ len := ⟨len / 20, by rw [Int.tdiv_eq_ediv_of_nonneg (by omega)]; omega, Nat.div_le_self _ _⟩
  have hq20 : (q : Int) ≤ 461168601842738790 := by
    have := Int.tdiv_eq_ediv_of_nonneg (a := (len : Int)) (b := 20) (by omega)
    omega
  by_cases h : 2 < q
  · have hd : decide (4 < 2 + (q : Int)) = true := by simp; omega
    go_enter Try.func87, Try.ntmps87
    go_wp2_with fail
    go_ret
    exact ⟨4, by omega, by omega, rfl, rfl⟩
  · have hd : decide (4 < 2 + (q : Int)) = false := by simp; omega
    go_enter Try.func87, Try.ntmps87
    go_wp2_with fail
    go_ret
    exact ⟨2 + (q : Int), by omega, by omega, rfl, rfl⟩
/-- a drawn tree comes back -/
def TreeD (W : World) (e : Ending) (W' : World) : Prop :=
  ∃ (L : Nat) (τ : Tau) (ys : List Value), e = .returned (.agg ys.toArray) ∧ GoodRow τ 1000 .exprs ys 106 ∧ Inv L τ 1000 W' ∧ W.heap.size ≤ L ∧ Below W.heap.size W W'
theorem RowB.wid {B B' : Nat} {a : Option Addr} {len : Nat} {W : World} (h : RowB B a len W) (hB : B ≤ B') : RowB B' a len W := by
  refine ⟨h.1, fun j hj => ?_⟩
  obtain ⟨b, off, n, e1, e2, e3⟩ := h.2 j hj
  exact ⟨b, off, n, e1, by omega, e3⟩
def tau0 : Tau := fun _ => none
theorem inv0 (L S : Nat) (W : World) : Inv L tau0 S W := ⟨fun _ _ _ _ h => by cases h⟩
theorem We_le : ∀ d, d ≤ 3 → We d ≤ 53 := by decide
theorem dbl_none {τ : Tau} {g : Nat} (h : τ g = none) : dbl τ g = none := by unfold dbl; rw [h]; rfl
theorem Inv.under {L : Nat} {τ : Tau} {S : Nat} {w : World} (H : Inv L τ S w) {k : Nat} (h : k < L) : τ k = none := by
  cases e : τ k with
  | none => rfl
  | some b => have := H.low e; omega
set_option maxRecDepth 100000 in
set_option maxHeartbeats 16000000 in
theorem tree_any (a : Option Addr) (len cap : Nat) (W : World) (hrow : RowB W.heap.size a len W) :
    Calls Try.prog 40 #[.slice a len cap] W (TreeD W) := by
  have hlen := hrow.1
  have P2 := RowAt.new W 29 #[.int .i64 0, .int .i64 0, .bool false, .int .i64 0, .int .i64 0, .string ⟨#[]⟩, .string ⟨#[]⟩, .string ⟨#[]⟩, .slice none 0 0, .slice none 0 0]
  have hbel : Below W.heap.size W (W.alloc (.cells #[.int .i64 0, .int .i64 0, .bool false, .int .i64 0, .int .i64 0, .string ⟨#[]⟩, .string ⟨#[]⟩, .string ⟨#[]⟩, .slice none 0 0, .slice none 0 0] 29)) := (Below.refl _ _).alloc (Nat.le_refl _) _
  have hsz : (W.alloc (.cells #[.int .i64 0, .int .i64 0, .bool false, .int .i64 0, .int .i64 0, .string ⟨#[]⟩, .string ⟨#[]⟩, .string ⟨#[]⟩, .slice none 0 0, .slice none 0 0] 29)).heap.size = W.heap.size + 1 := by simp
  go_enter Try.func40, Try.ntmps40
  go_wp2_with fail
  generalize W.alloc (.cells #[.int .i64 0, .int .i64 0, .bool false, .int .i64 0, .int .i64 0, .string ⟨#[]⟩, .string ⟨#[]⟩, .string ⟨#[]⟩, .slice none 0 0, .slice none 0 0] 29) = W1 at P2 hbel hsz ⊢
  refine (new_any W1.heap.size a len cap _ ((hrow.later hbel).wid (by omega)) (Nat.le_refl _)).mono ?_
  rintro e W2 ⟨rfl, hc, hb⟩
  have hC := hc.lt
  replace P2 := P2.later hb
  replace hbel := hbel.trans (hb.mono (by omega))
  clear hb hrow
  obtain ⟨c, ecB, ecC, eca, ecl, ecc⟩ : ∃ c : Cu, c.B = W1.heap.size ∧ c.C = W1.heap.size ∧ c.a = a ∧ c.len = len ∧ c.cap = cap := ⟨⟨W1.heap.size, W1.heap.size, a, len, cap⟩, rfl, rfl, rfl, rfl, rfl⟩
  have hcur : c.at W2 := by show Cur c.B c.C c.a c.len c.cap W2; rw [ecB, ecC, eca, ecl, ecc]; exact hc
  rw [← ecC] at hsz hC ⊢
  clear hc ecB ecC eca ecl ecc
  have H := DS.start (L := c.C + 1) hcur (inv0 _ 1000 W2) (Nat.lt_succ_self _) hC
  have hb2 : W.heap.size < c.C := by omega
  have hb2' : some W.heap.size ≠ some c.C := by intro e; injection e; omega
  clear hcur hsz
  have hrun : ∀ {W' : World}, W2.grownBy W' (some c.C) → Below W.heap.size W W' := fun g => below_of_grown hbel g (by omega) (by omega)
  go_wp2_with fail
  refine (once_any 16 c.B c.C c.a c.len c.cap _ H.cur (by omega) (by omega)).mono ?_
  rintro e W3 ⟨x, rfl, hc, hg⟩
  replace P2 := P2.turn hg hb2'
  replace H := H.draw hc hg
  clear hc hg
  cases x
  · go_wp2_with fail
    refine (size4_any a len cap W3 hlen).mono ?_
    rintro e Z ⟨n, hn2, hn4, rfl, rfl⟩
    go_wp2_with fail
    refine (below_any n c.B c.C c.a c.len c.cap _ H.cur (by omega) (by omega)).mono ?_
    rintro e W4 ⟨x, hx0, hx1, rfl, hc, hg⟩
    replace P2 := P2.turn hg hb2'
    replace H := H.draw hc hg
    clear hc hg
    obtain ⟨d, rfl⟩ : ∃ d : Nat, x = (d : Int) := Int.eq_ofNat_of_zero_le hx0
    have hd : d ≤ 3 := by omega
    clear hx0 hx1 hn2 hn4
    have hWe := We_le d hd
    go_wp2_with fail
    refine (expr_all d (by omega) (c.C + 1) c _ _ H.here).mono ?_
    rintro e W5 ⟨τ', ys, rfl, hy, K⟩
    replace P2 := P2.turn K.grown hb2'
    replace H := H.call K
    clear K
    obtain ⟨e0, e1, e2, e3, e4, e5, e6, e7, a8, n8, p8, a9, n9, p9, rfl⟩ := hy.tenS
    have st1 := stE_new (w := W5) (ys := [.int .i64 e0, .int .i64 e1, .bool e2, .int .i64 e3, .int .i64 e4, .string e5, .string e6, .string e7, .slice a8 n8 p8, .slice a9 n9 p9]) rfl rfl
    have R4 := Bx.new H 29 #[.int .i64 e0, .int .i64 e1, .bool e2, .int .i64 e3, .int .i64 e4, .string e5, .string e6, .string e7, .slice a8 n8 p8, .slice a9 n9 p9]
    replace P2 := P2.alloc (.cells #[.int .i64 e0, .int .i64 e1, .bool e2, .int .i64 e3, .int .i64 e4, .string e5, .string e6, .string e7, .slice a8 n8 p8, .slice a9 n9 p9] 29)
    replace H := H.alloc (.cells #[.int .i64 e0, .int .i64 e1, .bool e2, .int .i64 e3, .int .i64 e4, .string e5, .string e6, .string e7, .slice a8 n8 p8, .slice a9 n9 p9] 29)
    go_wp2_with fail
    clear st1
    generalize W5.alloc (.cells #[.int .i64 e0, .int .i64 e1, .bool e2, .int .i64 e3, .int .i64 e4, .string e5, .string e6, .string e7, .slice a8 n8 p8, .slice a9 n9 p9] 29) = W6 at P2 R4 H ⊢
    have hb4 := R4.hi
    generalize W5.heap.size = b4 at R4 hb4 ⊢
    refine (once_any 4 c.B c.C c.a c.len c.cap _ H.cur (by omega) (by omega)).mono ?_
    rintro e W7 ⟨x, rfl, hc, hg⟩
    replace P2 := P2.turn hg hb2'
    replace R4 := R4.drawC H hg
    replace H := H.draw hc hg
    clear hc hg
    have ld := ldE_row (ys := [.int .i64 e0, .int .i64 e1, .bool e2, .int .i64 e3, .int .i64 e4, .string e5, .string e6, .string e7, .slice a8 n8 p8, .slice a9 n9 p9]) R4.row rfl
    cases x
    · have st := stE_row (ys := [.int .i64 e0, .int .i64 e1, .bool e2, .int .i64 e3, .int .i64 e4, .string e5, .string e6, .string e7, .slice a8 n8 p8, .slice a9 n9 p9]) P2 rfl rfl rfl
      have hb := P2.setRow [.int .i64 e0, .int .i64 e1, .bool e2, .int .i64 e3, .int .i64 e4, .string e5, .string e6, .string e7, .slice a8 n8 p8, .slice a9 n9 p9].toArray
      have hgs := setRow_grown W7 W.heap.size [.int .i64 e0, .int .i64 e1, .bool e2, .int .i64 e3, .int .i64 e4, .string e5, .string e6, .string e7, .slice a8 n8 p8, .slice a9 n9 p9].toArray
      have HF : TreeD W (.returned (.agg #[.int .i64 e0, .int .i64 e1, .bool e2, .int .i64 e3, .int .i64 e4, .string e5, .string e6, .string e7, .slice a8 n8 p8, .slice a9 n9 p9])) (W7.setRow W.heap.size [.int .i64 e0, .int .i64 e1, .bool e2, .int .i64 e3, .int .i64 e4, .string e5, .string e6, .string e7, .slice a8 n8 p8, .slice a9 n9 p9].toArray) :=
        ⟨c.C + 1, τ', _, rfl, hy.le (TLe.refl _) (by omega), H.inv.keep (fun k b hk => hgs.block k (H.inv.lt hk) (fun e => by have := H.inv.low hk; injection e; omega)), by omega, (hrun H.grown).grown hgs (by have := H.size; omega) (fun k e => by injection e with e; subst e; exact Nat.le_refl _)⟩
      go_wp2_with fail
      generalize (W7).setRow W.heap.size [.int .i64 e0, .int .i64 e1, .bool e2, .int .i64 e3, .int .i64 e4, .string e5, .string e6, .string e7, .slice a8 n8 p8, .slice a9 n9 p9].toArray = wf at hb HF ⊢
      have f0 := hb.cell (i := 0) (v := .int .i64 e0) rfl
      have f1 := hb.cell (i := 1) (v := .int .i64 e1) rfl
      have f2 := hb.cell (i := 2) (v := .bool e2) rfl
      have f3 := hb.cell (i := 3) (v := .int .i64 e3) rfl
      have f4 := hb.cell (i := 4) (v := .int .i64 e4) rfl
      have f5 := hb.cell (i := 5) (v := .string e5) rfl
      have f6 := hb.cell (i := 6) (v := .string e6) rfl
      have f7 := hb.cell (i := 7) (v := .string e7) rfl
      have f8 := hb.cell (i := 8) (v := .slice a8 n8 p8) rfl
      have f9 := hb.cell (i := 9) (v := .slice a9 n9 p9) rfl
      refine bodyPost_ret (v := .agg #[.int .i64 e0, .int .i64 e1, .bool e2, .int .i64 e3, .int .i64 e4, .string e5, .string e6, .string e7, .slice a8 n8 p8, .slice a9 n9 p9]) (by simp [results, Try.results40, go_sem, f0, f1, f2, f3, f4, f5, f6, f7, f8, f9]) rfl ?_
      exact HF
    · have hlt2 : W.heap.size < W7.heap.size := P2.lt
      go_wp2_with fail
      refine (bent_all (2 * We d) (by omega) (c.C + 1) c (dbl τ') W7 [.int .i64 e0, .int .i64 e1, .bool e2, .int .i64 e3, .int .i64 e4, .string e5, .string e6, .string e7, .slice a8 n8 p8, .slice a9 n9 p9] H.inv.dbl H.cur H.lo (Nat.le_trans H.hi H.size) hy.slack).mono ?_
      rintro e W8 ⟨τ1, τ2, zs, rfl, hBu, hT, hz, hI, hcur, hK⟩
      replace P2 : RowAt W8 W.heap.size 29 _ := (hK.blk W.heap.size hlt2 (dbl_none (H.inv.under (by omega))) (by omega)).trans P2
      have P4 : RowAt W8 b4 29 _ := (hK.blk b4 R4.row.lt (dbl_none R4.free) (by omega)).trans R4.row
      have hf4 := hK.free b4 R4.row.lt (dbl_none R4.free)
      obtain ⟨z0, z1, z2, z3, z4, z5, z6, z7, za8, zn8, zp8, za9, zn9, zp9, rfl⟩ := hz.tenS
      have st4 := stE_row (ys := [.int .i64 z0, .int .i64 z1, .bool z2, .int .i64 z3, .int .i64 z4, .string z5, .string z6, .string z7, .slice za8 zn8 zp8, .slice za9 zn9 zp9]) P4 rfl rfl rfl
      have hg4 := setRow_grown W8 b4 [.int .i64 z0, .int .i64 z1, .bool z2, .int .i64 z3, .int .i64 z4, .string z5, .string z6, .string z7, .slice za8 zn8 zp8, .slice za9 zn9 zp9].toArray
      have hne : W.heap.size ≠ b4 := by omega
      replace P2 : RowAt (W8.setRow b4 [.int .i64 z0, .int .i64 z1, .bool z2, .int .i64 z3, .int .i64 z4, .string z5, .string z6, .string z7, .slice za8 zn8 zp8, .slice za9 zn9 zp9].toArray) W.heap.size 29 _ := (setRow_other W8 b4 W.heap.size _ hne).trans P2
      replace P4 := P4.setRow [.int .i64 z0, .int .i64 z1, .bool z2, .int .i64 z3, .int .i64 z4, .string z5, .string z6, .string z7, .slice za8 zn8 zp8, .slice za9 zn9 zp9].toArray
      have hI9 : Inv (c.C + 1) τ2 1000 (W8.setRow b4 [.int .i64 z0, .int .i64 z1, .bool z2, .int .i64 z3, .int .i64 z4, .string z5, .string z6, .string z7, .slice za8 zn8 zp8, .slice za9 zn9 zp9].toArray) := hI.keep (fun k b hk => hg4.block k (hI.lt hk) (fun e => by injection e with e; subst e; rw [hf4] at hk; cases hk))
      have hB7 := hrun H.grown
      have hB8 : Below W.heap.size W W8 := ⟨hK.os.trans hB7.os, hK.tape.trans hB7.tape, hK.output.trans hB7.output, Nat.le_trans hB7.size hK.size, fun k hk => (hK.blk k (by omega) (dbl_none (H.inv.under (by omega))) (by omega)).trans (hB7.block k hk)⟩
      have hB9 := hB8.grown hg4 (by have := hK.size; omega) (fun k e => by injection e with e; omega)
      have hs9 : W.heap.size ≤ (W8.setRow b4 [.int .i64 z0, .int .i64 z1, .bool z2, .int .i64 z3, .int .i64 z4, .string z5, .string z6, .string z7, .slice za8 zn8 zp8, .slice za9 zn9 zp9].toArray).heap.size := by have := hK.size; have := hg4.size; omega
      clear ld hK hI hB8 hg4
      have ld9 := ldE_row (ys := [.int .i64 z0, .int .i64 z1, .bool z2, .int .i64 z3, .int .i64 z4, .string z5, .string z6, .string z7, .slice za8 zn8 zp8, .slice za9 zn9 zp9]) P4 rfl
      have st := stE_row (ys := [.int .i64 z0, .int .i64 z1, .bool z2, .int .i64 z3, .int .i64 z4, .string z5, .string z6, .string z7, .slice za8 zn8 zp8, .slice za9 zn9 zp9]) P2 rfl rfl rfl
      have hb := P2.setRow [.int .i64 z0, .int .i64 z1, .bool z2, .int .i64 z3, .int .i64 z4, .string z5, .string z6, .string z7, .slice za8 zn8 zp8, .slice za9 zn9 zp9].toArray
      have hgs := setRow_grown (W8.setRow b4 [.int .i64 z0, .int .i64 z1, .bool z2, .int .i64 z3, .int .i64 z4, .string z5, .string z6, .string z7, .slice za8 zn8 zp8, .slice za9 zn9 zp9].toArray) W.heap.size [.int .i64 z0, .int .i64 z1, .bool z2, .int .i64 z3, .int .i64 z4, .string z5, .string z6, .string z7, .slice za8 zn8 zp8, .slice za9 zn9 zp9].toArray
      have HF : TreeD W (.returned (.agg #[.int .i64 z0, .int .i64 z1, .bool z2, .int .i64 z3, .int .i64 z4, .string z5, .string z6, .string z7, .slice za8 zn8 zp8, .slice za9 zn9 zp9])) ((W8.setRow b4 [.int .i64 z0, .int .i64 z1, .bool z2, .int .i64 z3, .int .i64 z4, .string z5, .string z6, .string z7, .slice za8 zn8 zp8, .slice za9 zn9 zp9].toArray).setRow W.heap.size [.int .i64 z0, .int .i64 z1, .bool z2, .int .i64 z3, .int .i64 z4, .string z5, .string z6, .string z7, .slice za8 zn8 zp8, .slice za9 zn9 zp9].toArray) :=
        ⟨c.C + 1, τ2, _, rfl, hz.le (TLe.refl _) (by omega), hI9.keep (fun k b hk => hgs.block k (hI9.lt hk) (fun e => by have := hI9.low hk; injection e; omega)), by omega, hB9.grown hgs hs9 (fun k e => by injection e with e; subst e; exact Nat.le_refl _)⟩
      go_wp2_with fail
      generalize (W8.setRow b4 [.int .i64 z0, .int .i64 z1, .bool z2, .int .i64 z3, .int .i64 z4, .string z5, .string z6, .string z7, .slice za8 zn8 zp8, .slice za9 zn9 zp9].toArray).setRow W.heap.size [.int .i64 z0, .int .i64 z1, .bool z2, .int .i64 z3, .int .i64 z4, .string z5, .string z6, .string z7, .slice za8 zn8 zp8, .slice za9 zn9 zp9].toArray = wf at hb HF ⊢
      have f0 := hb.cell (i := 0) (v := .int .i64 z0) rfl
      have f1 := hb.cell (i := 1) (v := .int .i64 z1) rfl
      have f2 := hb.cell (i := 2) (v := .bool z2) rfl
      have f3 := hb.cell (i := 3) (v := .int .i64 z3) rfl
      have f4 := hb.cell (i := 4) (v := .int .i64 z4) rfl
      have f5 := hb.cell (i := 5) (v := .string z5) rfl
      have f6 := hb.cell (i := 6) (v := .string z6) rfl
      have f7 := hb.cell (i := 7) (v := .string z7) rfl
      have f8 := hb.cell (i := 8) (v := .slice za8 zn8 zp8) rfl
      have f9 := hb.cell (i := 9) (v := .slice za9 zn9 zp9) rfl
      refine bodyPost_ret (v := .agg #[.int .i64 z0, .int .i64 z1, .bool z2, .int .i64 z3, .int .i64 z4, .string z5, .string z6, .string z7, .slice za8 zn8 zp8, .slice za9 zn9 zp9]) (by simp [results, Try.results40, go_sem, f0, f1, f2, f3, f4, f5, f6, f7, f8, f9]) rfl ?_
      exact HF
  · go_wp2_with fail
    refine (deep_any (c.C + 1) c tau0 _ H.here).mono ?_
    rintro e W4 ⟨τ', ys, rfl, hy, K⟩
    replace P2 := P2.turn K.grown hb2'
    replace H := H.call K
    obtain ⟨e0, e1, e2, e3, e4, e5, e6, e7, a8, n8, p8, a9, n9, p9, rfl⟩ := hy.tenS
    have st := stE_row (ys := [.int .i64 e0, .int .i64 e1, .bool e2, .int .i64 e3, .int .i64 e4, .string e5, .string e6, .string e7, .slice a8 n8 p8, .slice a9 n9 p9]) P2 rfl rfl rfl
    have hb := P2.setRow [.int .i64 e0, .int .i64 e1, .bool e2, .int .i64 e3, .int .i64 e4, .string e5, .string e6, .string e7, .slice a8 n8 p8, .slice a9 n9 p9].toArray
    have hgs := setRow_grown W4 W.heap.size [.int .i64 e0, .int .i64 e1, .bool e2, .int .i64 e3, .int .i64 e4, .string e5, .string e6, .string e7, .slice a8 n8 p8, .slice a9 n9 p9].toArray
    have HF : TreeD W (.returned (.agg #[.int .i64 e0, .int .i64 e1, .bool e2, .int .i64 e3, .int .i64 e4, .string e5, .string e6, .string e7, .slice a8 n8 p8, .slice a9 n9 p9])) (W4.setRow W.heap.size [.int .i64 e0, .int .i64 e1, .bool e2, .int .i64 e3, .int .i64 e4, .string e5, .string e6, .string e7, .slice a8 n8 p8, .slice a9 n9 p9].toArray) :=
      ⟨c.C + 1, τ', _, rfl, hy.le (TLe.refl _) (by omega), H.inv.keep (fun k b hk => hgs.block k (H.inv.lt hk) (fun e => by have := H.inv.low hk; injection e; omega)), by omega, (hrun H.grown).grown hgs (by have := H.size; omega) (fun k e => by injection e with e; subst e; exact Nat.le_refl _)⟩
    go_wp2_with fail
    generalize W4.setRow W.heap.size [.int .i64 e0, .int .i64 e1, .bool e2, .int .i64 e3, .int .i64 e4, .string e5, .string e6, .string e7, .slice a8 n8 p8, .slice a9 n9 p9].toArray = wf at hb HF ⊢
    have f0 := hb.cell (i := 0) (v := .int .i64 e0) rfl
    have f1 := hb.cell (i := 1) (v := .int .i64 e1) rfl
    have f2 := hb.cell (i := 2) (v := .bool e2) rfl
    have f3 := hb.cell (i := 3) (v := .int .i64 e3) rfl
    have f4 := hb.cell (i := 4) (v := .int .i64 e4) rfl
    have f5 := hb.cell (i := 5) (v := .string e5) rfl
    have f6 := hb.cell (i := 6) (v := .string e6) rfl
    have f7 := hb.cell (i := 7) (v := .string e7) rfl
    have f8 := hb.cell (i := 8) (v := .slice a8 n8 p8) rfl
    have f9 := hb.cell (i := 9) (v := .slice a9 n9 p9) rfl
    refine bodyPost_ret (v := .agg #[.int .i64 e0, .int .i64 e1, .bool e2, .int .i64 e3, .int .i64 e4, .string e5, .string e6, .string e7, .slice a8 n8 p8, .slice a9 n9 p9]) (by simp [results, Try.results40, go_sem, f0, f1, f2, f3, f4, f5, f6, f7, f8, f9]) rfl ?_
    exact HF
end Go.Proofs.Ytkacelpndeoogaa

/- Drawing a tree and a place. -/
namespace Go.Proofs.Ytkacelpndeoogaa
open Go.RowKit
attribute [local go_sem ↓] execOp_stE

def ArgD (W : World) (e : Ending) (W' : World) : Prop :=
  ∃ (L : Nat) (τ : Tau) (ys : List Value) (k : Int), e = .returned (.tuple #[.agg ys.toArray, .int .i64 k]) ∧ GoodRow τ 1000 .exprs ys 106 ∧ Inv L τ 1000 W' ∧ W.heap.size ≤ L ∧ (-9223372036854775808 ≤ k ∧ k ≤ 9223372036854775807) ∧ Below W.heap.size W W'
set_option maxRecDepth 100000 in
set_option maxHeartbeats 4000000 in
theorem drawDepthOf_any (a : Option Addr) (len cap : Nat) (W : World) (hrow : RowB W.heap.size a len W) :
    Calls Try.prog 10 #[.slice a len cap] W (TreeD W) := by
  have P2 := RowAt.new W 29 #[.int .i64 0, .int .i64 0, .bool false, .int .i64 0, .int .i64 0, .string ⟨#[]⟩, .string ⟨#[]⟩, .string ⟨#[]⟩, .slice none 0 0, .slice none 0 0]
  have hbel : Below W.heap.size W (W.alloc (.cells #[.int .i64 0, .int .i64 0, .bool false, .int .i64 0, .int .i64 0, .string ⟨#[]⟩, .string ⟨#[]⟩, .string ⟨#[]⟩, .slice none 0 0, .slice none 0 0] 29)) := (Below.refl _ _).alloc (Nat.le_refl _) _
  have hsz : (W.alloc (.cells #[.int .i64 0, .int .i64 0, .bool false, .int .i64 0, .int .i64 0, .string ⟨#[]⟩, .string ⟨#[]⟩, .string ⟨#[]⟩, .slice none 0 0, .slice none 0 0] 29)).heap.size = W.heap.size + 1 := by simp
  go_enter Try.func10, Try.ntmps10
  go_wp2_with fail
  generalize W.alloc (.cells #[.int .i64 0, .int .i64 0, .bool false, .int .i64 0, .int .i64 0, .string ⟨#[]⟩, .string ⟨#[]⟩, .string ⟨#[]⟩, .slice none 0 0, .slice none 0 0] 29) = W1 at P2 hbel hsz ⊢
  have hs1 : W.heap.size < W1.heap.size := by omega
  clear hsz
  refine (tree_any a len cap W1 ((hrow.later hbel).wid (by omega))).mono ?_
  rintro e W2 ⟨L, τ, ys, rfl, hy, hI, hL, hb⟩
  replace P2 := P2.later hb
  replace hbel := hbel.trans (hb.mono (by omega))
  have hs2 := hb.size
  clear hb
  obtain ⟨e0, e1, e2, e3, e4, e5, e6, e7, a8, n8, p8, a9, n9, p9, rfl⟩ := hy.tenS
  have st := stE_row (ys := [.int .i64 e0, .int .i64 e1, .bool e2, .int .i64 e3, .int .i64 e4, .string e5, .string e6, .string e7, .slice a8 n8 p8, .slice a9 n9 p9]) P2 rfl rfl rfl
  have hb := P2.setRow [.int .i64 e0, .int .i64 e1, .bool e2, .int .i64 e3, .int .i64 e4, .string e5, .string e6, .string e7, .slice a8 n8 p8, .slice a9 n9 p9].toArray
  have hgs := setRow_grown W2 W.heap.size [.int .i64 e0, .int .i64 e1, .bool e2, .int .i64 e3, .int .i64 e4, .string e5, .string e6, .string e7, .slice a8 n8 p8, .slice a9 n9 p9].toArray
  have HF : TreeD W (.returned (.agg #[.int .i64 e0, .int .i64 e1, .bool e2, .int .i64 e3, .int .i64 e4, .string e5, .string e6, .string e7, .slice a8 n8 p8, .slice a9 n9 p9])) (W2.setRow W.heap.size [.int .i64 e0, .int .i64 e1, .bool e2, .int .i64 e3, .int .i64 e4, .string e5, .string e6, .string e7, .slice a8 n8 p8, .slice a9 n9 p9].toArray) :=
    ⟨L, τ, _, rfl, hy, hI.keep (fun k b hk => hgs.block k (hI.lt hk) (fun e => by have := hI.low hk; injection e; omega)), by omega, hbel.grown hgs (by omega) (fun k e => by injection e with e; subst e; exact Nat.le_refl _)⟩
  go_wp2_with fail
  generalize W2.setRow W.heap.size [.int .i64 e0, .int .i64 e1, .bool e2, .int .i64 e3, .int .i64 e4, .string e5, .string e6, .string e7, .slice a8 n8 p8, .slice a9 n9 p9].toArray = wf at hb HF ⊢
  have f0 := hb.cell (i := 0) (v := .int .i64 e0) rfl
  have f1 := hb.cell (i := 1) (v := .int .i64 e1) rfl
  have f2 := hb.cell (i := 2) (v := .bool e2) rfl
  have f3 := hb.cell (i := 3) (v := .int .i64 e3) rfl
  have f4 := hb.cell (i := 4) (v := .int .i64 e4) rfl
  have f5 := hb.cell (i := 5) (v := .string e5) rfl
  have f6 := hb.cell (i := 6) (v := .string e6) rfl
  have f7 := hb.cell (i := 7) (v := .string e7) rfl
  have f8 := hb.cell (i := 8) (v := .slice a8 n8 p8) rfl
  have f9 := hb.cell (i := 9) (v := .slice a9 n9 p9) rfl
  refine bodyPost_ret (v := .agg #[.int .i64 e0, .int .i64 e1, .bool e2, .int .i64 e3, .int .i64 e4, .string e5, .string e6, .string e7, .slice a8 n8 p8, .slice a9 n9 p9]) (by simp [results, Try.results10, go_sem, f0, f1, f2, f3, f4, f5, f6, f7, f8, f9]) rfl ?_
  exact HF
set_option maxRecDepth 100000 in
set_option maxHeartbeats 4000000 in
theorem drawExprOk_any (a : Option Addr) (len cap : Nat) (W : World) (hrow : RowB W.heap.size a len W) :
    Calls Try.prog 16 #[.slice a len cap] W (TreeD W) := by
  have P2 := RowAt.new W 29 #[.int .i64 0, .int .i64 0, .bool false, .int .i64 0, .int .i64 0, .string ⟨#[]⟩, .string ⟨#[]⟩, .string ⟨#[]⟩, .slice none 0 0, .slice none 0 0]
  have hbel : Below W.heap.size W (W.alloc (.cells #[.int .i64 0, .int .i64 0, .bool false, .int .i64 0, .int .i64 0, .string ⟨#[]⟩, .string ⟨#[]⟩, .string ⟨#[]⟩, .slice none 0 0, .slice none 0 0] 29)) := (Below.refl _ _).alloc (Nat.le_refl _) _
  have hsz : (W.alloc (.cells #[.int .i64 0, .int .i64 0, .bool false, .int .i64 0, .int .i64 0, .string ⟨#[]⟩, .string ⟨#[]⟩, .string ⟨#[]⟩, .slice none 0 0, .slice none 0 0] 29)).heap.size = W.heap.size + 1 := by simp
  go_enter Try.func16, Try.ntmps16
  go_wp2_with fail
  generalize W.alloc (.cells #[.int .i64 0, .int .i64 0, .bool false, .int .i64 0, .int .i64 0, .string ⟨#[]⟩, .string ⟨#[]⟩, .string ⟨#[]⟩, .slice none 0 0, .slice none 0 0] 29) = W1 at P2 hbel hsz ⊢
  have hs1 : W.heap.size < W1.heap.size := by omega
  clear hsz
  refine (tree_any a len cap W1 ((hrow.later hbel).wid (by omega))).mono ?_
  rintro e W2 ⟨L, τ, ys, rfl, hy, hI, hL, hb⟩
  replace P2 := P2.later hb
  replace hbel := hbel.trans (hb.mono (by omega))
  have hs2 := hb.size
  clear hb
  obtain ⟨e0, e1, e2, e3, e4, e5, e6, e7, a8, n8, p8, a9, n9, p9, rfl⟩ := hy.tenS
  have st := stE_row (ys := [.int .i64 e0, .int .i64 e1, .bool e2, .int .i64 e3, .int .i64 e4, .string e5, .string e6, .string e7, .slice a8 n8 p8, .slice a9 n9 p9]) P2 rfl rfl rfl
  have hb := P2.setRow [.int .i64 e0, .int .i64 e1, .bool e2, .int .i64 e3, .int .i64 e4, .string e5, .string e6, .string e7, .slice a8 n8 p8, .slice a9 n9 p9].toArray
  have hgs := setRow_grown W2 W.heap.size [.int .i64 e0, .int .i64 e1, .bool e2, .int .i64 e3, .int .i64 e4, .string e5, .string e6, .string e7, .slice a8 n8 p8, .slice a9 n9 p9].toArray
  have HF : TreeD W (.returned (.agg #[.int .i64 e0, .int .i64 e1, .bool e2, .int .i64 e3, .int .i64 e4, .string e5, .string e6, .string e7, .slice a8 n8 p8, .slice a9 n9 p9])) (W2.setRow W.heap.size [.int .i64 e0, .int .i64 e1, .bool e2, .int .i64 e3, .int .i64 e4, .string e5, .string e6, .string e7, .slice a8 n8 p8, .slice a9 n9 p9].toArray) :=
    ⟨L, τ, _, rfl, hy, hI.keep (fun k b hk => hgs.block k (hI.lt hk) (fun e => by have := hI.low hk; injection e; omega)), by omega, hbel.grown hgs (by omega) (fun k e => by injection e with e; subst e; exact Nat.le_refl _)⟩
  go_wp2_with fail
  generalize W2.setRow W.heap.size [.int .i64 e0, .int .i64 e1, .bool e2, .int .i64 e3, .int .i64 e4, .string e5, .string e6, .string e7, .slice a8 n8 p8, .slice a9 n9 p9].toArray = wf at hb HF ⊢
  have f0 := hb.cell (i := 0) (v := .int .i64 e0) rfl
  have f1 := hb.cell (i := 1) (v := .int .i64 e1) rfl
  have f2 := hb.cell (i := 2) (v := .bool e2) rfl
  have f3 := hb.cell (i := 3) (v := .int .i64 e3) rfl
  have f4 := hb.cell (i := 4) (v := .int .i64 e4) rfl
  have f5 := hb.cell (i := 5) (v := .string e5) rfl
  have f6 := hb.cell (i := 6) (v := .string e6) rfl
  have f7 := hb.cell (i := 7) (v := .string e7) rfl
  have f8 := hb.cell (i := 8) (v := .slice a8 n8 p8) rfl
  have f9 := hb.cell (i := 9) (v := .slice a9 n9 p9) rfl
  refine bodyPost_ret (v := .agg #[.int .i64 e0, .int .i64 e1, .bool e2, .int .i64 e3, .int .i64 e4, .string e5, .string e6, .string e7, .slice a8 n8 p8, .slice a9 n9 p9]) (by simp [results, Try.results16, go_sem, f0, f1, f2, f3, f4, f5, f6, f7, f8, f9]) rfl ?_
  exact HF
end Go.Proofs.Ytkacelpndeoogaa

/- What a drawn tree reads as. -/
namespace Go.Proofs.Ytkacelpndeoogaa
open Go.RowKit

theorem tree_out {L : Nat} {τ : Tau} {W : World} {ys : List Value} {N : Nat} (H : Inv L τ 1000 W) (hy : GoodRow τ 1000 .exprs ys N) :
    ∃ c : Nd, OutK exprTy W ys [c] ∧ msr (c 8) + msr (c 9) ≤ 5001 * N ∧ (∀ j, msr (c j) ≤ 5001 * N) := by
  have key : ∀ j, ∃ d, (10 ≤ j → d = .v undef) ∧ ∀ hj : j < exprTy.length, ∃ y, ys[j]? = some y ∧ Rd W 0 y d ∧ Fits d (exprTy[j]) ∧ msr d ≤ 5001 * slw τ y + strB 1000 (exprTy[j]) := fun j => by
    by_cases hj : j < exprTy.length
    · obtain ⟨y, hy1, hg⟩ := hy.cell j hj
      obtain ⟨d, h1, h2, h3⟩ := good_reads H (by omega) (slw τ y) _ y hg (Nat.le_refl _)
      exact ⟨d, fun h => absurd hj (by simp [exprTy]; omega), fun _ => ⟨y, hy1, h1, h2, h3⟩⟩
    · exact ⟨.v undef, fun _ => rfl, fun h => absurd h hj⟩
  let c : Nd := fun j => Classical.choose (key j)
  have hc : ∀ j (hj : j < exprTy.length), ∃ y, ys[j]? = some y ∧ Rd W 0 y (c j) ∧ Fits (c j) (exprTy[j]) ∧ msr (c j) ≤ 5001 * slw τ y + strB 1000 (exprTy[j]) := fun j hj => (Classical.choose_spec (key j)).2 hj
  have hbig : ∀ j, 10 ≤ j → c j = .v undef := fun j hj => (Classical.choose_spec (key j)).1 hj
  have hs := hy.sum
  refine ⟨c, OutK.one hy.len fun j hj => ?_, ?_, fun j => ?_⟩
  · obtain ⟨y, h1, h2, h3, _⟩ := hc j hj
    exact ⟨y, h1, h2, h3⟩
  · obtain ⟨y8, h8, -, -, m8⟩ := hc 8 (by decide)
    obtain ⟨y9, h9, -, -, m9⟩ := hc 9 (by decide)
    obtain ⟨c0, c1, c2, c3, c4, c5, c6, c7, x8, x9, rfl, -, -, -, -, -, -, -, -, -, hs2⟩ := hy.ten
    obtain rfl : x8 = y8 := by simpa using h8
    obtain rfl : x9 = y9 := by simpa using h9
    replace m8 : msr (c 8) ≤ 5001 * slw τ x8 + 0 := m8
    replace m9 : msr (c 9) ≤ 5001 * slw τ x9 + 0 := m9
    omega
  · by_cases hj : j < exprTy.length
    · obtain ⟨y, h1, -, -, m⟩ := hc j hj
      have hw := hy.cellW h1
      have hb : strB 1000 (exprTy[j]) ≤ 1000 := by unfold strB; split <;> omega
      omega
    · rw [hbig j (by simp [exprTy] at hj; omega)]
      exact Nat.zero_le _
end Go.Proofs.Ytkacelpndeoogaa
