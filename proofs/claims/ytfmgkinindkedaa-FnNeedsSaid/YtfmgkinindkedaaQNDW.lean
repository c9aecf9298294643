/- Joined texts: DrawTree DrawArgs DrawOut OkMath. -/
import Derived.Test.YtfmgkinindkedaaQNDU
import Derived.Test.YtfmgkinindkedaaQHBentI
import Derived.Test.YtfmgkinindkedaaQNDG
import Derived.Test.YtfmgkinindkedaaQNDK
import Derived.Test.YtfmgkinindkedaaQNDQ
import Derived.Test.YtfmgkinindkedaaQNDD
import Derived.Deep.RegionLaw
/- Drawing a tree out of bytes: l7Draw of the model. -/
namespace Go.Proofs.Ytfmgkinindkedaa
open Go.RowKit
attribute [local go_sem ↓] execOp_ldE execOp_stE

set_option maxRecDepth 100000 in
set_option maxHeartbeats 1000000 in
theorem size4_any (a : Option Addr) (len cap : Nat) (w : World) (hlen : len ≤ 9223372036854775807) :
    Calls Try.prog 160 #[.slice a len cap, .int .i64 4] w fun e w' => ∃ n : Int, 2 ≤ n ∧ n ≤ 4 ∧ e = .returned (.int .i64 n) ∧ w = w' := by
  obtain ⟨q, hq, hql⟩ : ∃ q : Nat, (len : Int).tdiv 20 = (q : Int) ∧ q ≤ len := ⟨len / 20, by rw [Int.tdiv_eq_ediv_of_nonneg (by omega)]; omega, Nat.div_le_self _ _⟩
  have hq20 : (q : Int) ≤ 461168601842738790 := by
    have := Int.tdiv_eq_ediv_of_nonneg (a := (len : Int)) (b := 20) (by omega)
    omega
  by_cases h : 2 < q
  · have hd : decide (4 < 2 + (q : Int)) = true := by simp; omega
    go_enter Try.func160, Try.ntmps160
    go_wp2_with fail
    go_ret
    exact ⟨4, by omega, by omega, rfl, rfl⟩
  · have hd : decide (4 < 2 + (q : Int)) = false := by simp; omega
    go_enter Try.func160, Try.ntmps160
    go_wp2_with fail
    go_ret
    exact ⟨2 + (q : Int), by omega, by omega, rfl, rfl⟩
/-- a drawn tree comes back -/
def TreeD (W : World) (e : Ending) (W' : World) : Prop :=
  ∃ (L : Nat) (τ : Tau) (ys : List Value), e = .returned (.agg ys.toArray) ∧ GoodRow τ 1000 .exprs ys 106 ∧ Inv L τ 1000 W' ∧ W.heap.size ≤ L ∧ Below W.heap.size W W'
theorem RowB.wid {B B' : Nat} {a : Option Addr} {len : Nat} {W : World} (h : RowB B a len W) (hB : B ≤ B') : RowB B' a len W := by
  refine ⟨h.1, fun j hj => ?_⟩
  obtain ⟨b, off, n, e1, e2, e3⟩ := h.2 j hj
  exact ⟨b, off, n, e1, by omega, e3⟩
def tau0 : Tau := fun _ => none
theorem inv0 (L S : Nat) (W : World) : Inv L tau0 S W := ⟨fun _ _ _ _ h => by cases h⟩
theorem We_le : ∀ d, d ≤ 3 → We d ≤ 53 := by decide
theorem dbl_none {τ : Tau} {g : Nat} (h : τ g = none) : dbl τ g = none := by unfold dbl; rw [h]; rfl
theorem Inv.under {L : Nat} {τ : Tau} {S : Nat} {w : World} (H : Inv L τ S w) {k : Nat} (h : k < L) : τ k = none := by
  cases e : τ k with
  | none => rfl
  | some b => have := H.low e; omega
set_option maxRecDepth 100000 in
set_option maxHeartbeats 16000000 in
theorem tree_any (a : Option Addr) (len cap : Nat) (W : World) (hrow : RowB W.heap.size a len W) :
    Calls Try.prog 126 #[.slice a len cap] W (TreeD W) := by
  have hlen := hrow.1
  have P2 := RowAt.new W 56 #[.int .i64 0, .int .i64 0, .bool false, .int .i64 0, .int .i64 0, .string ⟨#[]⟩, .string ⟨#[]⟩, .string ⟨#[]⟩, .slice none 0 0, .slice none 0 0]
  have hbel : Below W.heap.size W (W.alloc (.cells #[.int .i64 0, .int .i64 0, .bool false, .int .i64 0, .int .i64 0, .string ⟨#[]⟩, .string ⟨#[]⟩, .string ⟨#[]⟩, .slice none 0 0, .slice none 0 0] 56)) := (Below.refl _ _).alloc (Nat.le_refl _) _
  have hsz : (W.alloc (.cells #[.int .i64 0, .int .i64 0, .bool false, .int .i64 0, .int .i64 0, .string ⟨#[]⟩, .string ⟨#[]⟩, .string ⟨#[]⟩, .slice none 0 0, .slice none 0 0] 56)).heap.size = W.heap.size + 1 := by simp
  go_enter Try.func126, Try.ntmps126
  go_wp2_with fail
  generalize W.alloc (.cells #[.int .i64 0, .int .i64 0, .bool false, .int .i64 0, .int .i64 0, .string ⟨#[]⟩, .string ⟨#[]⟩, .string ⟨#[]⟩, .slice none 0 0, .slice none 0 0] 56) = W1 at P2 hbel hsz ⊢
  refine (new_any W1.heap.size a len cap _ ((hrow.later hbel).wid (by omega)) (Nat.le_refl _)).mono ?_
  rintro e W2 ⟨rfl, hc, hb⟩
  have hC := hc.lt
  replace P2 := P2.later hb
  replace hbel := hbel.trans (hb.mono (by omega))
  clear hb hrow
  obtain ⟨c, ecB, ecC, eca, ecl, ecc⟩ : ∃ c : Cu, c.B = W1.heap.size ∧ c.C = W1.heap.size ∧ c.a = a ∧ c.len = len ∧ c.cap = cap := ⟨⟨W1.heap.size, W1.heap.size, a, len, cap⟩, rfl, rfl, rfl, rfl, rfl⟩
  have hcur : c.at W2 := by show Cur c.B c.C c.a c.len c.cap W2; rw [ecB, ecC, eca, ecl, ecc]; exact hc
  rw [← ecC] at hsz hC ⊢
  clear hc ecB ecC eca ecl ecc
  have H := DS.start (L := c.C + 1) hcur (inv0 _ 1000 W2) (Nat.lt_succ_self _) hC
  have hb2 : W.heap.size < c.C := by omega
  have hb2' : some W.heap.size ≠ some c.C := by intro e; injection e; omega
  clear hcur hsz
  have hrun : ∀ {W' : World}, W2.grownBy W' (some c.C) → Below W.heap.size W W' := fun g => below_of_grown hbel g (by omega) (by omega)
  go_wp2_with fail
  refine (once_any 16 c.B c.C c.a c.len c.cap _ H.cur (by omega) (by omega)).mono ?_
  rintro e W3 ⟨x, rfl, hc, hg⟩
  replace P2 := P2.turn hg hb2'
  replace H := H.draw hc hg
  clear hc hg
  cases x
  · go_wp2_with fail
    refine (size4_any a len cap W3 hlen).mono ?_
    rintro e Z ⟨n, hn2, hn4, rfl, rfl⟩
    go_wp2_with fail
    refine (below_any n c.B c.C c.a c.len c.cap _ H.cur (by omega) (by omega)).mono ?_
    rintro e W4 ⟨x, hx0, hx1, rfl, hc, hg⟩
    replace P2 := P2.turn hg hb2'
    replace H := H.draw hc hg
    clear hc hg
    obtain ⟨d, rfl⟩ : ∃ d : Nat, x = (d : Int) := Int.eq_ofNat_of_zero_le hx0
    have hd : d ≤ 3 := by omega
    clear hx0 hx1 hn2 hn4
    have hWe := We_le d hd
    go_wp2_with fail
    refine (expr_all d (by omega) (c.C + 1) c _ _ H.here).mono ?_
    rintro e W5 ⟨τ', ys, rfl, hy, K⟩
    replace P2 := P2.turn K.grown hb2'
    replace H := H.call K
    clear K
    obtain ⟨e0, e1, e2, e3, e4, e5, e6, e7, a8, n8, p8, a9, n9, p9, rfl⟩ := hy.tenS
    have st1 := stE_new (w := W5) (ys := [.int .i64 e0, .int .i64 e1, .bool e2, .int .i64 e3, .int .i64 e4, .string e5, .string e6, .string e7, .slice a8 n8 p8, .slice a9 n9 p9]) rfl rfl
    have R4 := Bx.new H 56 #[.int .i64 e0, .int .i64 e1, .bool e2, .int .i64 e3, .int .i64 e4, .string e5, .string e6, .string e7, .slice a8 n8 p8, .slice a9 n9 p9]
    replace P2 := P2.alloc (.cells #[.int .i64 e0, .int .i64 e1, .bool e2, .int .i64 e3, .int .i64 e4, .string e5, .string e6, .string e7, .slice a8 n8 p8, .slice a9 n9 p9] 56)
    replace H := H.alloc (.cells #[.int .i64 e0, .int .i64 e1, .bool e2, .int .i64 e3, .int .i64 e4, .string e5, .string e6, .string e7, .slice a8 n8 p8, .slice a9 n9 p9] 56)
    go_wp2_with fail
    clear st1
    generalize W5.alloc (.cells #[.int .i64 e0, .int .i64 e1, .bool e2, .int .i64 e3, .int .i64 e4, .string e5, .string e6, .string e7, .slice a8 n8 p8, .slice a9 n9 p9] 56) = W6 at P2 R4 H ⊢
    have hb4 := R4.hi
    generalize W5.heap.size = b4 at R4 hb4 ⊢
    refine (once_any 4 c.B c.C c.a c.len c.cap _ H.cur (by omega) (by omega)).mono ?_
    rintro e W7 ⟨x, rfl, hc, hg⟩
    replace P2 := P2.turn hg hb2'
    replace R4 := R4.drawC H hg
    replace H := H.draw hc hg
    clear hc hg
    have ld := ldE_row (ys := [.int .i64 e0, .int .i64 e1, .bool e2, .int .i64 e3, .int .i64 e4, .string e5, .string e6, .string e7, .slice a8 n8 p8, .slice a9 n9 p9]) R4.row rfl
    cases x
    · have st := stE_row (ys := [.int .i64 e0, .int .i64 e1, .bool e2, .int .i64 e3, .int .i64 e4, .string e5, .string e6, .string e7, .slice a8 n8 p8, .slice a9 n9 p9]) P2 rfl rfl rfl
      have hb := P2.setRow [.int .i64 e0, .int .i64 e1, .bool e2, .int .i64 e3, .int .i64 e4, .string e5, .string e6, .string e7, .slice a8 n8 p8, .slice a9 n9 p9].toArray
      have hgs := setRow_grown W7 W.heap.size [.int .i64 e0, .int .i64 e1, .bool e2, .int .i64 e3, .int .i64 e4, .string e5, .string e6, .string e7, .slice a8 n8 p8, .slice a9 n9 p9].toArray
      have HF : TreeD W (.returned (.agg #[.int .i64 e0, .int .i64 e1, .bool e2, .int .i64 e3, .int .i64 e4, .string e5, .string e6, .string e7, .slice a8 n8 p8, .slice a9 n9 p9])) (W7.setRow W.heap.size [.int .i64 e0, .int .i64 e1, .bool e2, .int .i64 e3, .int .i64 e4, .string e5, .string e6, .string e7, .slice a8 n8 p8, .slice a9 n9 p9].toArray) :=
        ⟨c.C + 1, τ', _, rfl, hy.le (TLe.refl _) (by omega), H.inv.keep (fun k b hk => hgs.block k (H.inv.lt hk) (fun e => by have := H.inv.low hk; injection e; omega)), by omega, (hrun H.grown).grown hgs (by have := H.size; omega) (fun k e => by injection e with e; subst e; exact Nat.le_refl _)⟩
      go_wp2_with fail
      generalize (W7).setRow W.heap.size [.int .i64 e0, .int .i64 e1, .bool e2, .int .i64 e3, .int .i64 e4, .string e5, .string e6, .string e7, .slice a8 n8 p8, .slice a9 n9 p9].toArray = wf at hb HF ⊢
      have f0 := hb.cell (i := 0) (v := .int .i64 e0) rfl
      have f1 := hb.cell (i := 1) (v := .int .i64 e1) rfl
      have f2 := hb.cell (i := 2) (v := .bool e2) rfl
      have f3 := hb.cell (i := 3) (v := .int .i64 e3) rfl
      have f4 := hb.cell (i := 4) (v := .int .i64 e4) rfl
      have f5 := hb.cell (i := 5) (v := .string e5) rfl
      have f6 := hb.cell (i := 6) (v := .string e6) rfl
      have f7 := hb.cell (i := 7) (v := .string e7) rfl
      have f8 := hb.cell (i := 8) (v := .slice a8 n8 p8) rfl
      have f9 := hb.cell (i := 9) (v := .slice a9 n9 p9) rfl
      refine bodyPost_ret (v := .agg #[.int .i64 e0, .int .i64 e1, .bool e2, .int .i64 e3, .int .i64 e4, .string e5, .string e6, .string e7, .slice a8 n8 p8, .slice a9 n9 p9]) (by simp [results, Try.results126, go_sem, f0, f1, f2, f3, f4, f5, f6, f7, f8, f9]) rfl ?_
      exact HF
    · have hlt2 : W.heap.size < W7.heap.size := P2.lt
      go_wp2_with fail
      refine (bent_all (2 * We d) (by omega) (c.C + 1) c (dbl τ') W7 [.int .i64 e0, .int .i64 e1, .bool e2, .int .i64 e3, .int .i64 e4, .string e5, .string e6, .string e7, .slice a8 n8 p8, .slice a9 n9 p9] H.inv.dbl H.cur H.lo (Nat.le_trans H.hi H.size) hy.slack).mono ?_
      rintro e W8 ⟨τ1, τ2, zs, rfl, hBu, hT, hz, hI, hcur, hK⟩
      replace P2 : RowAt W8 W.heap.size 56 _ := (hK.blk W.heap.size hlt2 (dbl_none (H.inv.under (by omega))) (by omega)).trans P2
      have P4 : RowAt W8 b4 56 _ := (hK.blk b4 R4.row.lt (dbl_none R4.free) (by omega)).trans R4.row
      have hf4 := hK.free b4 R4.row.lt (dbl_none R4.free)
      obtain ⟨z0, z1, z2, z3, z4, z5, z6, z7, za8, zn8, zp8, za9, zn9, zp9, rfl⟩ := hz.tenS
      have st4 := stE_row (ys := [.int .i64 z0, .int .i64 z1, .bool z2, .int .i64 z3, .int .i64 z4, .string z5, .string z6, .string z7, .slice za8 zn8 zp8, .slice za9 zn9 zp9]) P4 rfl rfl rfl
      have hg4 := setRow_grown W8 b4 [.int .i64 z0, .int .i64 z1, .bool z2, .int .i64 z3, .int .i64 z4, .string z5, .string z6, .string z7, .slice za8 zn8 zp8, .slice za9 zn9 zp9].toArray
      have hne : W.heap.size ≠ b4 := by omega
      replace P2 : RowAt (W8.setRow b4 [.int .i64 z0, .int .i64 z1, .bool z2, .int .i64 z3, .int .i64 z4, .string z5, .string z6, .string z7, .slice za8 zn8 zp8, .slice za9 zn9 zp9].toArray) W.heap.size 56 _ := (setRow_other W8 b4 W.heap.size _ hne).trans P2
      replace P4 := P4.setRow [.int .i64 z0, .int .i64 z1, .bool z2, .int .i64 z3, .int .i64 z4, .string z5, .string z6, .string z7, .slice za8 zn8 zp8, .slice za9 zn9 zp9].toArray
      have hI9 : Inv (c.C + 1) τ2 1000 (W8.setRow b4 [.int .i64 z0, .int .i64 z1, .bool z2, .int .i64 z3, .int .i64 z4, .string z5, .string z6, .string z7, .slice za8 zn8 zp8, .slice za9 zn9 zp9].toArray) := hI.keep (fun k b hk => hg4.block k (hI.lt hk) (fun e => by injection e with e; subst e; rw [hf4] at hk; cases hk))
      have hB7 := hrun H.grown
      have hB8 : Below W.heap.size W W8 := ⟨hK.os.trans hB7.os, hK.tape.trans hB7.tape, hK.output.trans hB7.output, Nat.le_trans hB7.size hK.size, fun k hk => (hK.blk k (by omega) (dbl_none (H.inv.under (by omega))) (by omega)).trans (hB7.block k hk)⟩
      have hB9 := hB8.grown hg4 (by have := hK.size; omega) (fun k e => by injection e with e; omega)
      have hs9 : W.heap.size ≤ (W8.setRow b4 [.int .i64 z0, .int .i64 z1, .bool z2, .int .i64 z3, .int .i64 z4, .string z5, .string z6, .string z7, .slice za8 zn8 zp8, .slice za9 zn9 zp9].toArray).heap.size := by have := hK.size; have := hg4.size; omega
      clear ld hK hI hB8 hg4
      have ld9 := ldE_row (ys := [.int .i64 z0, .int .i64 z1, .bool z2, .int .i64 z3, .int .i64 z4, .string z5, .string z6, .string z7, .slice za8 zn8 zp8, .slice za9 zn9 zp9]) P4 rfl
      have st := stE_row (ys := [.int .i64 z0, .int .i64 z1, .bool z2, .int .i64 z3, .int .i64 z4, .string z5, .string z6, .string z7, .slice za8 zn8 zp8, .slice za9 zn9 zp9]) P2 rfl rfl rfl
      have hb := P2.setRow [.int .i64 z0, .int .i64 z1, .bool z2, .int .i64 z3, .int .i64 z4, .string z5, .string z6, .string z7, .slice za8 zn8 zp8, .slice za9 zn9 zp9].toArray
      have hgs := setRow_grown (W8.setRow b4 [.int .i64 z0, .int .i64 z1, .bool z2, .int .i64 z3, .int .i64 z4, .string z5, .string z6, .string z7, .slice za8 zn8 zp8, .slice za9 zn9 zp9].toArray) W.heap.size [.int .i64 z0, .int .i64 z1, .bool z2, .int .i64 z3, .int .i64 z4, .string z5, .string z6, .string z7, .slice za8 zn8 zp8, .slice za9 zn9 zp9].toArray
      have HF : TreeD W (.returned (.agg #[.int .i64 z0, .int .i64 z1, .bool z2, .int .i64 z3, .int .i64 z4, .string z5, .string z6, .string z7, .slice za8 zn8 zp8, .slice za9 zn9 zp9])) ((W8.setRow b4 [.int .i64 z0, .int .i64 z1, .bool z2, .int .i64 z3, .int .i64 z4, .string z5, .string z6, .string z7, .slice za8 zn8 zp8, .slice za9 zn9 zp9].toArray).setRow W.heap.size [.int .i64 z0, .int .i64 z1, .bool z2, .int .i64 z3, .int .i64 z4, .string z5, .string z6, .string z7, .slice za8 zn8 zp8, .slice za9 zn9 zp9].toArray) :=
        ⟨c.C + 1, τ2, _, rfl, hz.le (TLe.refl _) (by omega), hI9.keep (fun k b hk => hgs.block k (hI9.lt hk) (fun e => by have := hI9.low hk; injection e; omega)), by omega, hB9.grown hgs hs9 (fun k e => by injection e with e; subst e; exact Nat.le_refl _)⟩
      go_wp2_with fail
      generalize (W8.setRow b4 [.int .i64 z0, .int .i64 z1, .bool z2, .int .i64 z3, .int .i64 z4, .string z5, .string z6, .string z7, .slice za8 zn8 zp8, .slice za9 zn9 zp9].toArray).setRow W.heap.size [.int .i64 z0, .int .i64 z1, .bool z2, .int .i64 z3, .int .i64 z4, .string z5, .string z6, .string z7, .slice za8 zn8 zp8, .slice za9 zn9 zp9].toArray = wf at hb HF ⊢
      have f0 := hb.cell (i := 0) (v := .int .i64 z0) rfl
      have f1 := hb.cell (i := 1) (v := .int .i64 z1) rfl
      have f2 := hb.cell (i := 2) (v := .bool z2) rfl
      have f3 := hb.cell (i := 3) (v := .int .i64 z3) rfl
      have f4 := hb.cell (i := 4) (v := .int .i64 z4) rfl
      have f5 := hb.cell (i := 5) (v := .string z5) rfl
      have f6 := hb.cell (i := 6) (v := .string z6) rfl
      have f7 := hb.cell (i := 7) (v := .string z7) rfl
      have f8 := hb.cell (i := 8) (v := .slice za8 zn8 zp8) rfl
      have f9 := hb.cell (i := 9) (v := .slice za9 zn9 zp9) rfl
      refine bodyPost_ret (v := .agg #[.int .i64 z0, .int .i64 z1, .bool z2, .int .i64 z3, .int .i64 z4, .string z5, .string z6, .string z7, .slice za8 zn8 zp8, .slice za9 zn9 zp9]) (by simp [results, Try.results126, go_sem, f0, f1, f2, f3, f4, f5, f6, f7, f8, f9]) rfl ?_
      exact HF
  · go_wp2_with fail
    refine (deep_any (c.C + 1) c tau0 _ H.here).mono ?_
    rintro e W4 ⟨τ', ys, rfl, hy, K⟩
    replace P2 := P2.turn K.grown hb2'
    replace H := H.call K
    obtain ⟨e0, e1, e2, e3, e4, e5, e6, e7, a8, n8, p8, a9, n9, p9, rfl⟩ := hy.tenS
    have st := stE_row (ys := [.int .i64 e0, .int .i64 e1, .bool e2, .int .i64 e3, .int .i64 e4, .string e5, .string e6, .string e7, .slice a8 n8 p8, .slice a9 n9 p9]) P2 rfl rfl rfl
    have hb := P2.setRow [.int .i64 e0, .int .i64 e1, .bool e2, .int .i64 e3, .int .i64 e4, .string e5, .string e6, .string e7, .slice a8 n8 p8, .slice a9 n9 p9].toArray
    have hgs := setRow_grown W4 W.heap.size [.int .i64 e0, .int .i64 e1, .bool e2, .int .i64 e3, .int .i64 e4, .string e5, .string e6, .string e7, .slice a8 n8 p8, .slice a9 n9 p9].toArray
    have HF : TreeD W (.returned (.agg #[.int .i64 e0, .int .i64 e1, .bool e2, .int .i64 e3, .int .i64 e4, .string e5, .string e6, .string e7, .slice a8 n8 p8, .slice a9 n9 p9])) (W4.setRow W.heap.size [.int .i64 e0, .int .i64 e1, .bool e2, .int .i64 e3, .int .i64 e4, .string e5, .string e6, .string e7, .slice a8 n8 p8, .slice a9 n9 p9].toArray) :=
      ⟨c.C + 1, τ', _, rfl, hy.le (TLe.refl _) (by omega), H.inv.keep (fun k b hk => hgs.block k (H.inv.lt hk) (fun e => by have := H.inv.low hk; injection e; omega)), by omega, (hrun H.grown).grown hgs (by have := H.size; omega) (fun k e => by injection e with e; subst e; exact Nat.le_refl _)⟩
    go_wp2_with fail
    generalize W4.setRow W.heap.size [.int .i64 e0, .int .i64 e1, .bool e2, .int .i64 e3, .int .i64 e4, .string e5, .string e6, .string e7, .slice a8 n8 p8, .slice a9 n9 p9].toArray = wf at hb HF ⊢
    have f0 := hb.cell (i := 0) (v := .int .i64 e0) rfl
    have f1 := hb.cell (i := 1) (v := .int .i64 e1) rfl
    have f2 := hb.cell (i := 2) (v := .bool e2) rfl
    have f3 := hb.cell (i := 3) (v := .int .i64 e3) rfl
    have f4 := hb.cell (i := 4) (v := .int .i64 e4) rfl
    have f5 := hb.cell (i := 5) (v := .string e5) rfl
    have f6 := hb.cell (i := 6) (v := .string e6) rfl
    have f7 := hb.cell (i := 7) (v := .string e7) rfl
    have f8 := hb.cell (i := 8) (v := .slice a8 n8 p8) rfl
    have f9 := hb.cell (i := 9) (v := .slice a9 n9 p9) rfl
    refine bodyPost_ret (v := .agg #[.int .i64 e0, .int .i64 e1, .bool e2, .int .i64 e3, .int .i64 e4, .string e5, .string e6, .string e7, .slice a8 n8 p8, .slice a9 n9 p9]) (by simp [results, Try.results126, go_sem, f0, f1, f2, f3, f4, f5, f6, f7, f8, f9]) rfl ?_
    exact HF
end Go.Proofs.Ytfmgkinindkedaa

/- Drawing a tree and a place. -/
namespace Go.Proofs.Ytfmgkinindkedaa
open Go.RowKit
attribute [local go_sem ↓] execOp_stE

def ArgD (W : World) (e : Ending) (W' : World) : Prop :=
  ∃ (L : Nat) (τ : Tau) (ys : List Value) (k : Int), e = .returned (.tuple #[.agg ys.toArray, .int .i64 k]) ∧ GoodRow τ 1000 .exprs ys 106 ∧ Inv L τ 1000 W' ∧ W.heap.size ≤ L ∧ (-9223372036854775808 ≤ k ∧ k ≤ 9223372036854775807) ∧ Below W.heap.size W W'
set_option maxRecDepth 100000 in
set_option maxHeartbeats 8000000 in
theorem args9_any (a : Option Addr) (len cap : Nat) (W : World) (hrow : RowB W.heap.size a len W) :
    Calls Try.prog 83 #[.slice a len cap] W (ArgD W) := by
  have P2 := RowAt.new W 56 #[.int .i64 0, .int .i64 0, .bool false, .int .i64 0, .int .i64 0, .string ⟨#[]⟩, .string ⟨#[]⟩, .string ⟨#[]⟩, .slice none 0 0, .slice none 0 0]
  have hbel : Below W.heap.size W (W.alloc (.cells #[.int .i64 0, .int .i64 0, .bool false, .int .i64 0, .int .i64 0, .string ⟨#[]⟩, .string ⟨#[]⟩, .string ⟨#[]⟩, .slice none 0 0, .slice none 0 0] 56)) := (Below.refl _ _).alloc (Nat.le_refl _) _
  have hsz : (W.alloc (.cells #[.int .i64 0, .int .i64 0, .bool false, .int .i64 0, .int .i64 0, .string ⟨#[]⟩, .string ⟨#[]⟩, .string ⟨#[]⟩, .slice none 0 0, .slice none 0 0] 56)).heap.size = W.heap.size + 1 := by simp
  go_enter Try.func83, Try.ntmps83
  go_wp2_with fail
  generalize W.alloc (.cells #[.int .i64 0, .int .i64 0, .bool false, .int .i64 0, .int .i64 0, .string ⟨#[]⟩, .string ⟨#[]⟩, .string ⟨#[]⟩, .slice none 0 0, .slice none 0 0] 56) = W1 at P2 hbel hsz ⊢
  have hs1 : W.heap.size < W1.heap.size := by omega
  clear hsz
  refine (tree_any a len cap W1 ((hrow.later hbel).wid (by omega))).mono ?_
  rintro e W2 ⟨L, τ, ys, rfl, hy, hI, hL, hb⟩
  replace P2 := P2.later hb
  replace hbel := hbel.trans (hb.mono (by omega))
  have hs2 := hb.size
  clear hb
  obtain ⟨e0, e1, e2, e3, e4, e5, e6, e7, a8, n8, p8, a9, n9, p9, rfl⟩ := hy.tenS
  have st1 := stE_new (w := W2) (ys := [.int .i64 e0, .int .i64 e1, .bool e2, .int .i64 e3, .int .i64 e4, .string e5, .string e6, .string e7, .slice a8 n8 p8, .slice a9 n9 p9]) rfl rfl
  have P4 := RowAt.new W2 56 #[.int .i64 e0, .int .i64 e1, .bool e2, .int .i64 e3, .int .i64 e4, .string e5, .string e6, .string e7, .slice a8 n8 p8, .slice a9 n9 p9]
  have hb3 := (Below.refl W2.heap.size W2).alloc (Nat.le_refl _) (.cells #[.int .i64 e0, .int .i64 e1, .bool e2, .int .i64 e3, .int .i64 e4, .string e5, .string e6, .string e7, .slice a8 n8 p8, .slice a9 n9 p9] 56)
  replace P2 := P2.alloc (.cells #[.int .i64 e0, .int .i64 e1, .bool e2, .int .i64 e3, .int .i64 e4, .string e5, .string e6, .string e7, .slice a8 n8 p8, .slice a9 n9 p9] 56)
  replace hI := hI.later hb3
  replace hbel := hbel.trans (hb3.mono (by omega))
  go_wp2_with fail
  clear st1 hb3
  generalize W2.alloc (.cells #[.int .i64 e0, .int .i64 e1, .bool e2, .int .i64 e3, .int .i64 e4, .string e5, .string e6, .string e7, .slice a8 n8 p8, .slice a9 n9 p9] 56) = W3 at P2 P4 hI hbel ⊢
  have hs4 := P4.lt
  generalize W2.heap.size = b4 at P4 hs2 hs4 ⊢
  refine (new_any W3.heap.size a len cap _ ((hrow.later hbel).wid (by omega)) (Nat.le_refl _)).mono ?_
  rintro e W4 ⟨rfl, hc, hb⟩
  have hC := hc.lt
  have hlo : ∀ k b, τ k = some b → k < W3.heap.size := fun k b hk => hI.lt hk
  replace P2 := P2.later hb
  replace P4 := P4.later hb
  replace hI := hI.later hb
  replace hbel := hbel.trans (hb.mono (by omega))
  clear hb hrow
  obtain ⟨C, hCe⟩ : ∃ C, C = W3.heap.size := ⟨_, rfl⟩
  obtain ⟨B, hBe⟩ : ∃ B, B = W3.heap.size := ⟨_, rfl⟩
  rw [← hCe] at hC hs4 hlo ⊢
  replace hc : Cur B C a len cap W4 := by rw [hCe, hBe]; exact hc
  clear hCe hBe
  have h0 : W4.grownBy (W4.alloc (.cells #[.int .i64 0, .int .i64 0, .int .i64 1, .int .i64 1, .int .i64 2, .int .i64 3, .int .i64 (-1), .int .i64 9223372036854775807, .int .i64 (-9223372036854775808)] 3)).drew (some C) := ⟨rfl, rfl, rfl, by simp, fun k hk _ => Below.heap_alloc _ _ _ hk⟩
  have hcd : Cur B C a len cap (W4.alloc (.cells #[.int .i64 0, .int .i64 0, .int .i64 1, .int .i64 1, .int .i64 2, .int .i64 3, .int .i64 (-1), .int .i64 9223372036854775807, .int .i64 (-9223372036854775808)] 3)).drew := hc.alloc _
  have hpick := pickInt_any W4.heap.size 9 (-9223372036854775808) 9223372036854775807 B C a len cap (W4.alloc (.cells #[.int .i64 0, .int .i64 0, .int .i64 1, .int .i64 1, .int .i64 2, .int .i64 3, .int .i64 (-1), .int .i64 9223372036854775807, .int .i64 (-9223372036854775808)] 3)).drew hcd (by omega) (by omega) (by simp) (by omega) (fun i hi => by
    have hrow : RowAt (W4.alloc (.cells #[.int .i64 0, .int .i64 0, .int .i64 1, .int .i64 1, .int .i64 2, .int .i64 3, .int .i64 (-1), .int .i64 9223372036854775807, .int .i64 (-9223372036854775808)] 3)).drew W4.heap.size 3 #[.int .i64 0, .int .i64 0, .int .i64 1, .int .i64 1, .int .i64 2, .int .i64 3, .int .i64 (-1), .int .i64 9223372036854775807, .int .i64 (-9223372036854775808)] := RowAt.new W4 _ _
    rcases (show i = 0 ∨ i = 1 ∨ i = 2 ∨ i = 3 ∨ i = 4 ∨ i = 5 ∨ i = 6 ∨ i = 7 ∨ i = 8 by omega) with rfl | rfl | rfl | rfl | rfl | rfl | rfl | rfl | rfl <;> exact ⟨_, by decide, by decide, hrow.cell rfl⟩)
  have hb4w : b4 < W4.heap.size := P4.lt
  have x0 := P4.cell (i := 0) (v := .int .i64 e0) rfl
  have x1 := P4.cell (i := 1) (v := .int .i64 e1) rfl
  have x2 := P4.cell (i := 2) (v := .bool e2) rfl
  have x3 := P4.cell (i := 3) (v := .int .i64 e3) rfl
  have x4 := P4.cell (i := 4) (v := .int .i64 e4) rfl
  have x5 := P4.cell (i := 5) (v := .string e5) rfl
  have x6 := P4.cell (i := 6) (v := .string e6) rfl
  have x7 := P4.cell (i := 7) (v := .string e7) rfl
  have x8 := P4.cell (i := 8) (v := .slice a8 n8 p8) rfl
  have x9 := P4.cell (i := 9) (v := .slice a9 n9 p9) rfl
  go_wp2_with fail
  go_region_law (go_simp; go_at_call 128; refine hpick.mono ?_; clear hpick; rintro e W5 ⟨k, hk0, hk1, rfl, hc5, hg⟩; have hg5 := grown_tr h0 hg; have P2e := P2.turn hg5 (by intro e; injection e; omega); have P4e := P4.turn hg5 (by intro e; injection e; omega); have st := stE_row (ys := [.int .i64 e0, .int .i64 e1, .bool e2, .int .i64 e3, .int .i64 e4, .string e5, .string e6, .string e7, .slice a8 n8 p8, .slice a9 n9 p9]) P2e rfl rfl rfl; have y0 := P4e.cell (i := 0) (v := .int .i64 e0) rfl; have y1 := P4e.cell (i := 1) (v := .int .i64 e1) rfl; have y2 := P4e.cell (i := 2) (v := .bool e2) rfl; have y3 := P4e.cell (i := 3) (v := .int .i64 e3) rfl; have y4 := P4e.cell (i := 4) (v := .int .i64 e4) rfl; have y5 := P4e.cell (i := 5) (v := .string e5) rfl; have y6 := P4e.cell (i := 6) (v := .string e6) rfl; have y7 := P4e.cell (i := 7) (v := .string e7) rfl; have y8 := P4e.cell (i := 8) (v := .slice a8 n8 p8) rfl; have y9 := P4e.cell (i := 9) (v := .slice a9 n9 p9) rfl; go_simp)
  all_goals
    have hb := P2e.setRow [.int .i64 e0, .int .i64 e1, .bool e2, .int .i64 e3, .int .i64 e4, .string e5, .string e6, .string e7, .slice a8 n8 p8, .slice a9 n9 p9].toArray
    have hgs := setRow_grown W5 W.heap.size [.int .i64 e0, .int .i64 e1, .bool e2, .int .i64 e3, .int .i64 e4, .string e5, .string e6, .string e7, .slice a8 n8 p8, .slice a9 n9 p9].toArray
    have hI5 : Inv L τ 1000 W5 := hI.keep fun k b hk => hg5.block k (by have := hlo k b hk; omega) (fun e => by have := hlo k b hk; injection e; omega)
    have hb5 := hbel.grown hg5 (by omega) (fun k e => by injection e; omega)
    have HF : ArgD W (.returned (.tuple #[.agg #[.int .i64 e0, .int .i64 e1, .bool e2, .int .i64 e3, .int .i64 e4, .string e5, .string e6, .string e7, .slice a8 n8 p8, .slice a9 n9 p9], .int .i64 k])) (W5.setRow W.heap.size [.int .i64 e0, .int .i64 e1, .bool e2, .int .i64 e3, .int .i64 e4, .string e5, .string e6, .string e7, .slice a8 n8 p8, .slice a9 n9 p9].toArray) :=
      ⟨L, τ, _, k, rfl, hy, hI5.keep (fun k b hk => hgs.block k (hI5.lt hk) (fun e => by have := hI5.low hk; injection e; omega)), by omega, ⟨hk0, hk1⟩, hb5.grown hgs (by have := hg5.size; omega) (fun k e => by injection e with e; subst e; exact Nat.le_refl _)⟩
    go_wp2_with fail
    generalize W5.setRow W.heap.size [.int .i64 e0, .int .i64 e1, .bool e2, .int .i64 e3, .int .i64 e4, .string e5, .string e6, .string e7, .slice a8 n8 p8, .slice a9 n9 p9].toArray = wf at hb HF ⊢
    have f0 := hb.cell (i := 0) (v := .int .i64 e0) rfl
    have f1 := hb.cell (i := 1) (v := .int .i64 e1) rfl
    have f2 := hb.cell (i := 2) (v := .bool e2) rfl
    have f3 := hb.cell (i := 3) (v := .int .i64 e3) rfl
    have f4 := hb.cell (i := 4) (v := .int .i64 e4) rfl
    have f5 := hb.cell (i := 5) (v := .string e5) rfl
    have f6 := hb.cell (i := 6) (v := .string e6) rfl
    have f7 := hb.cell (i := 7) (v := .string e7) rfl
    have f8 := hb.cell (i := 8) (v := .slice a8 n8 p8) rfl
    have f9 := hb.cell (i := 9) (v := .slice a9 n9 p9) rfl
    refine bodyPost_ret (v := .tuple #[.agg #[.int .i64 e0, .int .i64 e1, .bool e2, .int .i64 e3, .int .i64 e4, .string e5, .string e6, .string e7, .slice a8 n8 p8, .slice a9 n9 p9], .int .i64 k]) (by simp [results, Try.results83, go_sem, f0, f1, f2, f3, f4, f5, f6, f7, f8, f9]) rfl ?_
    exact HF
set_option maxRecDepth 100000 in
set_option maxHeartbeats 4000000 in
theorem drawNeeds_any (a : Option Addr) (len cap : Nat) (W : World) (hrow : RowB W.heap.size a len W) :
    Calls Try.prog 35 #[.slice a len cap] W (ArgD W) := by
  have P2 := RowAt.new W 56 #[.int .i64 0, .int .i64 0, .bool false, .int .i64 0, .int .i64 0, .string ⟨#[]⟩, .string ⟨#[]⟩, .string ⟨#[]⟩, .slice none 0 0, .slice none 0 0]
  have hbel : Below W.heap.size W (W.alloc (.cells #[.int .i64 0, .int .i64 0, .bool false, .int .i64 0, .int .i64 0, .string ⟨#[]⟩, .string ⟨#[]⟩, .string ⟨#[]⟩, .slice none 0 0, .slice none 0 0] 56)) := (Below.refl _ _).alloc (Nat.le_refl _) _
  have hsz : (W.alloc (.cells #[.int .i64 0, .int .i64 0, .bool false, .int .i64 0, .int .i64 0, .string ⟨#[]⟩, .string ⟨#[]⟩, .string ⟨#[]⟩, .slice none 0 0, .slice none 0 0] 56)).heap.size = W.heap.size + 1 := by simp
  go_enter Try.func35, Try.ntmps35
  go_wp2_with fail
  generalize W.alloc (.cells #[.int .i64 0, .int .i64 0, .bool false, .int .i64 0, .int .i64 0, .string ⟨#[]⟩, .string ⟨#[]⟩, .string ⟨#[]⟩, .slice none 0 0, .slice none 0 0] 56) = W1 at P2 hbel hsz ⊢
  have hs1 : W.heap.size < W1.heap.size := by omega
  clear hsz
  refine (args9_any a len cap W1 ((hrow.later hbel).wid (by omega))).mono ?_
  rintro e W2 ⟨L, τ, ys, k, rfl, hy, hI, hL, hk, hb⟩
  replace P2 := P2.later hb
  replace hbel := hbel.trans (hb.mono (by omega))
  have hs2 := hb.size
  clear hb
  obtain ⟨e0, e1, e2, e3, e4, e5, e6, e7, a8, n8, p8, a9, n9, p9, rfl⟩ := hy.tenS
  have st := stE_row (ys := [.int .i64 e0, .int .i64 e1, .bool e2, .int .i64 e3, .int .i64 e4, .string e5, .string e6, .string e7, .slice a8 n8 p8, .slice a9 n9 p9]) P2 rfl rfl rfl
  have hb := P2.setRow [.int .i64 e0, .int .i64 e1, .bool e2, .int .i64 e3, .int .i64 e4, .string e5, .string e6, .string e7, .slice a8 n8 p8, .slice a9 n9 p9].toArray
  have hgs := setRow_grown W2 W.heap.size [.int .i64 e0, .int .i64 e1, .bool e2, .int .i64 e3, .int .i64 e4, .string e5, .string e6, .string e7, .slice a8 n8 p8, .slice a9 n9 p9].toArray
  have HF : ArgD W (.returned (.tuple #[.agg #[.int .i64 e0, .int .i64 e1, .bool e2, .int .i64 e3, .int .i64 e4, .string e5, .string e6, .string e7, .slice a8 n8 p8, .slice a9 n9 p9], .int .i64 k])) (W2.setRow W.heap.size [.int .i64 e0, .int .i64 e1, .bool e2, .int .i64 e3, .int .i64 e4, .string e5, .string e6, .string e7, .slice a8 n8 p8, .slice a9 n9 p9].toArray) :=
    ⟨L, τ, _, k, rfl, hy, hI.keep (fun k b hk => hgs.block k (hI.lt hk) (fun e => by have := hI.low hk; injection e; omega)), by omega, hk, hbel.grown hgs (by omega) (fun k e => by injection e with e; subst e; exact Nat.le_refl _)⟩
  go_wp2_with fail
  generalize W2.setRow W.heap.size [.int .i64 e0, .int .i64 e1, .bool e2, .int .i64 e3, .int .i64 e4, .string e5, .string e6, .string e7, .slice a8 n8 p8, .slice a9 n9 p9].toArray = wf at hb HF ⊢
  have f0 := hb.cell (i := 0) (v := .int .i64 e0) rfl
  have f1 := hb.cell (i := 1) (v := .int .i64 e1) rfl
  have f2 := hb.cell (i := 2) (v := .bool e2) rfl
  have f3 := hb.cell (i := 3) (v := .int .i64 e3) rfl
  have f4 := hb.cell (i := 4) (v := .int .i64 e4) rfl
  have f5 := hb.cell (i := 5) (v := .string e5) rfl
  have f6 := hb.cell (i := 6) (v := .string e6) rfl
  have f7 := hb.cell (i := 7) (v := .string e7) rfl
  have f8 := hb.cell (i := 8) (v := .slice a8 n8 p8) rfl
  have f9 := hb.cell (i := 9) (v := .slice a9 n9 p9) rfl
  refine bodyPost_ret (v := .tuple #[.agg #[.int .i64 e0, .int .i64 e1, .bool e2, .int .i64 e3, .int .i64 e4, .string e5, .string e6, .string e7, .slice a8 n8 p8, .slice a9 n9 p9], .int .i64 k]) (by simp [results, Try.results35, go_sem, f0, f1, f2, f3, f4, f5, f6, f7, f8, f9]) rfl ?_
  exact HF
end Go.Proofs.Ytfmgkinindkedaa

/- What a drawn tree reads as. -/
namespace Go.Proofs.Ytfmgkinindkedaa
open Go.RowKit

theorem tree_out {L : Nat} {τ : Tau} {W : World} {ys : List Value} {N : Nat} (H : Inv L τ 1000 W) (hy : GoodRow τ 1000 .exprs ys N) :
    ∃ c : Nd, OutK exprTy W ys [c] ∧ msr (c 8) + msr (c 9) ≤ 5001 * N ∧ (∀ j, msr (c j) ≤ 5001 * N) := by
  have key : ∀ j, ∃ d, (10 ≤ j → d = .v undef) ∧ ∀ hj : j < exprTy.length, ∃ y, ys[j]? = some y ∧ Rd W 0 y d ∧ Fits d (exprTy[j]) ∧ msr d ≤ 5001 * slw τ y + strB 1000 (exprTy[j]) := fun j => by
    by_cases hj : j < exprTy.length
    · obtain ⟨y, hy1, hg⟩ := hy.cell j hj
      obtain ⟨d, h1, h2, h3⟩ := good_reads H (by omega) (slw τ y) _ y hg (Nat.le_refl _)
      exact ⟨d, fun h => absurd hj (by simp [exprTy]; omega), fun _ => ⟨y, hy1, h1, h2, h3⟩⟩
    · exact ⟨.v undef, fun _ => rfl, fun h => absurd h hj⟩
  let c : Nd := fun j => Classical.choose (key j)
  have hc : ∀ j (hj : j < exprTy.length), ∃ y, ys[j]? = some y ∧ Rd W 0 y (c j) ∧ Fits (c j) (exprTy[j]) ∧ msr (c j) ≤ 5001 * slw τ y + strB 1000 (exprTy[j]) := fun j hj => (Classical.choose_spec (key j)).2 hj
  have hbig : ∀ j, 10 ≤ j → c j = .v undef := fun j hj => (Classical.choose_spec (key j)).1 hj
  have hs := hy.sum
  refine ⟨c, OutK.one hy.len fun j hj => ?_, ?_, fun j => ?_⟩
  · obtain ⟨y, h1, h2, h3, _⟩ := hc j hj
    exact ⟨y, h1, h2, h3⟩
  · obtain ⟨y8, h8, -, -, m8⟩ := hc 8 (by decide)
    obtain ⟨y9, h9, -, -, m9⟩ := hc 9 (by decide)
    obtain ⟨c0, c1, c2, c3, c4, c5, c6, c7, x8, x9, rfl, -, -, -, -, -, -, -, -, -, hs2⟩ := hy.ten
    obtain rfl : x8 = y8 := by simpa using h8
    obtain rfl : x9 = y9 := by simpa using h9
    replace m8 : msr (c 8) ≤ 5001 * slw τ x8 + 0 := m8
    replace m9 : msr (c 9) ≤ 5001 * slw τ x9 + 0 := m9
    omega
  · by_cases hj : j < exprTy.length
    · obtain ⟨y, h1, -, -, m⟩ := hc j hj
      have hw := hy.cellW h1
      have hb : strB 1000 (exprTy[j]) ≤ 1000 := by unfold strB; split <;> omega
      omega
    · rw [hbig j (by simp [exprTy] at hj; omega)]
      exact Nat.zero_le _
end Go.Proofs.Ytfmgkinindkedaa

/- When a tree is right: node by node, and as a whole. No program. -/
namespace Go.Proofs.Ytfmgkinindkedaa
open Go.RowKit

def Dat.num : Dat → Int
  | .v (.int _ n) => n
  | _ => 0
def Dat.txt : Dat → ByteArray
  | .v (.string s) => s
  | _ => ⟨#[]⟩
/-- a value that is one token -/
def litB (k n : Int) (t : ByteArray) : Bool := valOk k n t.data.toList && (decide (0 ≤ n) && decide ((t.size : Int) ≤ 40))
def emptyB (s : ByteArray) : Bool := decide (s.size = 0)
def optB (s : ByteArray) : Bool := emptyB s || okLen s.size
def zeroV (k n : Int) (t : ByteArray) : Bool := (k == 0) && ((n == 0) && emptyB t)
/-- the fields but the names and the parts -/
def headB (k op : Int) (nt : Bool) (vk vn : Int) (vt : ByteArray) : Bool :=
  if k = 1 then (op == 0) && (!nt && litB vk vn vt)
  else if k = 3 then !nt && (zeroV vk vn vt && ((op == 15) || (op == 16)))
  else if k = 4 then !nt && (zeroV vk vn vt && (decide (1 ≤ op) && decide (op ≤ 14)))
  else if k = 5 ∨ k = 6 ∨ k = 7 ∨ k = 8 then (op == 0) && zeroV vk vn vt
  else if k = 2 ∨ k = 9 then (op == 0) && (!nt && zeroV vk vn vt)
  else false
def namesB (k : Int) (q n : ByteArray) : Bool := if k = 2 then okLen n.size && optB q else emptyB q && emptyB n
def takesB (k : Int) (a b : Nat) : Bool :=
  if k = 1 ∨ k = 2 then (a == 0) && (b == 0)
  else if k = 3 ∨ k = 5 then (a == 1) && (b == 0)
  else if k = 4 then (a == 2) && (b == 0)
  else if k = 6 then (a == 3) && (b == 0)
  else if k = 7 then (decide (2 ≤ a) && decide (a ≤ 9)) && (b == 0)
  else if k = 8 then (a == 1) && (b == 1)
  else if k = 9 then (a == 0) && (b == 1)
  else false
def shapeF (k op : Int) (nt : Bool) (vk vn : Int) (vt q n : ByteArray) (a b : Nat) : Bool := headB k op nt vk vn vt && (namesB k q n && takesB k a b)
def shapeB (c : Nat → Dat) : Bool := shapeF (c 0).num (c 1).num (c 2).tru (c 3).num (c 4).num (c 5).txt (c 6).txt (c 7).txt (c 8).len (c 9).len
/-- the expression with nothing in it -/
def zeroNd : Nat → Dat := fun j => match j with
  | 0 => .v (.int .i64 0) | 1 => .v (.int .i64 0) | 2 => .v (.bool false) | 3 => .v (.int .i64 0) | 4 => .v (.int .i64 0) | 5 => .v (.string ⟨#[]⟩) | 6 => .v (.string ⟨#[]⟩) | 7 => .v (.string ⟨#[]⟩)
  | 8 => .sl 0 10 fun _ _ => .v undef
  | _ => .sl 0 6 fun _ _ => .v undef
def itemB (x : Nat → Dat) : Bool :=
  if (x 0).tru then optB (x 1).txt && (emptyB (x 12).txt && sameC exprTy (cut 2 x) zeroNd) else emptyB (x 1).txt && optB (x 12).txt
def sourceB (x : Nat → Dat) : Bool := okLen (x 0).txt.size && (optB (x 1).txt && decide ((x 2).len ≤ 1))
/-- the first source bears no condition -/
def firstB (d : Dat) : Bool := (d.el 0 2).len == 0
def frameB (q : Nat → Dat) : Bool :=
  (decide (1 ≤ (q 1).len) && decide ((q 1).len ≤ 12)) && ((q 1).els.all itemB && ((decide (1 ≤ (q 2).len) && decide ((q 2).len ≤ 3)) && ((q 2).els.all sourceB &&
    (firstB (q 2) && (decide ((q 3).len ≤ 1) && (decide ((q 4).len ≤ 12) && decide (-1 ≤ (q 5).num)))))))
def nodeB (c : Nat → Dat) : Bool := shapeB c && (c 9).els.all frameB
/-- node by node; and query by query -/
def okA : Alg Bool := ⟨and, true, fun c b => nodeB c && b, fun _ b => b⟩
def rightA : Alg Bool := ⟨and, true, fun c b => shapeB c && b, fun q b => frameB q && b⟩
theorem okA_good : okA.Good := ⟨fun a b c => Bool.and_assoc a b c, fun a => Bool.true_and a, fun a => Bool.and_true a⟩
theorem rightA_good : rightA.Good := ⟨fun a b c => Bool.and_assoc a b c, fun a => Bool.true_and a, fun a => Bool.and_true a⟩
theorem okA_of (l : List Bool) : okA.of l = l.all id := by
  induction l with
  | nil => rfl
  | cons a l ih => rw [okA_good.of_cons, ih]; rfl
theorem rightA_of (l : List Bool) : rightA.of l = l.all id := by
  induction l with
  | nil => rfl
  | cons a l ih => rw [rightA_good.of_cons, ih]; rfl
theorem all_and {β : Type} (p q : β → Bool) (l : List β) : (l.all fun x => p x && q x) = (l.all p && l.all q) := by
  induction l with
  | nil => rfl
  | cons a l ih => rw [List.all_cons, List.all_cons, List.all_cons, ih]; cases p a <;> cases q a <;> cases l.all p <;> cases l.all q <;> rfl
/-- the frames of the queries are told at the node above them -/
theorem right_ok : ∀ (d : Dat) (ty : Ty), fold rightA d ty = ((match ty with | .queries => d.els.all frameB | _ => true) && fold okA d ty)
  | .v _, ty => by cases ty <;> rfl
  | .sl n k f, ty => by
    have IH : ∀ i j ty, fold rightA (f i j) ty = ((match ty with | .queries => (f i j).els.all frameB | _ => true) && fold okA (f i j) ty) := fun i j ty => right_ok (f i j) ty
    have HE : ∀ (c : Nat → Dat) i a b, c 9 = f i b → (shapeB c && (fold rightA (f i a) .exprs && fold rightA (f i b) .queries)) = (nodeB c && (fold okA (f i a) .exprs && fold okA (f i b) .queries)) := fun c i a b hc => by
      rw [IH i a .exprs, IH i b .queries]
      unfold nodeB
      rw [hc]
      show (shapeB c && ((true && fold okA (f i a) .exprs) && ((f i b).els.all frameB && fold okA (f i b) .queries))) = _
      cases shapeB c <;> cases (f i b).els.all frameB <;> cases fold okA (f i a) .exprs <;> rfl
    have HL : ∀ g h : Nat → Bool, (∀ i, g i = h i) → rightA.of ((List.range n).map g) = (true && okA.of ((List.range n).map h)) := fun g h e => by
      rw [rightA_of, okA_of, Bool.true_and]
      congr 2
      funext i; exact e i
    cases ty
    case int => rfl
    case bool => rfl
    case str => rfl
    case names => rfl
    case rows => rw [fold, fold]; exact HL _ _ fun i => by rw [IH i 0 .exprs]; rfl
    case exprs => rw [fold, fold]; exact HL _ _ fun i => HE (f i) i 8 9 rfl
    case keys => rw [fold, fold]; exact HL _ _ fun i => HE (f i) i 8 9 rfl
    case items =>
      rw [fold, fold]
      refine HL _ _ fun i => ?_
      cases (f i 0).tru
      · exact HE (cut 2 (f i)) i 10 11 rfl
      · rfl
    case sources => rw [fold, fold]; exact HL _ _ fun i => by rw [IH i 2 .exprs]; rfl
    case queries =>
      rw [fold, fold, rightA_of, okA_of]
      show _ = (((List.range n).map f).all frameB && _)
      rw [List.all_map, List.all_map, List.all_map]
      show ((List.range n).all fun i => frameB (f i) && _) = _
      rw [all_and]
      congr 2
      funext i
      show (((fold rightA (f i 1) .items && fold rightA (f i 2) .sources) && fold rightA (f i 3) .exprs) && fold rightA (f i 4) .keys) = _
      rw [IH i 1 .items, IH i 2 .sources, IH i 3 .exprs, IH i 4 .keys]
      rfl
theorem rightE_ok (c : Nat → Dat) : foldE rightA c = foldE okA c := by
  show (shapeB c && (fold rightA (c 8) .exprs && fold rightA (c 9) .queries)) = (nodeB c && (fold okA (c 8) .exprs && fold okA (c 9) .queries))
  rw [right_ok (c 8) .exprs, right_ok (c 9) .queries]
  unfold nodeB
  show (shapeB c && ((true && fold okA (c 8) .exprs) && ((c 9).els.all frameB && fold okA (c 9) .queries))) = _
  cases shapeB c <;> cases (c 9).els.all frameB <;> cases fold okA (c 8) .exprs <;> rfl
theorem rightQ_ok {q : Nat → Dat} (h1 : Fits (q 1) .items) (h2 : Fits (q 2) .sources) (h3 : Fits (q 3) .exprs) (h4 : Fits (q 4) .keys) : foldQ rightA q = (frameB q && (exprsOf q).all (foldE okA)) := by
  rw [foldQ_is rightA_good h1 h2 h3 h4]
  show (frameB q && rightA.of _) = _
  rw [rightA_of, List.all_map]
  congr 2
  funext c; exact rightE_ok c
/-- all nodes of a tree in order -/
theorem ok_pre (d : Nat) (c : Nd) : foldE okA c = (pre d c).all fun p => nodeB p.2 := by
  unfold pre
  rw [List.all_map]
  refine (fold_homE (G := preA) (H := okA) (fun l => l.all fun p => nodeB p.2) (fun a b => ?_) rfl (fun c l => ?_) (fun _ _ => rfl) c).symm
  · show (a ++ b).all _ = (a.all _ && b.all _)
    rw [List.all_append]
  · show (((0, c) :: l.map (shift 1)).all _) = (nodeB c && l.all _)
    rw [List.all_cons, List.all_map]
    rfl
theorem ok_flat (d : Nat) (L : List Nd) : L.all (foldE okA) = (L.flatMap (pre d)).all fun p => nodeB p.2 := by
  induction L with
  | nil => rfl
  | cons c L ih => rw [List.all_cons, List.flatMap_cons, List.all_append, ← ih, ← ok_pre]
/-- the deepest is no deeper than n where none is -/
theorem mx_le (l : List (Nat × Nd)) (n : Nat) : decide (mx l ≤ n) = l.all fun p => decide (p.1 ≤ n) := by
  induction l with
  | nil => show decide (0 ≤ n) = true; simp
  | cons a l ih =>
    rw [List.all_cons, ← ih]
    show decide (max a.1 (mx l) ≤ n) = _
    rw [← Bool.decide_and, decide_eq_decide]; omega
/-- all that the program asks of the nodes of some trees -/
def listOk (L : List Nd) : Bool := L.all (foldE okA) && (decide (mx (L.flatMap (pre 1)) ≤ 24) && decide ((L.flatMap (pre 1)).length ≤ 200))
/-- at the place i of the walk -/
def stepOk (i : Nat) (p : Nat × Nd) : Bool := decide (p.1 ≤ 24) && (decide (i + 1 ≤ 200) && nodeB p.2)
theorem listOk_true {L : List Nd} {xs : List (Nat × Nd)} (hx : L.flatMap (pre 1) = xs) (h : ∀ i p, xs[i]? = some p → stepOk i p = true) : listOk L = true := by
  unfold listOk
  rw [ok_flat 1, mx_le, hx]
  have h1 : ∀ p ∈ xs, p.1 ≤ 24 ∧ nodeB p.2 = true := fun p hp => by
    obtain ⟨i, hi⟩ := List.getElem?_of_mem hp
    have := h i p hi
    unfold stepOk at this
    simp only [Bool.and_eq_true, decide_eq_true_eq] at this
    exact ⟨this.1, this.2.2⟩
  have h2 : xs.length ≤ 200 := by
    by_cases e : xs.length = 0
    · omega
    · have := h (xs.length - 1) xs[xs.length - 1] (List.getElem?_eq_getElem (by omega))
      unfold stepOk at this
      simp only [Bool.and_eq_true, decide_eq_true_eq] at this
      omega
  simp only [Bool.and_eq_true, List.all_eq_true, decide_eq_true_eq]
  exact ⟨fun p hp => (h1 p hp).2, fun p hp => (h1 p hp).1, h2⟩
theorem listOk_false {L : List Nd} {xs : List (Nat × Nd)} (hx : L.flatMap (pre 1) = xs) {i : Nat} {p : Nat × Nd} (hi : xs[i]? = some p) (h : stepOk i p = false) : listOk L = false := by
  refine Bool.eq_false_iff.2 fun hL => ?_
  unfold listOk at hL
  rw [ok_flat 1, mx_le, hx] at hL
  simp only [Bool.and_eq_true, List.all_eq_true, decide_eq_true_eq] at hL
  have hm := List.mem_of_getElem? hi
  have hlt := (List.getElem?_eq_some_iff.1 hi).1
  have h1 := hL.1 p hm
  have h2 := hL.2.1 p hm
  have h3 := hL.2.2
  unfold stepOk at h
  rw [h1, decide_eq_true h2, decide_eq_true (by omega : i + 1 ≤ 200)] at h
  cases h
theorem listOk_is (L : List Nd) : listOk L = (L.all (foldE okA) && (decide (depA.of (L.map (foldE depA)) ≤ 24) && decide (sizA.of (L.map (foldE sizA)) ≤ 200))) := by
  unfold listOk
  rw [mx_flat, len_flat]
end Go.Proofs.Ytfmgkinindkedaa
