/- Joined texts: WrapdI StE WrapsI WrapsX. -/
import Derived.Test.YtfmgkinindkedaaQHNeedI
import Derived.Test.YtfmgkinindkedaaQSUC
import Derived.Test.YtfmgkinindkedaaQSTF
import Derived.Test.YtfmgkinindkedaaQSUI
import Derived.Test.YtfmgkinindkedaaQSUH
import Derived.LoopIn
/- The program's Wrapped. -/
namespace Go.Proofs.Ytfmgkinindkedaa
open Go.RowKit

set_option maxRecDepth 100000 in
set_option maxHeartbeats 8000000 in
theorem wrapped_any (w0 : World) (c : Nd) (ys : List Value) (w : World) (hys : OutK exprTy w0 ys [c]) (hb0 : Below w0.heap.size w0 w) (k : Int) :
    Calls Try.prog 26 #[.agg ys.toArray, .int .i64 k] w (BoolE (wrapB c k) w) := by
  obtain ⟨c0, c1, c2, c3, c4, c5, c6, c7, a8, n8, p8, a9, n9, p9, rfl, ⟨e0, -⟩, ⟨e1, -⟩, -, -, -, -, -, -, ⟨r8, q8⟩, -⟩ := hys.ten
  obtain ⟨f8, e8, r8, q8⟩ := r8.openS q8 rfl
  replace r8 := Rd.later r8 hb0
  replace e8 : c 8 = .sl n8 10 f8 := e8
  have hR := wrapB_is e0 e1 e8 k
  clear e0 e1 e8 hb0 hys
  have hn8 := q8.2.1
  have HB := BX.new w 56 #[.int .i64 c0, .int .i64 c1, .bool c2, .int .i64 c3, .int .i64 c4, .string c5, .string c6, .string c7, .slice a8 n8 p8, .slice a9 n9 p9]
  have x0 := HB.box.cell (i := 0) (v := .int .i64 c0) rfl
  have x1 := HB.box.cell (i := 1) (v := .int .i64 c1) rfl
  have x2 := HB.box.cell (i := 2) (v := .bool c2) rfl
  have x3 := HB.box.cell (i := 3) (v := .int .i64 c3) rfl
  have x4 := HB.box.cell (i := 4) (v := .int .i64 c4) rfl
  have x5 := HB.box.cell (i := 5) (v := .string c5) rfl
  have x6 := HB.box.cell (i := 6) (v := .string c6) rfl
  have x7 := HB.box.cell (i := 7) (v := .string c7) rfl
  have x8 := HB.box.cell (i := 8) (v := .slice a8 n8 p8) rfl
  have x9 := HB.box.cell (i := 9) (v := .slice a9 n9 p9) rfl
  have hN := fun w => needs_impl c0 c1 c2 c3 c4 c5 c6 c7 a8 n8 p8 a9 n9 p9 k w
  have hI := fun w => hasKid_any c0 c1 c2 c3 c4 c5 c6 c7 a8 n8 p8 a9 n9 p9 k w
  generalize needV c0 (levV c0 c1) n8 k = N at hN hR
  generalize wrapB c k = R at hR ⊢
  have HR := Lib.hid hR
  clear hR
  go_enter Try.func26, Try.ntmps26
  go_wp2_with fail
  have hbw := HB.b
  generalize w.alloc (.cells #[.int .i64 c0, .int .i64 c1, .bool c2, .int .i64 c3, .int .i64 c4, .string c5, .string c6, .string c7, .slice a8 n8 p8, .slice a9 n9 p9] 56) = W at HB hbw x0 x1 x2 x3 x4 x5 x6 x7 x8 x9 ⊢
  cases hk : isKid n8 k
  · rw [hk] at hI
    have hr : R = false := by rw [HR.out, hk]; rfl
    subst hr
    clear hk hN HR
    replace x0 := lat_cell x0
    replace x1 := lat_cell x1
    replace x2 := lat_cell x2
    replace x3 := lat_cell x3
    replace x4 := lat_cell x4
    replace x5 := lat_cell x5
    replace x6 := lat_cell x6
    replace x7 := lat_cell x7
    replace x8 := lat_cell x8
    replace x9 := lat_cell x9
    refine region_lat (by kernel_rfl) (by kernel_rfl) ?_
    iterate 2 go_big_quiet_step (fail)
    go_big_quiet_step ((refine (hI _).mono ?_; rintro e w'' ⟨rfl, hb''⟩; exact ⟨rfl, lat_to hb''⟩))
    iterate 13 go_big_quiet_step (fail)
    refine wpQuiet_nil ?_
    rintro _ ⟨nq, rfl⟩
    have hbq := hbw.trans ((lat_below W nq).mono hbw.size)
    go_wp2_with fail
    go_ret
    exact ⟨rfl, hbq⟩
  · obtain ⟨j, rfl, hj⟩ := isKid_true hk
    rw [hk] at hI
    have HR2 : Hid (R = decide (levV (f8 j 0).num (f8 j 1).num < N)) := by show R = _; rw [HR.out, hk]; rfl
    clear hk HR
    obtain ⟨g, o, rfl, -, hg, y0, y1, y2, y3, y4, y5, y6, y7, y8, y9, ⟨z0, z1, z2, z3, z4, z5, z6, z7, z8, z9⟩, ⟨⟨e0, -⟩, ⟨e1, -⟩, -, -, -, -, -, -, ⟨s8, t8⟩, ⟨s9, t9⟩⟩⟩ := row_exprs (r8.later hbw) q8 hj
    obtain ⟨ka, kn, kp, rfl⟩ := s8.slice_of t8 rfl
    obtain ⟨la, ln, lp, rfl⟩ := s9.slice_of t9 rfl
    have hj2 : (j : Int) < (n8 : Int) := by omega
    have hL := fun w => levelOf_impl y0 y1 y2 y3 y4 y5 y6 y7 ka kn kp la ln lp w
    have hR3 : R = decide (levV y0 y1 < N) := by rw [HR2.out, num_is e0, num_is e1]
    clear HR2
    generalize levV y0 y1 = L at hL hR3
    clear e0 e1 s8 t8 s9 t9
    replace x0 := lat_cell x0
    replace x1 := lat_cell x1
    replace x2 := lat_cell x2
    replace x3 := lat_cell x3
    replace x4 := lat_cell x4
    replace x5 := lat_cell x5
    replace x6 := lat_cell x6
    replace x7 := lat_cell x7
    replace x8 := lat_cell x8
    replace x9 := lat_cell x9
    replace z0 := lat_cell z0
    replace z1 := lat_cell z1
    replace z2 := lat_cell z2
    replace z3 := lat_cell z3
    replace z4 := lat_cell z4
    replace z5 := lat_cell z5
    replace z6 := lat_cell z6
    replace z7 := lat_cell z7
    replace z8 := lat_cell z8
    replace z9 := lat_cell z9
    cases R
    all_goals
      have hV2 := hR3.symm
      clear hR3
      refine region_lat (by kernel_rfl) (by kernel_rfl) ?_
      iterate 2 go_big_quiet_step (fail)
      go_big_quiet_step ((refine (hI _).mono ?_; rintro e w'' ⟨rfl, hb''⟩; exact ⟨rfl, lat_to hb''⟩))
      iterate 6 go_big_quiet_step (fail)
      go_big_quiet_step ((refine (hL _).mono ?_; rintro e w'' ⟨rfl, hb''⟩; exact ⟨rfl, lat_to hb''⟩))
      iterate 2 go_big_quiet_step (fail)
      go_big_quiet_step ((refine (hN _).mono ?_; rintro e w'' ⟨rfl, hb''⟩; exact ⟨rfl, lat_to hb''⟩))
      iterate 3 go_big_quiet_step (fail)
      refine wpQuiet_nil ?_
      rintro _ ⟨nq, rfl⟩
      have hbq := hbw.trans ((lat_below W nq).mono hbw.size)
      go_wp2_with fail
      go_ret
      exact ⟨rfl, hbq⟩
end Go.Proofs.Ytfmgkinindkedaa

/- A new block for an expression, filled in one store. -/
namespace Go.Proofs.Ytfmgkinindkedaa
open Go.RowKit

theorem execOp_stE (ρ : Operand → Value) (dst : Option Tmp) (x y : Operand) (ty : TypeId) (pos : String) (after : Array Edge) (guard : Option (Nat × Bool)) :
    execOp ρ { dst := dst, op := .store 56 x y, type := ty, pos := pos, after := after, guard := guard } = stX 56 (ρ x) (ρ y) := rfl
theorem stE_new {w : World} {ys : List Value} (hl : ys.length = 10) (ho : ys.all Value.oneCell' = true) :
    (stX 56 (.pointer (some ⟨w.heap.size, 0, none⟩)) (.agg ys.toArray)).run Try.prog (w.alloc (.cells #[.int .i64 0, .int .i64 0, .bool false, .int .i64 0, .int .i64 0, .string ⟨#[]⟩, .string ⟨#[]⟩, .string ⟨#[]⟩, .slice none 0 0, .slice none 0 0] 56)) = .ok .skip (w.alloc (.cells ys.toArray 56)) := by
  have h := storeAt_row (P := Try.prog) (zs := #[.int .i64 0, .int .i64 0, .bool false, .int .i64 0, .int .i64 0, .string ⟨#[]⟩, .string ⟨#[]⟩, .string ⟨#[]⟩, .slice none 0 0, .slice none 0 0]) ys (fun w => by rw [hl]; exact Try.sizeOf56 w) hl ho (RowAt.new w 56 #[.int .i64 0, .int .i64 0, .bool false, .int .i64 0, .int .i64 0, .string ⟨#[]⟩, .string ⟨#[]⟩, .string ⟨#[]⟩, .slice none 0 0, .slice none 0 0])
  rw [setRow_new] at h
  simp [stX, h, Result.andThen]
end Go.Proofs.Ytfmgkinindkedaa

/- The program's count of wrapped Kids over some trees. -/
namespace Go.Proofs.Ytfmgkinindkedaa
open Go.RowKit
attribute [local go_sem] Oper.semAt_some
attribute [local go_sem ↓] execOp_ldE execOp_stE

theorem among_le : ∀ L : List Nd, wrapA.of (L.map (foldE wrapA)) ≤ sizA.of (L.map (foldE sizA))
  | [] => Nat.le_refl _
  | c :: L => by
    rw [List.map_cons, List.map_cons, wrapA_good.of_cons, sizA_good.of_cons]
    have h1 := wrE_le c
    have h2 := among_le L
    show _ + _ ≤ _ + _
    omega
theorem wupto_mono (c : Nd) {j n : Nat} (h : j ≤ n) : wupto c j ≤ wupto c n := by
  induction n with
  | zero => obtain rfl : j = 0 := by omega
            exact Nat.le_refl _
  | succ n ih =>
    by_cases e : j = n + 1
    · rw [e]; exact Nat.le_refl _
    · have := ih (by omega)
      exact Nat.le_trans this (Nat.le_add_right _ _)
set_option maxRecDepth 100000 in
set_option maxHeartbeats 4000000 in
theorem among_any (w0 W : World) (L : List Nd) (v : Value) (hb0 : Below w0.heap.size w0 W) (hv : LK exprTy w0 W (fun _ => True) v L) (hL : ∀ c ∈ L, Bd c) (hlen : (L.flatMap (pre 1)).length ≤ 2000000) :
    Calls Try.prog 71 #[v] W fun e w' => e = .returned (.int .i64 ((wsums (L.flatMap (pre 1)) : Nat) : Int)) ∧ Below W.heap.size W w' := by
  obtain ⟨a0, cap, rfl⟩ := hv.slice
  have hz := hb0.size
  generalize hxs : L.flatMap (pre 1) = xs at hlen ⊢
  have HB : ∀ d c, (d, c) ∈ xs → Bd c := fun d c h => by
    rw [← hxs, List.mem_flatMap] at h
    obtain ⟨c', hc', h⟩ := h
    exact (hL c' hc').pre 1 _ h
  have hws : ∀ i, wsums (xs.take i) ≤ 2000000 := fun i => by
    have h1 : wsums (xs.take i) + wsums (xs.drop i) = wsums xs := by rw [← wsums_append, List.take_append_drop]
    have h2 : wsums xs ≤ xs.length := by
      rw [← hxs, wsums_flat, len_flat]
      exact among_le L
    omega
  refine (callsIn_wide (n := 5)).1 ?_
  refine callsIn_of_wp_marks Try.func71 rfl trivial ?_ rfl
  simp only [Try.ntmps71, List.size_toArray, List.length_cons, List.length_nil, Nat.reduceAdd, Nat.reduceSub, Array.replicate_succ, Array.replicate_zero, List.push_toArray, List.append_toArray, List.nil_append, List.cons_append]
  have H0 := RowAt.new W 3 #[.int .i64 0]
  have B0 : Below W.heap.size W (W.alloc (.cells #[.int .i64 0] 3)) := (Below.refl _ _).alloc (Nat.le_refl _) _
  have s0 : (W.alloc (.cells #[.int .i64 0] 3)).heap.size = W.heap.size + 1 := by simp
  gi_wp2
  generalize W.alloc (.cells #[.int .i64 0] 3) = w1 at *
  refine ⟨trivial, (callsIn_wide.2 (visitsE_any _ _ ⟨_, _, _, rfl⟩ ⟨_, rfl⟩ w1)).mono ?_⟩
  rintro e w3 ⟨rfl, hw3⟩
  have k1 : w3.cell? ⟨w1.heap.size, 0, none⟩ = some (.slice a0 L.length cap) := by rw [hw3]; exact ((RowAt.new w1 36 #[.slice a0 L.length cap]).alloc _).cell (i := 0) rfl
  have k2 : w3.cell? ⟨w1.heap.size + 1, 0, none⟩ = some (.func (.func 108) #[] #[]) := by
    have h := (RowAt.new (w1.alloc (.cells #[.slice a0 L.length cap] 36)) 134 #[.func (.func 108) #[] #[]]).cell (i := 0) rfl
    rw [World.size_alloc] at h
    rw [hw3]; exact h
  have b3 : Below w1.heap.size w1 w3 := by rw [hw3]; exact ((Below.refl _ _).alloc (Nat.le_refl _) _).alloc (by simp) _
  have s3 : w3.heap.size = W.heap.size + 3 := by rw [hw3]; simp [s0]
  clear hw3
  have H3 := H0.later b3
  have B3 : Below W.heap.size W w3 := B0.trans (b3.mono (by omega))
  rw [s0] at k1 k2
  gi_wp2
  refine wpIn_rangeV (α := Nat × Nd) rfl (by decide) (gf := VE) (lb := #[.pointer (some ⟨W.heap.size + 1, 0, none⟩), .pointer (some ⟨W.heap.size + 1 + 1, 0, none⟩)]) rfl trivial (enters_of Try.func153 (by kernel_rfl) rfl)
    (visE_any pre parts (fun _ => True) w0 w3 L _ _ _ (fun k => k = W.heap.size) xs _ hxs.symm hlen (hb0.trans (B3.mono hz)) (fun k hk => ⟨by omega, by omega⟩) k1 k2 (by omega)
      (hv.keep B3.size (fun g _ hlt => B3.block g hlt) fun g _ hlt => by omega) (fun d c h _ => partsOf_any w0 c (HB d c h)) pre_hd (fun d c h _ => pre_eq d (HB d c h).f8 (HB d c h).f9))
    (fun k hk => by omega) (fun x v h => by obtain ⟨ys, _, rfl⟩ := h; rfl)
    (fun i Wr => RowAt Wr W.heap.size 3 #[.int .i64 ((wsums (xs.take i) : Nat) : Int)] ∧ Below W.heap.size W Wr) (fun _ _ _ => False)
    (fun i A B h hb => ⟨(hb.block _ (by omega)).trans h.1, h.2.trans (hb.mono (by omega))⟩) (fun _ _ _ _ h _ => h) ⟨H3, B3⟩
    (fun x a Wr => ∃ (ys : List Value) (Bx : Nat), OutK exprTy w0 ys [x.2] ∧ w3.heap.size + 1 < Bx ∧ RowAt Wr Bx 56 ys.toArray ∧
      a = { tmps := #[.slice a0 L.length cap, undef, .int .i64 0, .pointer (some ⟨W.heap.size, 0, none⟩), undef, .pointer (some ⟨Bx, 0, none⟩), undef, .slice a0 L.length cap, .func (.func VE) #[] #[.pointer (some ⟨W.heap.size + 1, 0, none⟩), .pointer (some ⟨W.heap.size + 1 + 1, 0, none⟩)], .int .i64 (x.1 : Int), .agg ys.toArray, undef, undef, undef, undef, undef, undef, undef, undef, undef, undef, undef, undef, undef], defers := [] })
    (fun x a A B h hk => by obtain ⟨ys, Bx, h1, h2, h3, h4⟩ := h; exact ⟨ys, Bx, h1, h2, (hk Bx h2).trans h3, h4⟩) ?assign ?body ?done ?stop
  case assign =>
    rintro l ⟨d, c⟩ v W1 K ⟨ys, hys, rfl⟩ hsz hK
    have hyl : ys.length = 10 := hys.1
    have hyo : ys.all Value.oneCell' = true := List.all_eq_true.2 hys.ones
    have hst := stE_new (w := W1) hyl hyo
    gi_wp2
    exact hK _ _ ⟨ys, W1.heap.size, hys, hsz, RowAt.new W1 _ _, rfl⟩ ((Below.refl _ _).alloc (Nat.le_refl _) _)
  case body =>
    rintro l i ⟨d, c⟩ a1 W1 hx ⟨hI, hB⟩ hsz ⟨ys, Bx, hys, hBx, hR, rfl⟩
    replace hys : OutK exprTy w0 ys [c] := hys
    have hyl : ys.length = 10 := hys.1
    have hnext := hws (i + 1)
    have hsum : wsums (xs.take (i + 1)) = wsums (xs.take i) + wcnt c := by
      rw [take_next hx, wsums_append]
      rfl
    rw [hsum] at hnext
    obtain ⟨y0, y1, y2, y3, y4, y5, y6, y7, a8, n8, p8, a9, n9, p9, hye, -, -, -, -, -, -, -, -, ⟨r8, q8⟩, -⟩ := hys.ten
    have hn8 : (c 8).len = n8 := by obtain ⟨f8, e8, -, -⟩ := r8.openS q8 rfl; rw [e8]; rfl
    have hnb : n8 ≤ 1048576 := by
      have hm := (HB d c (List.mem_of_getElem? hx)).m8
      obtain ⟨f8, e8, -, -⟩ := r8.openS q8 rfl
      rw [e8] at hm
      exact Nat.le_trans (msr_n n8 _ f8) hm
    have hcnt : wcnt c = wupto c n8 := by unfold wcnt; rw [hn8]
    have x8 : W1.cell? ⟨Bx, 8, none⟩ = some (.slice a8 n8 p8) := hR.cell (i := 8) (by rw [hye]; rfl)
    have hW := fun (j : Nat) w h => wrapped_any w0 c ys w hys h (j : Int)
    clear hye r8 q8 hn8
    generalize hS : wsums (xs.take i) = S at hI hsum hnext
    clear hS
    gi_wp2
    gi_loopw [14] (fun i wr => ∃ j : Nat, j ≤ n8 ∧ i = .int .i64 (j : Int) ∧ RowAt wr W.heap.size 3 #[.int .i64 ((S + wupto c j : Nat) : Int)] ∧ But (fun k => k = W.heap.size) W1 wr ∧ Below W.heap.size W wr ∧ RowAt wr Bx 56 ys.toArray) (fun i _ => n8 - (intOf i).toNat)
    case atStart => exact ⟨0, Nat.zero_le _, rfl, hI, But.refl _ _, hB, hR⟩
    case round =>
      obtain ⟨j, hj, rfl, hI2, hbut, hB2, hR2⟩ := hrel
      by_cases hlt : j < n8
      · have hlt2 : (j : Int) < (n8 : Int) := by omega
        have ld : (ldX 56 (.pointer (some ⟨Bx, 0, none⟩))).run Try.prog wr = .ok (.value (.agg ys.toArray)) wr := run_ldX (P := Try.prog) (o := 0) hyl Try.isAgg56 Try.sizeOf56 fun k u hk => by rw [Nat.zero_add]; exact hR2.cell (i := k) (by simpa using hk)
        have hcall := hW j wr (hb0.trans (hB2.mono hz))
        have hmono := wupto_mono c (show j + 1 ≤ n8 by omega)
        have hstep : wupto c (j + 1) = wupto c j + (if wrapB c (j : Int) then 1 else 0) := rfl
        generalize hwb : wrapB c (j : Int) = b at hcall hstep
        clear hwb
        cases b
        · gi_wp2
          refine ⟨trivial, (CallsIn.inRound l (callsIn_wide.2 hcall)).mono ?_⟩
          rintro e w4 ⟨rfl, hb4⟩
          have hI4 : RowAt w4 W.heap.size 3 #[.int .i64 ((S + wupto c (j + 1) : Nat) : Int)] := by rw [hstep]; exact hI2.later hb4
          have hrl : ∃ j' : Nat, j' ≤ n8 ∧ (.int .i64 ((j : Int) + 1) : Value) = .int .i64 (j' : Int) ∧ RowAt w4 W.heap.size 3 #[.int .i64 ((S + wupto c j' : Nat) : Int)] ∧ But (fun k => k = W.heap.size) W1 w4 ∧ Below W.heap.size W w4 ∧ RowAt w4 Bx 56 ys.toArray :=
            ⟨j + 1, by omega, by go_num, hI4, hbut.trans (But.below hb4), hB2.trans (hb4.mono hB2.size), hR2.later hb4⟩
          have HRL := Lib.hid hrl
          clear hrl hI4 hcall hW ld hstep hmono
          gi_wp2
          go_roundw
          case rel => exact HRL.out
          case measure => simp [intOf]; omega
        · gi_wp2
          refine ⟨trivial, (CallsIn.inRound l (callsIn_wide.2 hcall)).mono ?_⟩
          rintro e w4 ⟨rfl, hb4⟩
          have hI4 := hI2.later hb4
          have i0 := hI4.cell (i := 0) (v := .int .i64 ((S + wupto c j : Nat) : Int)) rfl
          have i1 := hI4.soft 0
          have hI5 : RowAt (w4.setCell ⟨W.heap.size, 0, none⟩ (.int .i64 (((S + wupto c j : Nat) : Int) + 1))) W.heap.size 3 #[.int .i64 ((S + wupto c (j + 1) : Nat) : Int)] := by
            have h := hI4.set 0 (.int .i64 (((S + wupto c j : Nat) : Int) + 1))
            have hs2 : wupto c (j + 1) = wupto c j + 1 := by rw [hstep]; simp
            have e : ((S + wupto c j : Nat) : Int) + 1 = ((S + wupto c (j + 1) : Nat) : Int) := by rw [hs2]; omega
            rw [← e]; exact h
          have hrl : ∃ j' : Nat, j' ≤ n8 ∧ (.int .i64 ((j : Int) + 1) : Value) = .int .i64 (j' : Int) ∧ RowAt (w4.setCell ⟨W.heap.size, 0, none⟩ (.int .i64 (((S + wupto c j : Nat) : Int) + 1))) W.heap.size 3 #[.int .i64 ((S + wupto c j' : Nat) : Int)] ∧ But (fun k => k = W.heap.size) W1 (w4.setCell ⟨W.heap.size, 0, none⟩ (.int .i64 (((S + wupto c j : Nat) : Int) + 1))) ∧ Below W.heap.size W (w4.setCell ⟨W.heap.size, 0, none⟩ (.int .i64 (((S + wupto c j : Nat) : Int) + 1))) ∧ RowAt (w4.setCell ⟨W.heap.size, 0, none⟩ (.int .i64 (((S + wupto c j : Nat) : Int) + 1))) Bx 56 ys.toArray :=
            ⟨j + 1, by omega, by go_num, hI5, (hbut.trans (But.below hb4)).trans (But.setCell _ ⟨W.heap.size, 0, none⟩ _ rfl), (hB2.trans (hb4.mono hB2.size)).setCell (p := ⟨W.heap.size, 0, none⟩) (Nat.le_refl _) _, (hR2.later hb4).other (by omega)⟩
          have HRL := Lib.hid hrl
          have hsb : S + wupto c j ≤ 2000000 := by omega
          clear hrl hI4 hI5 hcall hW ld hstep hmono hcnt hsum
          generalize S + wupto c j = M at i0 hsb HRL
          gi_wp2
          go_roundw
          case rel => exact HRL.out
          case measure => simp [intOf]; omega
      · obtain rfl : j = n8 := by omega
        have hI3 : RowAt wr W.heap.size 3 #[.int .i64 ((wsums (xs.take (i + 1)) : Nat) : Int)] := by rw [hsum, hcnt]; exact hI2
        clear hI2 hcnt hsum hnext hW
        gi_wp2
        exact ⟨hbut, trivial, hI3, hB2⟩
  case done =>
    rintro D W1 hD ⟨hI, hB⟩ hK
    rw [List.take_length] at hI
    have x0 := hI.cell (i := 0) (v := .int .i64 ((wsums xs : Nat) : Int)) rfl
    gi_wp2
    refine ⟨by simp, .inl ⟨_, _, rfl, run_takeDeferred hK, ?_⟩⟩
    exact ⟨_, results_tmp rfl _ _ _, rfl, hB.trans (below_put _ _ _ (by omega))⟩
  case stop => exact fun _ _ _ _ _ _ h _ => h.elim
end Go.Proofs.Ytfmgkinindkedaa

/- The program's Wraps and WrapsIn. -/
namespace Go.Proofs.Ytfmgkinindkedaa
open Go.RowKit

set_option maxRecDepth 100000 in
set_option maxHeartbeats 8000000 in
theorem Wraps_any (w0 : World) (c : Nd) (us : List Value) (W : World) (hx : OutK exprTy w0 us [c]) (hb0 : Below w0.heap.size w0 W) (hc : Bd c) (hw : wt c ≤ 2000000) :
    Calls Try.prog 28 #[.agg us.toArray] W (IntE ((foldE wrapA c : Nat) : Int) W) := by
  have hout := hx
  have hlen : ([c].flatMap (pre 1)).length ≤ 2000000 := by
    rw [len_flat]
    show sizA.of [foldE sizA c] ≤ _
    rw [sizA_good.of_cons]
    have g8 := siz_le (c 8) _ hc.f8
    have g9 := siz_le (c 9) _ hc.f9
    have : foldE sizA c ≤ wt c := by show (_ + _) + 1 ≤ msr (c 8) + msr (c 9) + 1; omega
    show foldE sizA c + 0 ≤ _
    omega
  obtain ⟨x0, x1, x2, x3, x4, x5, x6, x7, ax8, nx8, px8, ax9, nx9, px9, rfl, -⟩ := hx.ten
  have hB : Below W.heap.size W (W.alloc (.cells #[.int .i64 x0, .int .i64 x1, .bool x2, .int .i64 x3, .int .i64 x4, .string x5, .string x6, .string x7, .slice ax8 nx8 px8, .slice ax9 nx9 px9] 56)) := (Below.refl _ _).alloc (Nat.le_refl _) _
  have s2 : (W.alloc (.cells #[.int .i64 x0, .int .i64 x1, .bool x2, .int .i64 x3, .int .i64 x4, .string x5, .string x6, .string x7, .slice ax8 nx8 px8, .slice ax9 nx9 px9] 56)).heap.size = W.heap.size + 1 := by simp
  have R0 := RowAt.new W 56 #[.int .i64 x0, .int .i64 x1, .bool x2, .int .i64 x3, .int .i64 x4, .string x5, .string x6, .string x7, .slice ax8 nx8 px8, .slice ax9 nx9 px9]
  clear hx
  go_enter Try.func28, Try.ntmps28
  go_wp2_with fail
  generalize (W.alloc (.cells #[.int .i64 x0, .int .i64 x1, .bool x2, .int .i64 x3, .int .i64 x4, .string x5, .string x6, .string x7, .slice ax8 nx8 px8, .slice ax9 nx9 px9] 56)) = w2 at hB s2 R0 ⊢
  have R := RowAt.new w2 56 #[.int .i64 x0, .int .i64 x1, .bool x2, .int .i64 x3, .int .i64 x4, .string x5, .string x6, .string x7, .slice ax8 nx8 px8, .slice ax9 nx9 px9]
  have hal : Below w2.heap.size w2 (w2.alloc (.cells #[.int .i64 x0, .int .i64 x1, .bool x2, .int .i64 x3, .int .i64 x4, .string x5, .string x6, .string x7, .slice ax8 nx8 px8, .slice ax9 nx9 px9] 56)) := (Below.refl _ _).alloc (Nat.le_refl _) _
  rw [s2] at R
  generalize w2.alloc (.cells #[.int .i64 x0, .int .i64 x1, .bool x2, .int .i64 x3, .int .i64 x4, .string x5, .string x6, .string x7, .slice ax8 nx8 px8, .slice ax9 nx9 px9] 56) = w3 at R hal ⊢
  have hB3 := hB.trans (hal.mono hB.size)
  have hlk : LK exprTy w0 w3 (fun _ => True) (.slice (some ⟨W.heap.size + 1, 0, none⟩) 1 1) [c] :=
    ⟨_, 1, _, rfl, hout, .inr ⟨W.heap.size + 1, 0, rfl, Nat.le_refl _, trivial, R.lt, fun j u hj => by rw [Nat.zero_add]; exact R.cell (by simpa using hj)⟩⟩
  refine (among_any w0 w3 [c] _ (hb0.trans (hB3.mono hb0.size)) hlk (fun t ht => by rw [List.mem_singleton.1 ht]; exact hc) hlen).mono ?_
  rintro e w4 ⟨rfl, hb4⟩
  have hval : wsums ([c].flatMap (pre 1)) = foldE wrapA c := by
    rw [wsums_flat]; show wrapA.of [foldE wrapA c] = _; rw [wrapA_good.of_cons]; rfl
  rw [hval]
  have hf := hB3.trans (hb4.mono hB3.size)
  go_wp2_with fail
  go_ret
  exact ⟨rfl, hf⟩
set_option maxRecDepth 100000 in
set_option maxHeartbeats 8000000 in
theorem WrapsIn_any (w0 : World) (q : Nd) (ys : List Value) (W : World) (hys : OutK (rowTy .queries) w0 ys [q]) (hb0 : Below w0.heap.size w0 W) (hq : BdQ q) :
    Calls Try.prog 32 #[.agg ys.toArray] W (IntE ((foldQ wrapA q : Nat) : Int) W) := by
  have hE := fun w h => exprsInQ_any w0 w q ys hys h hq
  have hO := fun w v h hv => among_any w0 w (exprsOf q) v h hv hq.exprs hq.len
  have hval : wsums ((exprsOf q).flatMap (pre 1)) = foldQ wrapA q := by
    rw [wsums_flat, foldQ_is wrapA_good hq.f.1 hq.f.2.1 hq.f.2.2.1 hq.f.2.2.2]; rfl
  rw [hval] at hO
  obtain ⟨c0, a1, n1, p1, a2, n2, p2, a3, n3, p3, a4, n4, p4, c5, rfl, -⟩ := hys.queryRow
  have R := RowAt.new W 39 #[.bool c0, .slice a1 n1 p1, .slice a2 n2 p2, .slice a3 n3 p3, .slice a4 n4 p4, .int .i64 c5]
  have hB : Below W.heap.size W (W.alloc (.cells #[.bool c0, .slice a1 n1 p1, .slice a2 n2 p2, .slice a3 n3 p3, .slice a4 n4 p4, .int .i64 c5] 39)) := (Below.refl _ _).alloc (Nat.le_refl _) _
  have HB := Lib.hid hB
  have hz := hb0.trans (hB.mono hb0.size)
  have z0 := R.cell (i := 0) (v := .bool c0) rfl
  have z1 := R.cell (i := 1) (v := .slice a1 n1 p1) rfl
  have z2 := R.cell (i := 2) (v := .slice a2 n2 p2) rfl
  have z3 := R.cell (i := 3) (v := .slice a3 n3 p3) rfl
  have z4 := R.cell (i := 4) (v := .slice a4 n4 p4) rfl
  have z5 := R.cell (i := 5) (v := .int .i64 c5) rfl
  clear hys hB R hq hval
  generalize foldQ wrapA q = V at hO ⊢
  generalize exprsOf q = L at hE hO
  go_enter Try.func32, Try.ntmps32
  go_wp2_with fail
  refine (hE _ hz).mono ?_
  rintro e w3 ⟨v, rfl, hoe, hb3⟩
  have hB3 := HB.out.trans (hb3.mono HB.out.size)
  have hz3 := hz.trans (hb3.mono hz.size)
  have hlk : LK exprTy w0 w3 (fun _ => True) v L := hoe.lk fun _ _ _ => trivial
  obtain ⟨av, cv, rfl⟩ := hoe.slice
  have hcall := hO w3 _ hz3 hlk
  clear z0 z1 z2 z3 z4 z5 hE hO hb3 hoe hlk
  go_wp2_with fail
  refine hcall.mono ?_
  rintro e w4 ⟨rfl, hb4⟩
  have hf := hB3.trans (hb4.mono hB3.size)
  go_wp2_with fail
  go_ret
  exact ⟨rfl, hf⟩
end Go.Proofs.Ytfmgkinindkedaa
