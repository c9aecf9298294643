/- Joined texts: DrawExpr. -/
import Derived.Test.YtkacelpndeoogaaQPM
/- Drawing expressions. -/
namespace Go.Proofs.Ytkacelpndeoogaa
open Go.RowKit
attribute [local go_sem ↓] execOp_ldE execOp_stE

def QueryD (d : Nat) : Prop := ∀ (L : Nat) (c : Cu) (τ : Tau) (W : World), DS L c τ τ W W → Calls Try.prog 152 #[.pointer (some ⟨c.C, 0, none⟩), .int .i64 (d : Int)] W (RowD .queries (3 + 6 * We d) L c τ W)
theorem GoodRow.six {τ : Tau} {S : Nat} {ys : List Value} {N : Nat} (h : GoodRow τ S .queries ys N) : ∃ (q0 : Bool) (a1 : Option Addr) (n1 p1 : Nat) (a2 : Option Addr) (n2 p2 : Nat) (a3 : Option Addr) (n3 p3 : Nat) (a4 : Option Addr) (n4 p4 : Nat) (q5 : Int), ys = [.bool q0, .slice a1 n1 p1, .slice a2 n2 p2, .slice a3 n3 p3, .slice a4 n4 p4, .int .i64 q5] := by
  have hl : ys.length = 6 := h.len
  obtain ⟨y0, z0, n0, rfl⟩ := h.cell 0 (by decide)
  obtain ⟨y1, z1, g1⟩ := h.cell 1 (by decide)
  obtain ⟨y2, z2, g2⟩ := h.cell 2 (by decide)
  obtain ⟨y3, z3, g3⟩ := h.cell 3 (by decide)
  obtain ⟨y4, z4, g4⟩ := h.cell 4 (by decide)
  obtain ⟨y5, z5, n5, rfl, b5⟩ := h.cell 5 (by decide)
  obtain ⟨a1, m1, p1, rfl⟩ := GoodV.slice (ty := .items) rfl g1
  obtain ⟨a2, m2, p2, rfl⟩ := GoodV.slice (ty := .sources) rfl g2
  obtain ⟨a3, m3, p3, rfl⟩ := GoodV.slice (ty := .exprs) rfl g3
  obtain ⟨a4, m4, p4, rfl⟩ := GoodV.slice (ty := .keys) rfl g4
  match ys, hl with
  | [v0, v1, v2, v3, v4, v5], _ =>
    simp only [List.getElem?_cons_zero, List.getElem?_cons_succ, Option.some.injEq] at z0 z1 z2 z3 z4 z5
    subst z0; subst z1; subst z2; subst z3; subst z4; subst z5
    exact ⟨_, _, _, _, _, _, _, _, _, _, _, _, _, _, rfl⟩
/-- one row in a new block, told from now on -/
theorem DS.adopt1 {L N : Nat} {c : Cu} {τ0 τ : Tau} {W0 W : World} {ty : Ty} {ys : List Value} (H : DS L c τ0 τ W0 W) (ht : tree ty = true) (hy : GoodRow τ 1000 ty ys N) :
    DS L c τ0 (tupd τ W.heap.size (ty, 1, [N])) W0 (W.alloc (.cells ys.toArray (elemT ty))) ∧ GoodV (tupd τ W.heap.size (ty, 1, [N])) 1000 ty (.slice (some ⟨W.heap.size, 0, none⟩) 1 1) ∧ slw (tupd τ W.heap.size (ty, 1, [N])) (.slice (some ⟨W.heap.size, 0, none⟩) 1 1) = N ∧ TLe τ (tupd τ W.heap.size (ty, 1, [N])) := by
  have hn : τ W.heap.size = none := H.inv.fresh (Nat.le_refl _)
  have H1 := H.alloc (.cells ys.toArray (elemT ty))
  have hs := H.size
  have hi := H.hi
  refine ⟨⟨H1.cur, H1.inv.adopt hn (by omega) ht (Nat.le_refl _) (by unfold maxLen; omega) ys (heap_alloc_new W _) (by rw [Nat.one_mul]; exact hy.len) (fun i hi' => ?_), H1.grown, H1.le.trans (TLe.tupd hn), fun g hg => (tupd_other (by omega)).trans (H1.same g hg), H.lo, H.hi⟩, ?_, ?_, TLe.tupd hn⟩
  · obtain rfl : i = 0 := by simpa using hi'
    have e : rowAt (rowTy ty).length ys 0 = ys := by unfold rowAt; rw [Nat.zero_mul, List.drop_zero, ← hy.len, List.take_length]
    rw [e]
    exact hy
  · cases ty <;> first | exact .inr ⟨_, 1, 1, [N], rfl, tupd_same _ _ _, Nat.le_refl _, Nat.le_refl _⟩ | cases ht
  · rw [slw_block (tupd_same _ _ _)]; rfl
theorem Bx.adopt {τ : Tau} {W0 W : World} {b : Nat} {T : TypeId} {arr : Array Value} (R : Bx τ W0 W b T arr) (x : Blk) (ob : Obj) : Bx (tupd τ W.heap.size x) W0 (W.alloc ob) b T arr :=
  ⟨R.row.alloc ob, (tupd_other (by have := R.row.lt; omega)).trans R.free, R.hi⟩
set_option maxRecDepth 100000 in
set_option maxHeartbeats 8000000 in
theorem expr_zero : ExprD 0 := by
  intro L c τ W H
  have hWC := H.ltC
  have R0 := Bx.new H 29 #[.int .i64 0, .int .i64 0, .bool false, .int .i64 0, .int .i64 0, .string ⟨#[]⟩, .string ⟨#[]⟩, .string ⟨#[]⟩, .slice none 0 0, .slice none 0 0]
  replace H := H.alloc (.cells #[.int .i64 0, .int .i64 0, .bool false, .int .i64 0, .int .i64 0, .string ⟨#[]⟩, .string ⟨#[]⟩, .string ⟨#[]⟩, .slice none 0 0, .slice none 0 0] 29)
  obtain ⟨NN, hNN⟩ : ∃ NN, NN = We 0 := ⟨_, rfl⟩
  rw [← hNN]
  replace hNN : 1 ≤ NN := by rw [hNN]; exact Nat.le_refl _
  go_enter Try.func85, Try.ntmps85
  go_wp2_with fail
  generalize W.alloc (.cells #[.int .i64 0, .int .i64 0, .bool false, .int .i64 0, .int .i64 0, .string ⟨#[]⟩, .string ⟨#[]⟩, .string ⟨#[]⟩, .slice none 0 0, .slice none 0 0] 29) = W1 at R0 H ⊢
  refine (once_any 2 c.B c.C c.a c.len c.cap _ H.cur (by omega) (by omega)).mono ?_
  rintro e W2 ⟨x, rfl, hc, hg⟩
  replace R0 := R0.drawC H hg
  replace H := H.draw hc hg
  clear hc hg
  cases x
  · go_wp2_with fail
    refine (value7_any c.B c.C c.a c.len c.cap _ H.cur).mono ?_
    rintro e Wc ⟨vk, vn, vt, ⟨t0, t1, t2, t3, t4⟩, rfl, hc, hg⟩
    replace R0 := R0.drawC H hg
    replace H := H.draw hc hg
    clear hc hg
    have HF := finE H R0 (ys := [.int .i64 1, .int .i64 0, .bool false, .int .i64 vk, .int .i64 vn, .string vt, .string ⟨#[]⟩, .string ⟨#[]⟩, .slice none 0 0, .slice none 0 0]) (N := NN) (GoodRow.mk10 (by decide) (by decide) ⟨t3, t4⟩ ⟨t1, t2⟩ (by omega) (by decide) (by decide) (GoodV.nil _ _ rfl) (GoodV.nil _ _ rfl) (by simp [slw]; omega))
    have hb := R0.row.setRow [.int .i64 1, .int .i64 0, .bool false, .int .i64 vk, .int .i64 vn, .string vt, .string ⟨#[]⟩, .string ⟨#[]⟩, .slice none 0 0, .slice none 0 0].toArray
    have st := stE_row (ys := [.int .i64 1, .int .i64 0, .bool false, .int .i64 vk, .int .i64 vn, .string vt, .string ⟨#[]⟩, .string ⟨#[]⟩, .slice none 0 0, .slice none 0 0]) R0.row rfl rfl rfl
    go_wp2_with fail
    generalize Wc.setRow W.heap.size [.int .i64 1, .int .i64 0, .bool false, .int .i64 vk, .int .i64 vn, .string vt, .string ⟨#[]⟩, .string ⟨#[]⟩, .slice none 0 0, .slice none 0 0].toArray = wf at hb HF ⊢
    have f0 := hb.cell (i := 0) (v := .int .i64 1) rfl
    have f1 := hb.cell (i := 1) (v := .int .i64 0) rfl
    have f2 := hb.cell (i := 2) (v := .bool false) rfl
    have f3 := hb.cell (i := 3) (v := .int .i64 vk) rfl
    have f4 := hb.cell (i := 4) (v := .int .i64 vn) rfl
    have f5 := hb.cell (i := 5) (v := .string vt) rfl
    have f6 := hb.cell (i := 6) (v := .string ⟨#[]⟩) rfl
    have f7 := hb.cell (i := 7) (v := .string ⟨#[]⟩) rfl
    have f8 := hb.cell (i := 8) (v := .slice none 0 0) rfl
    have f9 := hb.cell (i := 9) (v := .slice none 0 0) rfl
    refine bodyPost_ret (v := .agg #[.int .i64 1, .int .i64 0, .bool false, .int .i64 vk, .int .i64 vn, .string vt, .string ⟨#[]⟩, .string ⟨#[]⟩, .slice none 0 0, .slice none 0 0]) (by simp [results, Try.results85, go_sem, f0, f1, f2, f3, f4, f5, f6, f7, f8, f9]) rfl ?_
    exact HF
  · go_wp2_with fail
    refine (col_any c.B c.C c.a c.len c.cap _ H.cur).mono ?_
    rintro e Wc ⟨s6, s7, h6, h7, rfl, hc, hg⟩
    replace R0 := R0.drawC H hg
    replace H := H.draw hc hg
    clear hc hg
    have HF := finE H R0 (ys := [.int .i64 2, .int .i64 0, .bool false, .int .i64 0, .int .i64 0, .string ⟨#[]⟩, .string s6, .string s7, .slice none 0 0, .slice none 0 0]) (N := NN) (GoodRow.mk10 (by decide) (by decide) (by decide) (by decide) (by decide) (by omega) (by omega) (GoodV.nil _ _ rfl) (GoodV.nil _ _ rfl) (by simp [slw]; omega))
    have hb := R0.row.setRow [.int .i64 2, .int .i64 0, .bool false, .int .i64 0, .int .i64 0, .string ⟨#[]⟩, .string s6, .string s7, .slice none 0 0, .slice none 0 0].toArray
    have st := stE_row (ys := [.int .i64 2, .int .i64 0, .bool false, .int .i64 0, .int .i64 0, .string ⟨#[]⟩, .string s6, .string s7, .slice none 0 0, .slice none 0 0]) R0.row rfl rfl rfl
    go_wp2_with fail
    generalize Wc.setRow W.heap.size [.int .i64 2, .int .i64 0, .bool false, .int .i64 0, .int .i64 0, .string ⟨#[]⟩, .string s6, .string s7, .slice none 0 0, .slice none 0 0].toArray = wf at hb HF ⊢
    have f0 := hb.cell (i := 0) (v := .int .i64 2) rfl
    have f1 := hb.cell (i := 1) (v := .int .i64 0) rfl
    have f2 := hb.cell (i := 2) (v := .bool false) rfl
    have f3 := hb.cell (i := 3) (v := .int .i64 0) rfl
    have f4 := hb.cell (i := 4) (v := .int .i64 0) rfl
    have f5 := hb.cell (i := 5) (v := .string ⟨#[]⟩) rfl
    have f6 := hb.cell (i := 6) (v := .string s6) rfl
    have f7 := hb.cell (i := 7) (v := .string s7) rfl
    have f8 := hb.cell (i := 8) (v := .slice none 0 0) rfl
    have f9 := hb.cell (i := 9) (v := .slice none 0 0) rfl
    refine bodyPost_ret (v := .agg #[.int .i64 2, .int .i64 0, .bool false, .int .i64 0, .int .i64 0, .string ⟨#[]⟩, .string s6, .string s7, .slice none 0 0, .slice none 0 0]) (by simp [results, Try.results85, go_sem, f0, f1, f2, f3, f4, f5, f6, f7, f8, f9]) rfl ?_
    exact HF
set_option maxRecDepth 100000 in
set_option maxHeartbeats 16000000 in
theorem expr_step (d : Nat) (hd : d ≤ 90) (HK : ∀ n, 1 ≤ n → n ≤ 3 → KidsD d n) (HQ : ∀ d', d = d' + 1 → QueryD d') : ExprD (d + 1) := by
  intro L c τ W H
  have hWC := H.ltC
  have R0 := Bx.new H 29 #[.int .i64 0, .int .i64 0, .bool false, .int .i64 0, .int .i64 0, .string ⟨#[]⟩, .string ⟨#[]⟩, .string ⟨#[]⟩, .slice none 0 0, .slice none 0 0]
  replace H := H.alloc (.cells #[.int .i64 0, .int .i64 0, .bool false, .int .i64 0, .int .i64 0, .string ⟨#[]⟩, .string ⟨#[]⟩, .string ⟨#[]⟩, .slice none 0 0, .slice none 0 0] 29)
  obtain ⟨NN, hNN⟩ : ∃ NN, NN = We (d + 1) := ⟨_, rfl⟩
  rw [← hNN]
  replace hNN : NN = 2 + 3 * We d := hNN
  have hWd := We_pos d
  rw [show ((d + 1 : Nat) : Int) = (d : Int) + 1 by omega]
  have hdp : decide ((d : Int) + 1 ≤ 0) = false := decide_eq_false (by omega)
  go_enter Try.func85, Try.ntmps85
  go_wp2_with fail
  generalize W.alloc (.cells #[.int .i64 0, .int .i64 0, .bool false, .int .i64 0, .int .i64 0, .string ⟨#[]⟩, .string ⟨#[]⟩, .string ⟨#[]⟩, .slice none 0 0, .slice none 0 0] 29) = W1 at R0 H ⊢
  refine (once_any 5 c.B c.C c.a c.len c.cap _ H.cur (by omega) (by omega)).mono ?_
  rintro e W2 ⟨x, rfl, hc, hg⟩
  replace R0 := R0.drawC H hg
  replace H := H.draw hc hg
  clear hc hg
  cases x
  · go_wp2_with fail
    refine (below_any 12 c.B c.C c.a c.len c.cap _ H.cur (by omega) (by omega)).mono ?_
    rintro e W3 ⟨x, hx0, hx1, rfl, hc, hg⟩
    replace R0 := R0.drawC H hg
    replace H := H.draw hc hg
    clear hc hg
    by_cases h0 : x = 0
    · subst h0
      go_wp2_with fail
      refine (HK 1 (by omega) (by omega) L c _ _ H.here).mono ?_
      rintro e Wc ⟨τWc, g, cp, rfl, hg8, hw8, K⟩
      replace R0 := R0.call H K
      replace H := H.call K
      clear K
      have HF := finE H R0 (ys := [.int .i64 3, .int .i64 15, .bool false, .int .i64 0, .int .i64 0, .string ⟨#[]⟩, .string ⟨#[]⟩, .string ⟨#[]⟩, .slice (some ⟨g, 0, none⟩) 1 cp, .slice none 0 0]) (N := NN) (GoodRow.mk10 (by decide) (by decide) (by decide) (by decide) (by decide) (by decide) (by decide) hg8 (GoodV.nil _ _ rfl) (by show 1 + (slw _ (.slice (some ⟨g, 0, none⟩) 1 cp) + 0) ≤ _; omega))
      have hb := R0.row.setRow [.int .i64 3, .int .i64 15, .bool false, .int .i64 0, .int .i64 0, .string ⟨#[]⟩, .string ⟨#[]⟩, .string ⟨#[]⟩, .slice (some ⟨g, 0, none⟩) 1 cp, .slice none 0 0].toArray
      have st := stE_row (ys := [.int .i64 3, .int .i64 15, .bool false, .int .i64 0, .int .i64 0, .string ⟨#[]⟩, .string ⟨#[]⟩, .string ⟨#[]⟩, .slice (some ⟨g, 0, none⟩) 1 cp, .slice none 0 0]) R0.row rfl rfl rfl
      go_wp2_with fail
      generalize Wc.setRow W.heap.size [.int .i64 3, .int .i64 15, .bool false, .int .i64 0, .int .i64 0, .string ⟨#[]⟩, .string ⟨#[]⟩, .string ⟨#[]⟩, .slice (some ⟨g, 0, none⟩) 1 cp, .slice none 0 0].toArray = wf at hb HF ⊢
      have f0 := hb.cell (i := 0) (v := .int .i64 3) rfl
      have f1 := hb.cell (i := 1) (v := .int .i64 15) rfl
      have f2 := hb.cell (i := 2) (v := .bool false) rfl
      have f3 := hb.cell (i := 3) (v := .int .i64 0) rfl
      have f4 := hb.cell (i := 4) (v := .int .i64 0) rfl
      have f5 := hb.cell (i := 5) (v := .string ⟨#[]⟩) rfl
      have f6 := hb.cell (i := 6) (v := .string ⟨#[]⟩) rfl
      have f7 := hb.cell (i := 7) (v := .string ⟨#[]⟩) rfl
      have f8 := hb.cell (i := 8) (v := .slice (some ⟨g, 0, none⟩) 1 cp) rfl
      have f9 := hb.cell (i := 9) (v := .slice none 0 0) rfl
      refine bodyPost_ret (v := .agg #[.int .i64 3, .int .i64 15, .bool false, .int .i64 0, .int .i64 0, .string ⟨#[]⟩, .string ⟨#[]⟩, .string ⟨#[]⟩, .slice (some ⟨g, 0, none⟩) 1 cp, .slice none 0 0]) (by simp [results, Try.results85, go_sem, f0, f1, f2, f3, f4, f5, f6, f7, f8, f9]) rfl ?_
      exact HF
    have q0 : (x == 0) = false := by simpa using h0
    by_cases h1 : x = 1
    · subst h1
      go_wp2_with fail
      refine (HK 1 (by omega) (by omega) L c _ _ H.here).mono ?_
      rintro e Wc ⟨τWc, g, cp, rfl, hg8, hw8, K⟩
      replace R0 := R0.call H K
      replace H := H.call K
      clear K
      have HF := finE H R0 (ys := [.int .i64 3, .int .i64 16, .bool false, .int .i64 0, .int .i64 0, .string ⟨#[]⟩, .string ⟨#[]⟩, .string ⟨#[]⟩, .slice (some ⟨g, 0, none⟩) 1 cp, .slice none 0 0]) (N := NN) (GoodRow.mk10 (by decide) (by decide) (by decide) (by decide) (by decide) (by decide) (by decide) hg8 (GoodV.nil _ _ rfl) (by show 1 + (slw _ (.slice (some ⟨g, 0, none⟩) 1 cp) + 0) ≤ _; omega))
      have hb := R0.row.setRow [.int .i64 3, .int .i64 16, .bool false, .int .i64 0, .int .i64 0, .string ⟨#[]⟩, .string ⟨#[]⟩, .string ⟨#[]⟩, .slice (some ⟨g, 0, none⟩) 1 cp, .slice none 0 0].toArray
      have st := stE_row (ys := [.int .i64 3, .int .i64 16, .bool false, .int .i64 0, .int .i64 0, .string ⟨#[]⟩, .string ⟨#[]⟩, .string ⟨#[]⟩, .slice (some ⟨g, 0, none⟩) 1 cp, .slice none 0 0]) R0.row rfl rfl rfl
      go_wp2_with fail
      generalize Wc.setRow W.heap.size [.int .i64 3, .int .i64 16, .bool false, .int .i64 0, .int .i64 0, .string ⟨#[]⟩, .string ⟨#[]⟩, .string ⟨#[]⟩, .slice (some ⟨g, 0, none⟩) 1 cp, .slice none 0 0].toArray = wf at hb HF ⊢
      have f0 := hb.cell (i := 0) (v := .int .i64 3) rfl
      have f1 := hb.cell (i := 1) (v := .int .i64 16) rfl
      have f2 := hb.cell (i := 2) (v := .bool false) rfl
      have f3 := hb.cell (i := 3) (v := .int .i64 0) rfl
      have f4 := hb.cell (i := 4) (v := .int .i64 0) rfl
      have f5 := hb.cell (i := 5) (v := .string ⟨#[]⟩) rfl
      have f6 := hb.cell (i := 6) (v := .string ⟨#[]⟩) rfl
      have f7 := hb.cell (i := 7) (v := .string ⟨#[]⟩) rfl
      have f8 := hb.cell (i := 8) (v := .slice (some ⟨g, 0, none⟩) 1 cp) rfl
      have f9 := hb.cell (i := 9) (v := .slice none 0 0) rfl
      refine bodyPost_ret (v := .agg #[.int .i64 3, .int .i64 16, .bool false, .int .i64 0, .int .i64 0, .string ⟨#[]⟩, .string ⟨#[]⟩, .string ⟨#[]⟩, .slice (some ⟨g, 0, none⟩) 1 cp, .slice none 0 0]) (by simp [results, Try.results85, go_sem, f0, f1, f2, f3, f4, f5, f6, f7, f8, f9]) rfl ?_
      exact HF
    have q1 : (x == 1) = false := by simpa using h1
    by_cases h2 : x = 2
    · subst h2
      go_wp2_with fail
      refine (once_any 2 c.B c.C c.a c.len c.cap _ H.cur (by omega) (by omega)).mono ?_
      rintro e W4 ⟨nt, rfl, hc, hg⟩
      replace R0 := R0.drawC H hg
      replace H := H.draw hc hg
      clear hc hg
      go_wp2_with fail
      refine (HK 1 (by omega) (by omega) L c _ _ H.here).mono ?_
      rintro e Wc ⟨τWc, g, cp, rfl, hg8, hw8, K⟩
      replace R0 := R0.call H K
      replace H := H.call K
      clear K
      have HF := finE H R0 (ys := [.int .i64 5, .int .i64 0, .bool nt, .int .i64 0, .int .i64 0, .string ⟨#[]⟩, .string ⟨#[]⟩, .string ⟨#[]⟩, .slice (some ⟨g, 0, none⟩) 1 cp, .slice none 0 0]) (N := NN) (GoodRow.mk10 (by decide) (by decide) (by decide) (by decide) (by decide) (by decide) (by decide) hg8 (GoodV.nil _ _ rfl) (by show 1 + (slw _ (.slice (some ⟨g, 0, none⟩) 1 cp) + 0) ≤ _; omega))
      have hb := R0.row.setRow [.int .i64 5, .int .i64 0, .bool nt, .int .i64 0, .int .i64 0, .string ⟨#[]⟩, .string ⟨#[]⟩, .string ⟨#[]⟩, .slice (some ⟨g, 0, none⟩) 1 cp, .slice none 0 0].toArray
      have st := stE_row (ys := [.int .i64 5, .int .i64 0, .bool nt, .int .i64 0, .int .i64 0, .string ⟨#[]⟩, .string ⟨#[]⟩, .string ⟨#[]⟩, .slice (some ⟨g, 0, none⟩) 1 cp, .slice none 0 0]) R0.row rfl rfl rfl
      go_wp2_with fail
      generalize Wc.setRow W.heap.size [.int .i64 5, .int .i64 0, .bool nt, .int .i64 0, .int .i64 0, .string ⟨#[]⟩, .string ⟨#[]⟩, .string ⟨#[]⟩, .slice (some ⟨g, 0, none⟩) 1 cp, .slice none 0 0].toArray = wf at hb HF ⊢
      have f0 := hb.cell (i := 0) (v := .int .i64 5) rfl
      have f1 := hb.cell (i := 1) (v := .int .i64 0) rfl
      have f2 := hb.cell (i := 2) (v := .bool nt) rfl
      have f3 := hb.cell (i := 3) (v := .int .i64 0) rfl
      have f4 := hb.cell (i := 4) (v := .int .i64 0) rfl
      have f5 := hb.cell (i := 5) (v := .string ⟨#[]⟩) rfl
      have f6 := hb.cell (i := 6) (v := .string ⟨#[]⟩) rfl
      have f7 := hb.cell (i := 7) (v := .string ⟨#[]⟩) rfl
      have f8 := hb.cell (i := 8) (v := .slice (some ⟨g, 0, none⟩) 1 cp) rfl
      have f9 := hb.cell (i := 9) (v := .slice none 0 0) rfl
      refine bodyPost_ret (v := .agg #[.int .i64 5, .int .i64 0, .bool nt, .int .i64 0, .int .i64 0, .string ⟨#[]⟩, .string ⟨#[]⟩, .string ⟨#[]⟩, .slice (some ⟨g, 0, none⟩) 1 cp, .slice none 0 0]) (by simp [results, Try.results85, go_sem, f0, f1, f2, f3, f4, f5, f6, f7, f8, f9]) rfl ?_
      exact HF
    have q2 : (x == 2) = false := by simpa using h2
    by_cases h3 : x = 3
    · subst h3
      go_wp2_with fail
      refine (once_any 2 c.B c.C c.a c.len c.cap _ H.cur (by omega) (by omega)).mono ?_
      rintro e W4 ⟨nt, rfl, hc, hg⟩
      replace R0 := R0.drawC H hg
      replace H := H.draw hc hg
      clear hc hg
      go_wp2_with fail
      refine (HK 3 (by omega) (by omega) L c _ _ H.here).mono ?_
      rintro e Wc ⟨τWc, g, cp, rfl, hg8, hw8, K⟩
      replace R0 := R0.call H K
      replace H := H.call K
      clear K
      have HF := finE H R0 (ys := [.int .i64 6, .int .i64 0, .bool nt, .int .i64 0, .int .i64 0, .string ⟨#[]⟩, .string ⟨#[]⟩, .string ⟨#[]⟩, .slice (some ⟨g, 0, none⟩) 3 cp, .slice none 0 0]) (N := NN) (GoodRow.mk10 (by decide) (by decide) (by decide) (by decide) (by decide) (by decide) (by decide) hg8 (GoodV.nil _ _ rfl) (by show 1 + (slw _ (.slice (some ⟨g, 0, none⟩) 3 cp) + 0) ≤ _; omega))
      have hb := R0.row.setRow [.int .i64 6, .int .i64 0, .bool nt, .int .i64 0, .int .i64 0, .string ⟨#[]⟩, .string ⟨#[]⟩, .string ⟨#[]⟩, .slice (some ⟨g, 0, none⟩) 3 cp, .slice none 0 0].toArray
      have st := stE_row (ys := [.int .i64 6, .int .i64 0, .bool nt, .int .i64 0, .int .i64 0, .string ⟨#[]⟩, .string ⟨#[]⟩, .string ⟨#[]⟩, .slice (some ⟨g, 0, none⟩) 3 cp, .slice none 0 0]) R0.row rfl rfl rfl
      go_wp2_with fail
      generalize Wc.setRow W.heap.size [.int .i64 6, .int .i64 0, .bool nt, .int .i64 0, .int .i64 0, .string ⟨#[]⟩, .string ⟨#[]⟩, .string ⟨#[]⟩, .slice (some ⟨g, 0, none⟩) 3 cp, .slice none 0 0].toArray = wf at hb HF ⊢
      have f0 := hb.cell (i := 0) (v := .int .i64 6) rfl
      have f1 := hb.cell (i := 1) (v := .int .i64 0) rfl
      have f2 := hb.cell (i := 2) (v := .bool nt) rfl
      have f3 := hb.cell (i := 3) (v := .int .i64 0) rfl
      have f4 := hb.cell (i := 4) (v := .int .i64 0) rfl
      have f5 := hb.cell (i := 5) (v := .string ⟨#[]⟩) rfl
      have f6 := hb.cell (i := 6) (v := .string ⟨#[]⟩) rfl
      have f7 := hb.cell (i := 7) (v := .string ⟨#[]⟩) rfl
      have f8 := hb.cell (i := 8) (v := .slice (some ⟨g, 0, none⟩) 3 cp) rfl
      have f9 := hb.cell (i := 9) (v := .slice none 0 0) rfl
      refine bodyPost_ret (v := .agg #[.int .i64 6, .int .i64 0, .bool nt, .int .i64 0, .int .i64 0, .string ⟨#[]⟩, .string ⟨#[]⟩, .string ⟨#[]⟩, .slice (some ⟨g, 0, none⟩) 3 cp, .slice none 0 0]) (by simp [results, Try.results85, go_sem, f0, f1, f2, f3, f4, f5, f6, f7, f8, f9]) rfl ?_
      exact HF
    have q3 : (x == 3) = false := by simpa using h3
    by_cases h4 : x = 4
    · subst h4
      go_wp2_with fail
      refine (once_any 2 c.B c.C c.a c.len c.cap _ H.cur (by omega) (by omega)).mono ?_
      rintro e W4 ⟨nt, rfl, hc, hg⟩
      replace R0 := R0.drawC H hg
      replace H := H.draw hc hg
      clear hc hg
      go_wp2_with fail
      refine (below_any 2 c.B c.C c.a c.len c.cap _ H.cur (by omega) (by omega)).mono ?_
      rintro e W5 ⟨m, hm0, hm1, rfl, hc, hg⟩
      replace R0 := R0.drawC H hg
      replace H := H.draw hc hg
      clear hc hg
      have hm : m = 0 ∨ m = 1 := by omega
      rcases hm with rfl | rfl
      · go_wp2_with fail
        refine (HK 2 (by omega) (by omega) L c _ _ H.here).mono ?_
        rintro e Wc ⟨τWc, g, cp, rfl, hg8, hw8, K⟩
        replace R0 := R0.call H K
        replace H := H.call K
        clear K
        have HF := finE H R0 (ys := [.int .i64 7, .int .i64 0, .bool nt, .int .i64 0, .int .i64 0, .string ⟨#[]⟩, .string ⟨#[]⟩, .string ⟨#[]⟩, .slice (some ⟨g, 0, none⟩) 2 cp, .slice none 0 0]) (N := NN) (GoodRow.mk10 (by decide) (by decide) (by decide) (by decide) (by decide) (by decide) (by decide) hg8 (GoodV.nil _ _ rfl) (by show 1 + (slw _ (.slice (some ⟨g, 0, none⟩) 2 cp) + 0) ≤ _; omega))
        have hb := R0.row.setRow [.int .i64 7, .int .i64 0, .bool nt, .int .i64 0, .int .i64 0, .string ⟨#[]⟩, .string ⟨#[]⟩, .string ⟨#[]⟩, .slice (some ⟨g, 0, none⟩) 2 cp, .slice none 0 0].toArray
        have st := stE_row (ys := [.int .i64 7, .int .i64 0, .bool nt, .int .i64 0, .int .i64 0, .string ⟨#[]⟩, .string ⟨#[]⟩, .string ⟨#[]⟩, .slice (some ⟨g, 0, none⟩) 2 cp, .slice none 0 0]) R0.row rfl rfl rfl
        go_wp2_with fail
        generalize Wc.setRow W.heap.size [.int .i64 7, .int .i64 0, .bool nt, .int .i64 0, .int .i64 0, .string ⟨#[]⟩, .string ⟨#[]⟩, .string ⟨#[]⟩, .slice (some ⟨g, 0, none⟩) 2 cp, .slice none 0 0].toArray = wf at hb HF ⊢
        have f0 := hb.cell (i := 0) (v := .int .i64 7) rfl
        have f1 := hb.cell (i := 1) (v := .int .i64 0) rfl
        have f2 := hb.cell (i := 2) (v := .bool nt) rfl
        have f3 := hb.cell (i := 3) (v := .int .i64 0) rfl
        have f4 := hb.cell (i := 4) (v := .int .i64 0) rfl
        have f5 := hb.cell (i := 5) (v := .string ⟨#[]⟩) rfl
        have f6 := hb.cell (i := 6) (v := .string ⟨#[]⟩) rfl
        have f7 := hb.cell (i := 7) (v := .string ⟨#[]⟩) rfl
        have f8 := hb.cell (i := 8) (v := .slice (some ⟨g, 0, none⟩) 2 cp) rfl
        have f9 := hb.cell (i := 9) (v := .slice none 0 0) rfl
        refine bodyPost_ret (v := .agg #[.int .i64 7, .int .i64 0, .bool nt, .int .i64 0, .int .i64 0, .string ⟨#[]⟩, .string ⟨#[]⟩, .string ⟨#[]⟩, .slice (some ⟨g, 0, none⟩) 2 cp, .slice none 0 0]) (by simp [results, Try.results85, go_sem, f0, f1, f2, f3, f4, f5, f6, f7, f8, f9]) rfl ?_
        exact HF
      · go_wp2_with fail
        refine (HK 3 (by omega) (by omega) L c _ _ H.here).mono ?_
        rintro e Wc ⟨τWc, g, cp, rfl, hg8, hw8, K⟩
        replace R0 := R0.call H K
        replace H := H.call K
        clear K
        have HF := finE H R0 (ys := [.int .i64 7, .int .i64 0, .bool nt, .int .i64 0, .int .i64 0, .string ⟨#[]⟩, .string ⟨#[]⟩, .string ⟨#[]⟩, .slice (some ⟨g, 0, none⟩) 3 cp, .slice none 0 0]) (N := NN) (GoodRow.mk10 (by decide) (by decide) (by decide) (by decide) (by decide) (by decide) (by decide) hg8 (GoodV.nil _ _ rfl) (by show 1 + (slw _ (.slice (some ⟨g, 0, none⟩) 3 cp) + 0) ≤ _; omega))
        have hb := R0.row.setRow [.int .i64 7, .int .i64 0, .bool nt, .int .i64 0, .int .i64 0, .string ⟨#[]⟩, .string ⟨#[]⟩, .string ⟨#[]⟩, .slice (some ⟨g, 0, none⟩) 3 cp, .slice none 0 0].toArray
        have st := stE_row (ys := [.int .i64 7, .int .i64 0, .bool nt, .int .i64 0, .int .i64 0, .string ⟨#[]⟩, .string ⟨#[]⟩, .string ⟨#[]⟩, .slice (some ⟨g, 0, none⟩) 3 cp, .slice none 0 0]) R0.row rfl rfl rfl
        go_wp2_with fail
        generalize Wc.setRow W.heap.size [.int .i64 7, .int .i64 0, .bool nt, .int .i64 0, .int .i64 0, .string ⟨#[]⟩, .string ⟨#[]⟩, .string ⟨#[]⟩, .slice (some ⟨g, 0, none⟩) 3 cp, .slice none 0 0].toArray = wf at hb HF ⊢
        have f0 := hb.cell (i := 0) (v := .int .i64 7) rfl
        have f1 := hb.cell (i := 1) (v := .int .i64 0) rfl
        have f2 := hb.cell (i := 2) (v := .bool nt) rfl
        have f3 := hb.cell (i := 3) (v := .int .i64 0) rfl
        have f4 := hb.cell (i := 4) (v := .int .i64 0) rfl
        have f5 := hb.cell (i := 5) (v := .string ⟨#[]⟩) rfl
        have f6 := hb.cell (i := 6) (v := .string ⟨#[]⟩) rfl
        have f7 := hb.cell (i := 7) (v := .string ⟨#[]⟩) rfl
        have f8 := hb.cell (i := 8) (v := .slice (some ⟨g, 0, none⟩) 3 cp) rfl
        have f9 := hb.cell (i := 9) (v := .slice none 0 0) rfl
        refine bodyPost_ret (v := .agg #[.int .i64 7, .int .i64 0, .bool nt, .int .i64 0, .int .i64 0, .string ⟨#[]⟩, .string ⟨#[]⟩, .string ⟨#[]⟩, .slice (some ⟨g, 0, none⟩) 3 cp, .slice none 0 0]) (by simp [results, Try.results85, go_sem, f0, f1, f2, f3, f4, f5, f6, f7, f8, f9]) rfl ?_
        exact HF
    have q4 : (x == 4) = false := by simpa using h4
    by_cases h5 : x = 5
    · subst h5
      have hcase : d = 0 ∨ ∃ d', d = d' + 1 := by cases d; exact .inl rfl; exact .inr ⟨_, rfl⟩
      rcases hcase with hd0 | ⟨d', rfl⟩
      · have hgt : decide ((1 : Int) < (d : Int) + 1) = false := decide_eq_false (by omega)
        clear hd0
        go_wp2_with fail
        refine (below_any 14 c.B c.C c.a c.len c.cap _ H.cur (by omega) (by omega)).mono ?_
        rintro e W5 ⟨m, hm0, hm1, rfl, hc, hg⟩
        replace R0 := R0.drawC H hg
        replace H := H.draw hc hg
        clear hc hg
        go_wp2_with fail
        refine (HK 2 (by omega) (by omega) L c _ _ H.here).mono ?_
        rintro e Wc ⟨τWc, g, cp, rfl, hg8, hw8, K⟩
        replace R0 := R0.call H K
        replace H := H.call K
        clear K
        have HF := finE H R0 (ys := [.int .i64 4, .int .i64 (1 + m), .bool false, .int .i64 0, .int .i64 0, .string ⟨#[]⟩, .string ⟨#[]⟩, .string ⟨#[]⟩, .slice (some ⟨g, 0, none⟩) 2 cp, .slice none 0 0]) (N := NN) (GoodRow.mk10 (by decide) (by omega) (by decide) (by decide) (by decide) (by decide) (by decide) hg8 (GoodV.nil _ _ rfl) (by show 1 + (slw _ (.slice (some ⟨g, 0, none⟩) 2 cp) + 0) ≤ _; omega))
        have hb := R0.row.setRow [.int .i64 4, .int .i64 (1 + m), .bool false, .int .i64 0, .int .i64 0, .string ⟨#[]⟩, .string ⟨#[]⟩, .string ⟨#[]⟩, .slice (some ⟨g, 0, none⟩) 2 cp, .slice none 0 0].toArray
        have st := stE_row (ys := [.int .i64 4, .int .i64 (1 + m), .bool false, .int .i64 0, .int .i64 0, .string ⟨#[]⟩, .string ⟨#[]⟩, .string ⟨#[]⟩, .slice (some ⟨g, 0, none⟩) 2 cp, .slice none 0 0]) R0.row rfl rfl rfl
        go_wp2_with fail
        generalize Wc.setRow W.heap.size [.int .i64 4, .int .i64 (1 + m), .bool false, .int .i64 0, .int .i64 0, .string ⟨#[]⟩, .string ⟨#[]⟩, .string ⟨#[]⟩, .slice (some ⟨g, 0, none⟩) 2 cp, .slice none 0 0].toArray = wf at hb HF ⊢
        have f0 := hb.cell (i := 0) (v := .int .i64 4) rfl
        have f1 := hb.cell (i := 1) (v := .int .i64 (1 + m)) rfl
        have f2 := hb.cell (i := 2) (v := .bool false) rfl
        have f3 := hb.cell (i := 3) (v := .int .i64 0) rfl
        have f4 := hb.cell (i := 4) (v := .int .i64 0) rfl
        have f5 := hb.cell (i := 5) (v := .string ⟨#[]⟩) rfl
        have f6 := hb.cell (i := 6) (v := .string ⟨#[]⟩) rfl
        have f7 := hb.cell (i := 7) (v := .string ⟨#[]⟩) rfl
        have f8 := hb.cell (i := 8) (v := .slice (some ⟨g, 0, none⟩) 2 cp) rfl
        have f9 := hb.cell (i := 9) (v := .slice none 0 0) rfl
        refine bodyPost_ret (v := .agg #[.int .i64 4, .int .i64 (1 + m), .bool false, .int .i64 0, .int .i64 0, .string ⟨#[]⟩, .string ⟨#[]⟩, .string ⟨#[]⟩, .slice (some ⟨g, 0, none⟩) 2 cp, .slice none 0 0]) (by simp [results, Try.results85, go_sem, f0, f1, f2, f3, f4, f5, f6, f7, f8, f9]) rfl ?_
        exact HF
      · have hgt : decide ((1 : Int) < ((d' + 1 : Nat) : Int) + 1) = true := decide_eq_true (by omega)
        have HK1 : ∀ (L : Nat) (c : Cu) (τ : Tau) (W : World), DS L c τ τ W W → Calls Try.prog 151 #[.pointer (some ⟨c.C, 0, none⟩), .int .i64 ((d' : Int) + 1 + 1), .int .i64 1] W (SlD .exprs 1 (1 * We (d' + 1)) L c τ W) := fun L c τ W H => by
          have h := HK 1 (by omega) (by omega) L c τ W H
          rw [show ((d' + 1 : Nat) : Int) + 1 = (d' : Int) + 1 + 1 by omega] at h
          exact h
        go_wp2_with fail
        refine (once_any 2 c.B c.C c.a c.len c.cap _ H.cur (by omega) (by omega)).mono ?_
        rintro e W4 ⟨nt, rfl, hc, hg⟩
        replace R0 := R0.drawC H hg
        replace H := H.draw hc hg
        clear hc hg
        go_wp2_with fail
        refine (HK1 L c _ _ H.here).mono ?_
        rintro e W5 ⟨τW5, g, cp, rfl, hg8, hw8, K⟩
        replace R0 := R0.call H K
        replace H := H.call K
        clear K
        go_wp2_with fail
        rw [show ((d' : Int) + 1 + 1 - 2) = (d' : Int) by omega]
        refine (HQ d' rfl L c _ _ H.here).mono ?_
        rintro e W6 ⟨τW6, qs, rfl, hq, K⟩
        replace R0 := R0.call H K
        replace hw8 : slw τW6 (.slice (some ⟨g, 0, none⟩) 1 cp) ≤ 1 * We (d' + 1) := by rw [(hg8.le K.le).2]; exact hw8
        replace hg8 := (hg8.le K.le).1
        replace H := H.call K
        clear K
        obtain ⟨q0, a1, n1, p1, a2, n2, p2, a3, n3, p3, a4, n4, p4, q5, rfl⟩ := hq.six
        obtain ⟨H', g9, w9, le9⟩ := H.adopt1 rfl hq
        replace R0 := R0.adopt (.queries, 1, [3 + 6 * We d']) (.cells [.bool q0, .slice a1 n1 p1, .slice a2 n2 p2, .slice a3 n3 p3, .slice a4 n4 p4, .int .i64 q5].toArray (elemT .queries))
        replace hw8 : slw (tupd τW6 W6.heap.size (.queries, 1, [3 + 6 * We d'])) (.slice (some ⟨g, 0, none⟩) 1 cp) ≤ 1 * We (d' + 1) := by rw [(hg8.le le9).2]; exact hw8
        replace hg8 := (hg8.le le9).1
        replace R0 : Bx _ W (W6.alloc (.cells #[.bool q0, .slice a1 n1 p1, .slice a2 n2 p2, .slice a3 n3 p3, .slice a4 n4 p4, .int .i64 q5] 38)) W.heap.size 29 #[.int .i64 0, .int .i64 0, .bool false, .int .i64 0, .int .i64 0, .string ⟨#[]⟩, .string ⟨#[]⟩, .string ⟨#[]⟩, .slice none 0 0, .slice none 0 0] := R0
        clear H hq
        have H : DS L c τ _ W (W6.alloc (.cells #[.bool q0, .slice a1 n1 p1, .slice a2 n2 p2, .slice a3 n3 p3, .slice a4 n4 p4, .int .i64 q5] 38)) := H'
        clear H'
        have h68 : We (d' + 1) = 2 + 3 * We d' := rfl
        have h9b : W6.heap.size = W6.heap.size := rfl
        have HF := finE H R0 (ys := [.int .i64 8, .int .i64 0, .bool nt, .int .i64 0, .int .i64 0, .string ⟨#[]⟩, .string ⟨#[]⟩, .string ⟨#[]⟩, .slice (some ⟨g, 0, none⟩) 1 cp, .slice (some ⟨W6.heap.size, 0, none⟩) 1 1]) (N := NN) (GoodRow.mk10 (by decide) (by decide) (by decide) (by decide) (by decide) (by decide) (by decide) hg8 g9 (by rw [w9]; omega))
        have hb := R0.row.setRow [.int .i64 8, .int .i64 0, .bool nt, .int .i64 0, .int .i64 0, .string ⟨#[]⟩, .string ⟨#[]⟩, .string ⟨#[]⟩, .slice (some ⟨g, 0, none⟩) 1 cp, .slice (some ⟨W6.heap.size, 0, none⟩) 1 1].toArray
        have st := stE_row (ys := [.int .i64 8, .int .i64 0, .bool nt, .int .i64 0, .int .i64 0, .string ⟨#[]⟩, .string ⟨#[]⟩, .string ⟨#[]⟩, .slice (some ⟨g, 0, none⟩) 1 cp, .slice (some ⟨W6.heap.size, 0, none⟩) 1 1]) R0.row rfl rfl rfl
        go_wp2_with fail
        generalize (W6.alloc (.cells #[.bool q0, .slice a1 n1 p1, .slice a2 n2 p2, .slice a3 n3 p3, .slice a4 n4 p4, .int .i64 q5] 38)).setRow W.heap.size [.int .i64 8, .int .i64 0, .bool nt, .int .i64 0, .int .i64 0, .string ⟨#[]⟩, .string ⟨#[]⟩, .string ⟨#[]⟩, .slice (some ⟨g, 0, none⟩) 1 cp, .slice (some ⟨W6.heap.size, 0, none⟩) 1 1].toArray = wf at hb HF ⊢
        have f0 := hb.cell (i := 0) (v := .int .i64 8) rfl
        have f1 := hb.cell (i := 1) (v := .int .i64 0) rfl
        have f2 := hb.cell (i := 2) (v := .bool nt) rfl
        have f3 := hb.cell (i := 3) (v := .int .i64 0) rfl
        have f4 := hb.cell (i := 4) (v := .int .i64 0) rfl
        have f5 := hb.cell (i := 5) (v := .string ⟨#[]⟩) rfl
        have f6 := hb.cell (i := 6) (v := .string ⟨#[]⟩) rfl
        have f7 := hb.cell (i := 7) (v := .string ⟨#[]⟩) rfl
        have f8 := hb.cell (i := 8) (v := .slice (some ⟨g, 0, none⟩) 1 cp) rfl
        have f9 := hb.cell (i := 9) (v := .slice (some ⟨W6.heap.size, 0, none⟩) 1 1) rfl
        refine bodyPost_ret (v := .agg #[.int .i64 8, .int .i64 0, .bool nt, .int .i64 0, .int .i64 0, .string ⟨#[]⟩, .string ⟨#[]⟩, .string ⟨#[]⟩, .slice (some ⟨g, 0, none⟩) 1 cp, .slice (some ⟨W6.heap.size, 0, none⟩) 1 1]) (by simp [results, Try.results85, go_sem, f0, f1, f2, f3, f4, f5, f6, f7, f8, f9]) rfl ?_
        exact HF
    have q5 : (x == 5) = false := by simpa using h5
    by_cases h6 : x = 6
    · subst h6
      have hcase : d = 0 ∨ ∃ d', d = d' + 1 := by cases d; exact .inl rfl; exact .inr ⟨_, rfl⟩
      rcases hcase with hd0 | ⟨d', rfl⟩
      · have hgt : decide ((1 : Int) < (d : Int) + 1) = false := decide_eq_false (by omega)
        clear hd0
        go_wp2_with fail
        refine (below_any 14 c.B c.C c.a c.len c.cap _ H.cur (by omega) (by omega)).mono ?_
        rintro e W5 ⟨m, hm0, hm1, rfl, hc, hg⟩
        replace R0 := R0.drawC H hg
        replace H := H.draw hc hg
        clear hc hg
        go_wp2_with fail
        refine (HK 2 (by omega) (by omega) L c _ _ H.here).mono ?_
        rintro e Wc ⟨τWc, g, cp, rfl, hg8, hw8, K⟩
        replace R0 := R0.call H K
        replace H := H.call K
        clear K
        have HF := finE H R0 (ys := [.int .i64 4, .int .i64 (1 + m), .bool false, .int .i64 0, .int .i64 0, .string ⟨#[]⟩, .string ⟨#[]⟩, .string ⟨#[]⟩, .slice (some ⟨g, 0, none⟩) 2 cp, .slice none 0 0]) (N := NN) (GoodRow.mk10 (by decide) (by omega) (by decide) (by decide) (by decide) (by decide) (by decide) hg8 (GoodV.nil _ _ rfl) (by show 1 + (slw _ (.slice (some ⟨g, 0, none⟩) 2 cp) + 0) ≤ _; omega))
        have hb := R0.row.setRow [.int .i64 4, .int .i64 (1 + m), .bool false, .int .i64 0, .int .i64 0, .string ⟨#[]⟩, .string ⟨#[]⟩, .string ⟨#[]⟩, .slice (some ⟨g, 0, none⟩) 2 cp, .slice none 0 0].toArray
        have st := stE_row (ys := [.int .i64 4, .int .i64 (1 + m), .bool false, .int .i64 0, .int .i64 0, .string ⟨#[]⟩, .string ⟨#[]⟩, .string ⟨#[]⟩, .slice (some ⟨g, 0, none⟩) 2 cp, .slice none 0 0]) R0.row rfl rfl rfl
        go_wp2_with fail
        generalize Wc.setRow W.heap.size [.int .i64 4, .int .i64 (1 + m), .bool false, .int .i64 0, .int .i64 0, .string ⟨#[]⟩, .string ⟨#[]⟩, .string ⟨#[]⟩, .slice (some ⟨g, 0, none⟩) 2 cp, .slice none 0 0].toArray = wf at hb HF ⊢
        have f0 := hb.cell (i := 0) (v := .int .i64 4) rfl
        have f1 := hb.cell (i := 1) (v := .int .i64 (1 + m)) rfl
        have f2 := hb.cell (i := 2) (v := .bool false) rfl
        have f3 := hb.cell (i := 3) (v := .int .i64 0) rfl
        have f4 := hb.cell (i := 4) (v := .int .i64 0) rfl
        have f5 := hb.cell (i := 5) (v := .string ⟨#[]⟩) rfl
        have f6 := hb.cell (i := 6) (v := .string ⟨#[]⟩) rfl
        have f7 := hb.cell (i := 7) (v := .string ⟨#[]⟩) rfl
        have f8 := hb.cell (i := 8) (v := .slice (some ⟨g, 0, none⟩) 2 cp) rfl
        have f9 := hb.cell (i := 9) (v := .slice none 0 0) rfl
        refine bodyPost_ret (v := .agg #[.int .i64 4, .int .i64 (1 + m), .bool false, .int .i64 0, .int .i64 0, .string ⟨#[]⟩, .string ⟨#[]⟩, .string ⟨#[]⟩, .slice (some ⟨g, 0, none⟩) 2 cp, .slice none 0 0]) (by simp [results, Try.results85, go_sem, f0, f1, f2, f3, f4, f5, f6, f7, f8, f9]) rfl ?_
        exact HF
      · have hgt : decide ((1 : Int) < ((d' + 1 : Nat) : Int) + 1) = true := decide_eq_true (by omega)
        go_wp2_with fail
        rw [show ((d' : Int) + 1 + 1 - 2) = (d' : Int) by omega]
        refine (HQ d' rfl L c _ _ H.here).mono ?_
        rintro e W6 ⟨τW6, qs, rfl, hq, K⟩
        replace R0 := R0.call H K
        skip
        replace H := H.call K
        clear K
        obtain ⟨q0, a1, n1, p1, a2, n2, p2, a3, n3, p3, a4, n4, p4, q5, rfl⟩ := hq.six
        obtain ⟨H', g9, w9, le9⟩ := H.adopt1 rfl hq
        replace R0 := R0.adopt (.queries, 1, [3 + 6 * We d']) (.cells [.bool q0, .slice a1 n1 p1, .slice a2 n2 p2, .slice a3 n3 p3, .slice a4 n4 p4, .int .i64 q5].toArray (elemT .queries))
        skip
        replace R0 : Bx _ W (W6.alloc (.cells #[.bool q0, .slice a1 n1 p1, .slice a2 n2 p2, .slice a3 n3 p3, .slice a4 n4 p4, .int .i64 q5] 38)) W.heap.size 29 #[.int .i64 0, .int .i64 0, .bool false, .int .i64 0, .int .i64 0, .string ⟨#[]⟩, .string ⟨#[]⟩, .string ⟨#[]⟩, .slice none 0 0, .slice none 0 0] := R0
        clear H hq
        have H : DS L c τ _ W (W6.alloc (.cells #[.bool q0, .slice a1 n1 p1, .slice a2 n2 p2, .slice a3 n3 p3, .slice a4 n4 p4, .int .i64 q5] 38)) := H'
        clear H'
        have h68 : We (d' + 1) = 2 + 3 * We d' := rfl
        have h9b : W6.heap.size = W6.heap.size := rfl
        have HF := finE H R0 (ys := [.int .i64 9, .int .i64 0, .bool false, .int .i64 0, .int .i64 0, .string ⟨#[]⟩, .string ⟨#[]⟩, .string ⟨#[]⟩, .slice none 0 0, .slice (some ⟨W6.heap.size, 0, none⟩) 1 1]) (N := NN) (GoodRow.mk10 (by decide) (by decide) (by decide) (by decide) (by decide) (by decide) (by decide) (GoodV.nil _ _ rfl) g9 (by rw [w9]; show 1 + (0 + _) ≤ _; omega))
        have hb := R0.row.setRow [.int .i64 9, .int .i64 0, .bool false, .int .i64 0, .int .i64 0, .string ⟨#[]⟩, .string ⟨#[]⟩, .string ⟨#[]⟩, .slice none 0 0, .slice (some ⟨W6.heap.size, 0, none⟩) 1 1].toArray
        have st := stE_row (ys := [.int .i64 9, .int .i64 0, .bool false, .int .i64 0, .int .i64 0, .string ⟨#[]⟩, .string ⟨#[]⟩, .string ⟨#[]⟩, .slice none 0 0, .slice (some ⟨W6.heap.size, 0, none⟩) 1 1]) R0.row rfl rfl rfl
        go_wp2_with fail
        generalize (W6.alloc (.cells #[.bool q0, .slice a1 n1 p1, .slice a2 n2 p2, .slice a3 n3 p3, .slice a4 n4 p4, .int .i64 q5] 38)).setRow W.heap.size [.int .i64 9, .int .i64 0, .bool false, .int .i64 0, .int .i64 0, .string ⟨#[]⟩, .string ⟨#[]⟩, .string ⟨#[]⟩, .slice none 0 0, .slice (some ⟨W6.heap.size, 0, none⟩) 1 1].toArray = wf at hb HF ⊢
        have f0 := hb.cell (i := 0) (v := .int .i64 9) rfl
        have f1 := hb.cell (i := 1) (v := .int .i64 0) rfl
        have f2 := hb.cell (i := 2) (v := .bool false) rfl
        have f3 := hb.cell (i := 3) (v := .int .i64 0) rfl
        have f4 := hb.cell (i := 4) (v := .int .i64 0) rfl
        have f5 := hb.cell (i := 5) (v := .string ⟨#[]⟩) rfl
        have f6 := hb.cell (i := 6) (v := .string ⟨#[]⟩) rfl
        have f7 := hb.cell (i := 7) (v := .string ⟨#[]⟩) rfl
        have f8 := hb.cell (i := 8) (v := .slice none 0 0) rfl
        have f9 := hb.cell (i := 9) (v := .slice (some ⟨W6.heap.size, 0, none⟩) 1 1) rfl
        refine bodyPost_ret (v := .agg #[.int .i64 9, .int .i64 0, .bool false, .int .i64 0, .int .i64 0, .string ⟨#[]⟩, .string ⟨#[]⟩, .string ⟨#[]⟩, .slice none 0 0, .slice (some ⟨W6.heap.size, 0, none⟩) 1 1]) (by simp [results, Try.results85, go_sem, f0, f1, f2, f3, f4, f5, f6, f7, f8, f9]) rfl ?_
        exact HF
    have q6 : (x == 6) = false := by simpa using h6
    go_wp2_with fail
    refine (below_any 14 c.B c.C c.a c.len c.cap _ H.cur (by omega) (by omega)).mono ?_
    rintro e W5 ⟨m, hm0, hm1, rfl, hc, hg⟩
    replace R0 := R0.drawC H hg
    replace H := H.draw hc hg
    clear hc hg
    go_wp2_with fail
    refine (HK 2 (by omega) (by omega) L c _ _ H.here).mono ?_
    rintro e Wc ⟨τWc, g, cp, rfl, hg8, hw8, K⟩
    replace R0 := R0.call H K
    replace H := H.call K
    clear K
    have HF := finE H R0 (ys := [.int .i64 4, .int .i64 (1 + m), .bool false, .int .i64 0, .int .i64 0, .string ⟨#[]⟩, .string ⟨#[]⟩, .string ⟨#[]⟩, .slice (some ⟨g, 0, none⟩) 2 cp, .slice none 0 0]) (N := NN) (GoodRow.mk10 (by decide) (by omega) (by decide) (by decide) (by decide) (by decide) (by decide) hg8 (GoodV.nil _ _ rfl) (by show 1 + (slw _ (.slice (some ⟨g, 0, none⟩) 2 cp) + 0) ≤ _; omega))
    have hb := R0.row.setRow [.int .i64 4, .int .i64 (1 + m), .bool false, .int .i64 0, .int .i64 0, .string ⟨#[]⟩, .string ⟨#[]⟩, .string ⟨#[]⟩, .slice (some ⟨g, 0, none⟩) 2 cp, .slice none 0 0].toArray
    have st := stE_row (ys := [.int .i64 4, .int .i64 (1 + m), .bool false, .int .i64 0, .int .i64 0, .string ⟨#[]⟩, .string ⟨#[]⟩, .string ⟨#[]⟩, .slice (some ⟨g, 0, none⟩) 2 cp, .slice none 0 0]) R0.row rfl rfl rfl
    go_wp2_with fail
    generalize Wc.setRow W.heap.size [.int .i64 4, .int .i64 (1 + m), .bool false, .int .i64 0, .int .i64 0, .string ⟨#[]⟩, .string ⟨#[]⟩, .string ⟨#[]⟩, .slice (some ⟨g, 0, none⟩) 2 cp, .slice none 0 0].toArray = wf at hb HF ⊢
    have f0 := hb.cell (i := 0) (v := .int .i64 4) rfl
    have f1 := hb.cell (i := 1) (v := .int .i64 (1 + m)) rfl
    have f2 := hb.cell (i := 2) (v := .bool false) rfl
    have f3 := hb.cell (i := 3) (v := .int .i64 0) rfl
    have f4 := hb.cell (i := 4) (v := .int .i64 0) rfl
    have f5 := hb.cell (i := 5) (v := .string ⟨#[]⟩) rfl
    have f6 := hb.cell (i := 6) (v := .string ⟨#[]⟩) rfl
    have f7 := hb.cell (i := 7) (v := .string ⟨#[]⟩) rfl
    have f8 := hb.cell (i := 8) (v := .slice (some ⟨g, 0, none⟩) 2 cp) rfl
    have f9 := hb.cell (i := 9) (v := .slice none 0 0) rfl
    refine bodyPost_ret (v := .agg #[.int .i64 4, .int .i64 (1 + m), .bool false, .int .i64 0, .int .i64 0, .string ⟨#[]⟩, .string ⟨#[]⟩, .string ⟨#[]⟩, .slice (some ⟨g, 0, none⟩) 2 cp, .slice none 0 0]) (by simp [results, Try.results85, go_sem, f0, f1, f2, f3, f4, f5, f6, f7, f8, f9]) rfl ?_
    exact HF
  · go_wp2_with fail
    refine (once_any 2 c.B c.C c.a c.len c.cap _ H.cur (by omega) (by omega)).mono ?_
    rintro e W2 ⟨x, rfl, hc, hg⟩
    replace R0 := R0.drawC H hg
    replace H := H.draw hc hg
    clear hc hg
    cases x
    · go_wp2_with fail
      refine (value7_any c.B c.C c.a c.len c.cap _ H.cur).mono ?_
      rintro e Wc ⟨vk, vn, vt, ⟨t0, t1, t2, t3, t4⟩, rfl, hc, hg⟩
      replace R0 := R0.drawC H hg
      replace H := H.draw hc hg
      clear hc hg
      have HF := finE H R0 (ys := [.int .i64 1, .int .i64 0, .bool false, .int .i64 vk, .int .i64 vn, .string vt, .string ⟨#[]⟩, .string ⟨#[]⟩, .slice none 0 0, .slice none 0 0]) (N := NN) (GoodRow.mk10 (by decide) (by decide) ⟨t3, t4⟩ ⟨t1, t2⟩ (by omega) (by decide) (by decide) (GoodV.nil _ _ rfl) (GoodV.nil _ _ rfl) (by simp [slw]; omega))
      have hb := R0.row.setRow [.int .i64 1, .int .i64 0, .bool false, .int .i64 vk, .int .i64 vn, .string vt, .string ⟨#[]⟩, .string ⟨#[]⟩, .slice none 0 0, .slice none 0 0].toArray
      have st := stE_row (ys := [.int .i64 1, .int .i64 0, .bool false, .int .i64 vk, .int .i64 vn, .string vt, .string ⟨#[]⟩, .string ⟨#[]⟩, .slice none 0 0, .slice none 0 0]) R0.row rfl rfl rfl
      go_wp2_with fail
      generalize Wc.setRow W.heap.size [.int .i64 1, .int .i64 0, .bool false, .int .i64 vk, .int .i64 vn, .string vt, .string ⟨#[]⟩, .string ⟨#[]⟩, .slice none 0 0, .slice none 0 0].toArray = wf at hb HF ⊢
      have f0 := hb.cell (i := 0) (v := .int .i64 1) rfl
      have f1 := hb.cell (i := 1) (v := .int .i64 0) rfl
      have f2 := hb.cell (i := 2) (v := .bool false) rfl
      have f3 := hb.cell (i := 3) (v := .int .i64 vk) rfl
      have f4 := hb.cell (i := 4) (v := .int .i64 vn) rfl
      have f5 := hb.cell (i := 5) (v := .string vt) rfl
      have f6 := hb.cell (i := 6) (v := .string ⟨#[]⟩) rfl
      have f7 := hb.cell (i := 7) (v := .string ⟨#[]⟩) rfl
      have f8 := hb.cell (i := 8) (v := .slice none 0 0) rfl
      have f9 := hb.cell (i := 9) (v := .slice none 0 0) rfl
      refine bodyPost_ret (v := .agg #[.int .i64 1, .int .i64 0, .bool false, .int .i64 vk, .int .i64 vn, .string vt, .string ⟨#[]⟩, .string ⟨#[]⟩, .slice none 0 0, .slice none 0 0]) (by simp [results, Try.results85, go_sem, f0, f1, f2, f3, f4, f5, f6, f7, f8, f9]) rfl ?_
      exact HF
    · go_wp2_with fail
      refine (col_any c.B c.C c.a c.len c.cap _ H.cur).mono ?_
      rintro e Wc ⟨s6, s7, h6, h7, rfl, hc, hg⟩
      replace R0 := R0.drawC H hg
      replace H := H.draw hc hg
      clear hc hg
      have HF := finE H R0 (ys := [.int .i64 2, .int .i64 0, .bool false, .int .i64 0, .int .i64 0, .string ⟨#[]⟩, .string s6, .string s7, .slice none 0 0, .slice none 0 0]) (N := NN) (GoodRow.mk10 (by decide) (by decide) (by decide) (by decide) (by decide) (by omega) (by omega) (GoodV.nil _ _ rfl) (GoodV.nil _ _ rfl) (by simp [slw]; omega))
      have hb := R0.row.setRow [.int .i64 2, .int .i64 0, .bool false, .int .i64 0, .int .i64 0, .string ⟨#[]⟩, .string s6, .string s7, .slice none 0 0, .slice none 0 0].toArray
      have st := stE_row (ys := [.int .i64 2, .int .i64 0, .bool false, .int .i64 0, .int .i64 0, .string ⟨#[]⟩, .string s6, .string s7, .slice none 0 0, .slice none 0 0]) R0.row rfl rfl rfl
      go_wp2_with fail
      generalize Wc.setRow W.heap.size [.int .i64 2, .int .i64 0, .bool false, .int .i64 0, .int .i64 0, .string ⟨#[]⟩, .string s6, .string s7, .slice none 0 0, .slice none 0 0].toArray = wf at hb HF ⊢
      have f0 := hb.cell (i := 0) (v := .int .i64 2) rfl
      have f1 := hb.cell (i := 1) (v := .int .i64 0) rfl
      have f2 := hb.cell (i := 2) (v := .bool false) rfl
      have f3 := hb.cell (i := 3) (v := .int .i64 0) rfl
      have f4 := hb.cell (i := 4) (v := .int .i64 0) rfl
      have f5 := hb.cell (i := 5) (v := .string ⟨#[]⟩) rfl
      have f6 := hb.cell (i := 6) (v := .string s6) rfl
      have f7 := hb.cell (i := 7) (v := .string s7) rfl
      have f8 := hb.cell (i := 8) (v := .slice none 0 0) rfl
      have f9 := hb.cell (i := 9) (v := .slice none 0 0) rfl
      refine bodyPost_ret (v := .agg #[.int .i64 2, .int .i64 0, .bool false, .int .i64 0, .int .i64 0, .string ⟨#[]⟩, .string s6, .string s7, .slice none 0 0, .slice none 0 0]) (by simp [results, Try.results85, go_sem, f0, f1, f2, f3, f4, f5, f6, f7, f8, f9]) rfl ?_
      exact HF
end Go.Proofs.Ytkacelpndeoogaa
