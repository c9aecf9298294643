/- Joined texts: RightE LeftS StmtE StmtD. -/
import Derived.Test.YtbbfanhhldbhhaaQHShapeT
import Derived.Test.YtbbfanhhldbhhaaQSXU
import Derived.Test.YtbbfanhhldbhhaaQSXV
import Derived.Test.YtbbfanhhldbhhaaQSXH
import Derived.Test.YtbbfanhhldbhhaaQHFoldS
/- The model's test on a tree: an expression over its parts. -/
namespace Go.Proofs.Ytbbfanhhldbhhaa
open Go.RowKit
set_option linter.unusedVariables false

/-- what the model's l7Right and l7RightQuery are known to give -/
def RightP (c : Nd) : Prop := ∀ (c0 c1 : Int) (c2 : Bool) (c3 c4 : Int) (c5 c6 c7 : ByteArray) (x8 x9 : Value) (w : World), c 0 = .v (.int .i64 c0) → c 1 = .v (.int .i64 c1) → c 2 = .v (.bool c2) → c 3 = .v (.int .i64 c3) → c 4 = .v (.int .i64 c4) → c 5 = .v (.string c5) → c 6 = .v (.string c6) → c 7 = .v (.string c7) →
  c5.size ≤ 9223372036854775807 → c6.size ≤ 9223372036854775807 → c7.size ≤ 9223372036854775807 → Rd w 0 x8 (c 8) → Rd w 0 x9 (c 9) → Bd c →
  Calls Try.prog 69 #[.agg #[.int .i64 c0, .int .i64 c1, .bool c2, .int .i64 c3, .int .i64 c4, .string c5, .string c6, .string c7, x8, x9]] w (BoolE (foldE rightA c) w)
def RightQP (q : Nd) : Prop := ∀ (c0 : Bool) (x1 x2 x3 x4 : Value) (c5 : Int) (w : World), q 5 = .v (.int .i64 c5) → Rd w 0 x1 (q 1) → Rd w 0 x2 (q 2) → Rd w 0 x3 (q 3) → Rd w 0 x4 (q 4) → BdQ q →
  Calls Try.prog 80 #[.agg #[.bool c0, x1, x2, x3, x4, .int .i64 c5]] w (BoolE (foldQ rightA q) w)
theorem exprs_bd {d : Dat} (hf : Fits d .exprs) (hm : msr d ≤ 1048576) : ∀ e ∈ d.els, Bd e := fun e he => by
  obtain ⟨n, k, f, rfl⟩ := hf.deep rfl
  have hk : k = 10 := hf.2.2.1
  subst hk
  have h8 := els_fits hf he 8 (by decide)
  have h9 := els_fits hf he 9 (by decide)
  obtain ⟨i, hi, rfl⟩ := List.mem_map.1 he
  rw [List.mem_range] at hi
  exact ⟨Nat.le_trans (msr_el hi (by decide)) hm, Nat.le_trans (msr_el hi (by decide)) hm, h8, h9⟩
theorem mem_el {n k : Nat} {f : Nat → Nat → Dat} {i : Nat} (hi : i < n) : f i ∈ (Dat.sl n k f).els := List.mem_map.2 ⟨i, List.mem_range.2 hi, rfl⟩
theorem all_upto {n j : Nat} {p : Nat → Bool} (h : j < n) (hj : p j = false) : (List.range n).all p = false := by
  rw [← Bool.not_eq_true, List.all_eq_true]
  intro hh
  have := hh j (List.mem_range.2 h)
  rw [hj] at this; cases this
theorem takes_sub {k : Int} {a b : Nat} (h : takesB k a b = true) : b ≤ 1 := by
  unfold takesB at h
  split at h
  · simp at h; omega
  · split at h
    · simp at h; omega
    · split at h
      · simp at h; omega
      · split at h
        · simp at h; omega
        · split at h
          · simp at h; omega
          · split at h
            · simp at h; omega
            · split at h
              · simp at h; omega
              · cases h
theorem shape_sub {k op : Int} {nt : Bool} {vk vn : Int} {vt q n : ByteArray} {a b : Nat} (h : shapeF k op nt vk vn vt q n a b = true) : b ≤ 1 := by
  unfold shapeF at h
  rw [Bool.and_eq_true, Bool.and_eq_true] at h
  exact takes_sub h.2.2
theorem rightE_val {c : Nd} {n8 n9 : Nat} {f8 f9 : Nat → Nat → Dat} (h8 : c 8 = .sl n8 10 f8) (h9 : c 9 = .sl n9 6 f9) : foldE rightA c = (shapeB c && ((List.range n8).all (fun i => foldE rightA (f8 i)) && (List.range n9).all fun i => foldQ rightA (f9 i))) := by
  show (shapeB c && (fold rightA (c 8) .exprs && fold rightA (c 9) .queries)) = _
  rw [h8, h9, fold_ex, fold_qu, rightA_of, rightA_of, List.all_map, List.all_map]
  rfl
set_option maxRecDepth 100000 in
set_option maxHeartbeats 8000000 in
theorem right_step (c : Nd) (n8 n9 : Nat) (f8 f9 : Nat → Nat → Dat) (h8 : c 8 = .sl n8 10 f8) (h9 : c 9 = .sl n9 6 f9)
    (IHk : ∀ i, i < n8 → RightP (f8 i)) (IHs : ∀ i, i < n9 → RightQP (f9 i)) : RightP c := by
  intro c0 c1 c2 c3 c4 c5 c6 c7 x8 x9 w e0 e1 e2 e3 e4 e5 e6 e7 b5 b6 b7 r8 r9 hbd
  have q8 := hbd.f8
  have q9 := hbd.f9
  have m8 := hbd.m8
  have m9 := hbd.m9
  have hqs := hbd.query
  have hv := rightE_val h8 h9
  rw [shape_v e0 e1 e2 e3 e4 e5 e6 e7 (show (c 8).len = n8 by rw [h8]; rfl) (show (c 9).len = n9 by rw [h9]; rfl)] at hv
  rw [h8] at r8 q8 m8
  rw [h9] at r9 q9 m9 hqs
  obtain ⟨a8, p8, rfl⟩ := r8.slice
  obtain ⟨a9, p9, rfl⟩ := r9.slice
  have hn8 : n8 ≤ 1048576 := Nat.le_trans (msr_n n8 10 f8) m8
  have hn9 : n9 ≤ 1048576 := Nat.le_trans (msr_n n9 6 f9) m9
  have hB8 : ∀ i, i < n8 → Bd (f8 i) := fun i hi => exprs_bd q8 m8 _ (mem_el hi)
  have hB9 : ∀ i, i < n9 → BdQ (f9 i) := fun i hi => hqs _ (mem_el hi)
  have hS := fun w => shape_spec c0 c1 c2 c3 c4 c5 c6 c7 a8 n8 p8 a9 n9 p9 w b5 b6 b7 hn8 hn9
  have hsub := @shape_sub c0 c1 c2 c3 c4 c5 c6 c7 n8 n9
  rw [hv]
  clear e0 e1 e2 e3 e4 e5 e6 e7 b5 b6 b7 hv h8 h9 m8 m9 hqs hbd
  have hsf : shapeF c0 c1 c2 c3 c4 c5 c6 c7 n8 n9 = (headB c0 c1 c2 c3 c4 c5 && (namesB c0 c6 c7 && takesB c0 n8 n9)) := rfl
  rw [← hsf]
  clear hsf
  replace hsub := Lib.hid hsub
  generalize shapeF c0 c1 c2 c3 c4 c5 c6 c7 n8 n9 = sv at hS hsub ⊢
  have H0 := BX.new w 34 #[.int .i64 c0, .int .i64 c1, .bool c2, .int .i64 c3, .int .i64 c4, .string c5, .string c6, .string c7, .slice a8 n8 p8, .slice a9 n9 p9]
  go_enter Try.func69, Try.ntmps69
  go_wp2_with fail
  generalize w.alloc (.cells #[.int .i64 c0, .int .i64 c1, .bool c2, .int .i64 c3, .int .i64 c4, .string c5, .string c6, .string c7, .slice a8 n8 p8, .slice a9 n9 p9] 34) = w1 at H0 ⊢
  cases sv
  · have k0 := H0.box.cell (i := 0) (v := .int .i64 c0) rfl
    have k1 := H0.box.cell (i := 1) (v := .int .i64 c1) rfl
    have k2 := H0.box.cell (i := 2) (v := .bool c2) rfl
    have k3 := H0.box.cell (i := 3) (v := .int .i64 c3) rfl
    have k4 := H0.box.cell (i := 4) (v := .int .i64 c4) rfl
    have k5 := H0.box.cell (i := 5) (v := .string c5) rfl
    have k6 := H0.box.cell (i := 6) (v := .string c6) rfl
    have k7 := H0.box.cell (i := 7) (v := .string c7) rfl
    have k8 := H0.box.cell (i := 8) (v := .slice a8 n8 p8) rfl
    have k9 := H0.box.cell (i := 9) (v := .slice a9 n9 p9) rfl
    go_wp2_with fail
    refine (hS _).mono ?_
    rintro e w2 ⟨rfl, hb⟩
    replace H0 := H0.next hb
    clear hb
    clear k0 k1 k2 k3 k4 k5 k6 k7 k8 k9
    go_wp2_with fail
    go_ret
    exact ⟨rfl, H0.b⟩
  · have k0 := H0.box.cell (i := 0) (v := .int .i64 c0) rfl
    have k1 := H0.box.cell (i := 1) (v := .int .i64 c1) rfl
    have k2 := H0.box.cell (i := 2) (v := .bool c2) rfl
    have k3 := H0.box.cell (i := 3) (v := .int .i64 c3) rfl
    have k4 := H0.box.cell (i := 4) (v := .int .i64 c4) rfl
    have k5 := H0.box.cell (i := 5) (v := .string c5) rfl
    have k6 := H0.box.cell (i := 6) (v := .string c6) rfl
    have k7 := H0.box.cell (i := 7) (v := .string c7) rfl
    have k8 := H0.box.cell (i := 8) (v := .slice a8 n8 p8) rfl
    have k9 := H0.box.cell (i := 9) (v := .slice a9 n9 p9) rfl
    go_wp2_with fail
    refine (hS _).mono ?_
    rintro e w2 ⟨rfl, hb⟩
    replace H0 := H0.next hb
    have hn1 : n9 ≤ 1 := hsub.out (by first | rfl | trivial)
    clear hb hS hsub
    clear k0 k1 k2 k3 k4 k5 k6 k7 k8 k9
    go_wp2_with fail
    go_loopw [3] (fun i wr => ∃ j : Nat, j ≤ n8 ∧ i = .int .i64 (j : Int) ∧ BX w wr 34 #[.int .i64 c0, .int .i64 c1, .bool c2, .int .i64 c3, .int .i64 c4, .string c5, .string c6, .string c7, .slice a8 n8 p8, .slice a9 n9 p9] ∧ Hid ((List.range j).all (fun i => foldE rightA (f8 i)) = true)) (fun i _ => n8 - (intOf i).toNat)
    case atStart => exact ⟨0, Nat.zero_le _, rfl, H0, rfl⟩
    case round =>
      obtain ⟨j, hj, rfl, H, HA⟩ := hrel
      have k8 := H.box.cell (i := 8) (v := .slice a8 n8 p8) rfl
      by_cases hlt : j < n8
      · have hlt2 : (j : Int) < (n8 : Int) := by omega
        obtain ⟨gg, oo, rfl, -, hgg, x0, x1, x2, x3, x4, x5, x6, x7, x8, x9, ⟨z0, z1, z2, z3, z4, z5, z6, z7, z8, z9⟩, ⟨⟨e0, -⟩, ⟨e1, -⟩, e2, ⟨e3, -⟩, ⟨e4, -⟩, ⟨e5, b5⟩, ⟨e6, b6⟩, ⟨e7, b7⟩, ⟨r8, q8_⟩, ⟨r9, q9_⟩⟩⟩ := row_exprs (r8.later H.b) q8 hlt
        have hC := fun w h h' => IHk j hlt x0 x1 x2 x3 x4 x5 x6 x7 x8 x9 w e0 e1 e2 e3 e4 e5 e6 e7 b5 b6 b7 h h' (hB8 j hlt)
        clear e0 e1 e2 e3 e4 e5 e6 e7 b5 b6 b7
        generalize hV : foldE rightA (f8 j) = V at hC
        have HVV := Lib.hid hV
        clear hV
        cases V
        case false =>
          have hfin : Hid ((List.range n8).all (fun i => foldE rightA (f8 i)) = false) := all_upto hlt HVV.out
          go_wp2_with fail
          refine (hC _ r8 r9).mono ?_
          rintro e w2 ⟨rfl, hb⟩
          replace H := H.next hb
          clear hb hC
          go_wp2_with fail
          go_ret
          exact ⟨by rw [hfin.out]; rfl, H.b⟩
        case true =>
          have HA2 : Hid ((List.range (j + 1)).all (fun i => foldE rightA (f8 i)) = true) := by show _ = true; rw [all_succ, HA.out, HVV.out]; rfl
          go_wp2_with fail
          refine (hC _ r8 r9).mono ?_
          rintro e w2 ⟨rfl, hb⟩
          replace H := H.next hb
          clear hb hC
          go_wp2_with fail
          go_roundw
          case rel => exact ⟨j + 1, by omega, by go_num, H, HA2⟩
          case measure => simp [intOf]; omega
      · obtain rfl : j = n8 := by omega
        have k9 := H.box.cell (i := 9) (v := .slice a9 n9 p9) rfl
        clear hlt hj
        by_cases h0 : n9 = 0
        · subst h0
          go_wp2_with fail
          go_ret
          exact ⟨by rw [HA.out]; rfl, H.b⟩
        · obtain rfl : n9 = 1 := by omega
          obtain ⟨gg, oo, rfl, -, hgg, y0, y1, y2, y3, y4, y5, ⟨u0, u1, u2, u3, u4, u5⟩, ⟨-, ⟨s1, -⟩, ⟨s2, -⟩, ⟨s3, -⟩, ⟨s4, -⟩, ⟨l5, -⟩⟩⟩ := row_queries (r9.later H.b) q9 (Nat.zero_lt_one)
          rw [Nat.zero_mul, Nat.add_zero] at u0 u1 u2 u3 u4 u5
          have hC := fun w h1 h2 h3 h4 => IHs 0 Nat.zero_lt_one y0 y1 y2 y3 y4 y5 w l5 h1 h2 h3 h4 (hB9 0 Nat.zero_lt_one)
          clear l5
          have hone : (List.range 1).all (fun i => foldQ rightA (f9 i)) = foldQ rightA (f9 0) := Bool.and_true _
          have HO := Lib.hid hone
          clear hone h0
          generalize foldQ rightA (f9 0) = V at hC HO
          go_wp2_with fail
          refine (hC _ s1 s2 s3 s4).mono ?_
          rintro e w2 ⟨rfl, hb⟩
          replace H := H.next hb
          clear hb hC
          go_wp2_with fail
          go_ret
          exact ⟨by rw [HA.out, HO.out]; rfl, H.b⟩
end Go.Proofs.Ytbbfanhhldbhhaa

/- The model's count down over a tree's nodes. -/
namespace Go.Proofs.Ytbbfanhhldbhhaa
open Go.RowKit
set_option linter.unusedVariables false

/-- what is left of l behind s nodes; -1: there were more -/
def leftV (l : Int) (s : Nat) : Int := if (s : Int) ≤ l then l - s else -1
theorem leftV_lo (l : Int) (s : Nat) : -1 ≤ leftV l s := by unfold leftV; split <;> omega
theorem leftV_hi {l : Int} {s : Nat} (h : 0 ≤ l) : leftV l s ≤ l := by unfold leftV; split <;> omega
theorem leftV_stop {l : Int} {s t : Nat} (h : leftV l s < 0) (hst : s ≤ t) : leftV l t = leftV l s := by
  unfold leftV at h ⊢
  split at h
  · omega
  · rw [if_neg (by omega), if_neg (by omega)]
theorem leftV_step {l : Int} {s : Nat} (h : 0 ≤ leftV l s) (t : Nat) : leftV (leftV l s) t = leftV l (s + t) := by
  unfold leftV at h ⊢
  split at h
  · rename_i h1
    rw [if_pos h1]
    by_cases h2 : (t : Int) ≤ l - s
    · rw [if_pos h2, if_pos (by omega)]; omega
    · rw [if_neg h2, if_neg (by omega)]
  · omega
def LeftP (c : Nd) : Prop := ∀ (c0 c1 : Int) (c2 : Bool) (c3 c4 : Int) (c5 c6 c7 : ByteArray) (x8 x9 : Value) (l : Int) (w : World), 0 ≤ l → l ≤ 1048576 → Rd w 0 x8 (c 8) → Rd w 0 x9 (c 9) → Bd c →
  Calls Try.prog 68 #[.agg #[.int .i64 c0, .int .i64 c1, .bool c2, .int .i64 c3, .int .i64 c4, .string c5, .string c6, .string c7, x8, x9], .int .i64 l] w (IntE (leftV l (foldE sizA c)) w)
theorem sum_mono (g : Nat → Nat) {j n : Nat} (h : j ≤ n) : ((List.range j).map g).sum ≤ ((List.range n).map g).sum := by
  induction n with
  | zero => obtain rfl : j = 0 := by omega
            exact Nat.le_refl _
  | succ n ih =>
    by_cases e : j = n + 1
    · rw [e]; exact Nat.le_refl _
    · have := ih (by omega)
      rw [List.range_succ, List.map_append, List.sum_append]; omega
theorem sum_succ (g : Nat → Nat) (j : Nat) : ((List.range (j + 1)).map g).sum = ((List.range j).map g).sum + g j := by
  rw [List.range_succ, List.map_append, List.sum_append]; simp
theorem sizA_sum : ∀ l : List Nat, sizA.of l = l.sum
  | [] => rfl
  | a :: l => by rw [sizA_good.of_cons, sizA_sum l, List.sum_cons]; rfl
theorem sizE_val {c : Nd} {n8 n9 : Nat} {f8 f9 : Nat → Nat → Dat} (h8 : c 8 = .sl n8 10 f8) (h9 : c 9 = .sl n9 6 f9) : foldE sizA c = (1 + ((List.range n8).map fun i => foldE sizA (f8 i)).sum) + ((List.range n9).map fun i => foldQ sizA (f9 i)).sum := by
  rw [siz_parts h8 h9, sizA_sum, sizA_sum]; omega
/-- one query of a list, its expressions counted -/
theorem sizQ_val {q : Nd} (h : FitsQ q) (zz : Nd) : foldQ sizA q = ((List.range (exprsOf q).length).map fun i => foldE sizA ((exprsOf q).getD i zz)).sum := by
  rw [foldQ_is sizA_good h.1 h.2.1 h.2.2.1 h.2.2.2]
  show sizA.of _ = _
  rw [sizA_sum, range_getD (foldE sizA)]
/-- the model's expressions of a query, of whatever shape it be -/
theorem exprsQ_spec (q : Nd) (c0 : Bool) (x1 x2 x3 x4 : Value) (c5 : Int) (w : World) (r1 : Rd w 0 x1 (q 1)) (r2 : Rd w 0 x2 (q 2)) (r3 : Rd w 0 x3 (q 3)) (r4 : Rd w 0 x4 (q 4)) (hq : BdQ q) :
    Calls Try.prog 135 #[.agg #[.bool c0, x1, x2, x3, x4, .int .i64 c5]] w (ExprsE (exprsOf q) w) := by
  have q1 := hq.f.1
  have q2 := hq.f.2.1
  have q3 := hq.f.2.2.1
  have q4 := hq.f.2.2.2
  have hm := hq.m
  obtain ⟨n1, k1, f1, h1⟩ := q1.deep rfl
  obtain ⟨n2, k2, f2, h2⟩ := q2.deep rfl
  obtain ⟨n3, k3, f3, h3⟩ := q3.deep rfl
  obtain ⟨n4, k4, f4, h4⟩ := q4.deep rfl
  have hL : exprsOf q = ((exItems (.sl n1 k1 f1) ++ exFrom (.sl n2 k2 f2)) ++ (Dat.sl n3 k3 f3).els) ++ (Dat.sl n4 k4 f4).els := by unfold exprsOf; rw [h1, h2, h3, h4]
  rw [h1] at r1 q1
  rw [h2] at r2 q2
  rw [h3] at r3 q3
  rw [h4] at r4 q4
  obtain rfl : k1 = 13 := q1.2.2.1
  obtain rfl : k2 = 3 := q2.2.2.1
  obtain rfl : k3 = 10 := q3.2.2.1
  obtain rfl : k4 = 11 := q4.2.2.1
  have hcnt : (exItems (.sl n1 13 f1)).length + (exFrom (.sl n2 3 f2)).length + n3 + n4 ≤ 1048576 := by
    rw [h1, h2, h3, h4] at hm
    have k1 := msr_n n1 13 f1
    have k0 : (exItems (.sl n1 13 f1)).length ≤ n1 := by
      unfold exItems
      rw [List.length_map]
      exact Nat.le_trans (List.length_filter_le _ _) (Nat.le_of_eq (els_len n1 13 f1))
    have k2 := exFrom_msr q2
    have k3 := msr_n n3 10 f3
    have k4 := msr_n n4 11 f4
    omega
  obtain ⟨a1, p1, rfl⟩ := r1.slice
  obtain ⟨a2, p2, rfl⟩ := r2.slice
  obtain ⟨a3, p3, rfl⟩ := r3.slice
  obtain ⟨a4, p4, rfl⟩ := r4.slice
  rw [hL]
  exact exprs_spec c0 a1 n1 p1 a2 n2 p2 a3 n3 p3 a4 n4 p4 c5 f1 f2 f3 f4 w r1 q1 r2 q2 r3 q3 r4 q4 hcnt
theorem exprsQ_len {q : Nd} (hq : BdQ q) : (exprsOf q).length ≤ 1048576 := by
  have := exprs_len hq.f.1 hq.f.2.1 hq.f.2.2.1 hq.f.2.2.2
  have g1 := siz_le (q 1) _ hq.f.1
  have g2 := siz_le (q 2) _ hq.f.2.1
  have g3 := siz_le (q 3) _ hq.f.2.2.1
  have g4 := siz_le (q 4) _ hq.f.2.2.2
  have hm := hq.m
  have hs : foldQ sizA q ≤ 1048576 := by show _ + _ + _ + _ ≤ _; omega
  omega
theorem exprsQ_bd {q : Nd} (hq : BdQ q) : ∀ e ∈ exprsOf q, Bd e := by
  have hm := hq.m
  exact queryBd hq.f.1 hq.f.2.1 hq.f.2.2.1 hq.f.2.2.2 (by omega) (by omega) (by omega) (by omega)
set_option maxRecDepth 100000 in
set_option maxHeartbeats 8000000 in
theorem left_step (c : Nd) (n8 n9 : Nat) (f8 f9 : Nat → Nat → Dat) (h8 : c 8 = .sl n8 10 f8) (h9 : c 9 = .sl n9 6 f9)
    (IHk : ∀ i, i < n8 → LeftP (f8 i)) (IHs : ∀ i, i < n9 → ∀ e ∈ exprsOf (f9 i), LeftP e) : LeftP c := by
  intro c0 c1 c2 c3 c4 c5 c6 c7 x8 x9 l w hl0 hl1 r8_ r9 hbd
  have q8 := hbd.f8
  have q9 := hbd.f9
  have m8 := hbd.m8
  have m9 := hbd.m9
  have hqs := hbd.query
  have hv := sizE_val h8 h9
  rw [h8] at r8_ q8 m8
  rw [h9] at r9 q9 m9 hqs
  obtain ⟨a8, p8, rfl⟩ := r8_.slice
  obtain ⟨a9, p9, rfl⟩ := r9.slice
  have hn8 : n8 ≤ 1048576 := Nat.le_trans (msr_n n8 10 f8) m8
  have hn9 : n9 ≤ 1048576 := Nat.le_trans (msr_n n9 6 f9) m9
  have hB8 : ∀ i, i < n8 → Bd (f8 i) := fun i hi => exprs_bd q8 m8 _ (mem_el hi)
  have hB9 : ∀ i, i < n9 → BdQ (f9 i) := fun i hi => hqs _ (mem_el hi)
  obtain ⟨S8, hS8⟩ : ∃ S8 : Nat → Nat, S8 = fun j => 1 + ((List.range j).map fun i => foldE sizA (f8 i)).sum := ⟨_, rfl⟩
  obtain ⟨S9, hS9⟩ : ∃ S9 : Nat → Nat, S9 = fun j => (1 + ((List.range n8).map fun i => foldE sizA (f8 i)).sum) + ((List.range j).map fun i => foldQ sizA (f9 i)).sum := ⟨_, rfl⟩
  have hS80 : S8 0 = 1 := by rw [hS8]; rfl
  have hS90 : S9 0 = S8 n8 := by rw [hS9, hS8]; rfl
  have hS8s : ∀ j, S8 (j + 1) = S8 j + foldE sizA (f8 j) := fun j => by rw [hS8]; show 1 + _ = (1 + _) + _; rw [sum_succ]; omega
  have hS9s : ∀ j, S9 (j + 1) = S9 j + foldQ sizA (f9 j) := fun j => by rw [hS9]; show _ + _ = (_ + _) + _; rw [sum_succ (fun i => foldQ sizA (f9 i))]; omega
  have hS8m : ∀ {j}, j ≤ n8 → S8 j ≤ S8 n8 := fun {j} h => by rw [hS8]; have := sum_mono (fun i => foldE sizA (f8 i)) h; show 1 + _ ≤ 1 + _; omega
  have hS9m : ∀ {j}, j ≤ n9 → S9 j ≤ S9 n9 := fun {j} h => by rw [hS9]; have := sum_mono (fun i => foldQ sizA (f9 i)) h; show _ + _ ≤ _ + _; omega
  have hS9le : ∀ {j k : Nat} {L : List Nd} {zz : Nd}, k ≤ L.length → foldQ sizA (f9 j) = ((List.range L.length).map fun i => foldE sizA (L.getD i zz)).sum → S9 j + ((List.range k).map fun i => foldE sizA (L.getD i zz)).sum ≤ S9 (j + 1) := fun {j k L zz} hk h => by
    rw [hS9s, h]
    have := sum_mono (fun i => foldE sizA (L.getD i zz)) hk
    omega
  have HVAL : Hid (leftV l (foldE sizA c) = leftV l (S9 n9)) := by show _ = _; rw [hv, hS9]
  have hz0 : ∃ z : Nat → Dat, z = fun _ => .v undef := ⟨_, rfl⟩
  obtain ⟨zz, -⟩ := hz0
  have HV0 : Hid (l - 1 = leftV l (S8 0)) := by
    show _ = _
    rw [hS80]
    unfold leftV
    split
    · rfl
    · have : l = 0 := by omega
      rw [this]; rfl
  generalize leftV l (foldE sizA c) = res at HVAL ⊢
  clear hv hS8 hS9 hS80 hqs m8 m9 h8 h9 hbd
  have H0 := BX.new w 34 #[.int .i64 c0, .int .i64 c1, .bool c2, .int .i64 c3, .int .i64 c4, .string c5, .string c6, .string c7, .slice a8 n8 p8, .slice a9 n9 p9]
  go_enter Try.func68, Try.ntmps68
  go_wp2_with fail
  generalize w.alloc (.cells #[.int .i64 c0, .int .i64 c1, .bool c2, .int .i64 c3, .int .i64 c4, .string c5, .string c6, .string c7, .slice a8 n8 p8, .slice a9 n9 p9] 34) = w1 at H0 ⊢
  go_loopw [1, 5] (fun lv i wr => ∃ (j : Nat) (v : Int), j ≤ n8 ∧ i = .int .i64 (j : Int) ∧ lv = .int .i64 v ∧ Hid (v = leftV l (S8 j)) ∧ -1 ≤ v ∧ v ≤ l ∧ BX w wr 34 #[.int .i64 c0, .int .i64 c1, .bool c2, .int .i64 c3, .int .i64 c4, .string c5, .string c6, .string c7, .slice a8 n8 p8, .slice a9 n9 p9]) (fun _ i _ => n8 - (intOf i).toNat)
  case atStart => exact ⟨0, l - 1, Nat.zero_le _, rfl, rfl, HV0, by omega, by omega, H0⟩
  case round =>
    obtain ⟨j, cur, hj, rfl, rfl, HC, hlo, hhi, H⟩ := hrel
    have k8 := H.box.cell (i := 8) (v := .slice a8 n8 p8) rfl
    by_cases hlt : j < n8
    · have hlt2 : (j : Int) < (n8 : Int) := by omega
      by_cases hc0 : 0 ≤ cur
      · have dc : decide (0 ≤ cur) = true := decide_eq_true hc0
        obtain ⟨gg, oo, rfl, -, hgg, x0, x1, x2, x3, x4, x5, x6, x7, x8, x9, ⟨z0, z1, z2, z3, z4, z5, z6, z7, z8, z9⟩, ⟨-, -, -, -, -, -, -, -, ⟨r8, q8_⟩, ⟨r9, q9_⟩⟩⟩ := row_exprs (r8_.later H.b) q8 hlt
        have hC := fun w h h' => IHk j hlt x0 x1 x2 x3 x4 x5 x6 x7 x8 x9 cur w hc0 (Int.le_trans hhi hl1) h h' (hB8 j hlt)
        have HV2 : Hid (leftV cur (foldE sizA (f8 j)) = leftV l (S8 (j + 1))) := by
          show _ = _
          have hV := HC.out
          rw [hV] at hc0
          rw [hV, leftV_step hc0, hS8s]
        have hlo2 := leftV_lo cur (foldE sizA (f8 j))
        have hhi2 := Int.le_trans (leftV_hi (s := foldE sizA (f8 j)) hc0) hhi
        generalize leftV cur (foldE sizA (f8 j)) = v2 at hC HV2 hlo2 hhi2
        clear HC
        go_wp2_with fail
        refine (hC _ r8 r9).mono ?_
        rintro e w6 ⟨rfl, hb⟩
        have H7 := H.next hb
        clear hb hC r8 r9
        go_wp2_with fail
        go_roundw
        case rel => exact ⟨j + 1, v2, by omega, by go_num, rfl, HV2, hlo2, hhi2, H7⟩
        case measure => simp [intOf]; omega
      · have dc : decide (0 ≤ cur) = false := decide_eq_false hc0
        have HV9 : Hid (cur = leftV l (S9 0)) := by
          show _ = _
          have hV := HC.out
          rw [hS90, leftV_stop (s := S8 j) (by rw [← hV]; omega) (hS8m hj), hV]
        obtain ⟨v8, hv8⟩ : ∃ v8, v8 = cur := ⟨_, rfl⟩
        rw [← hv8] at hlo hhi HV9 dc hc0 ⊢
        have hlo8 := hlo
        have hhi8 := hhi
        have H1 := H
        clear HC hv8 hj hlo hhi H
        go_wp2_with fail
        clear k8 dc hc0 hlt hlt2
        go_loopw [1, 6] (fun lv i wr => ∃ (j : Nat) (v : Int), j ≤ n9 ∧ i = .int .i64 (j : Int) ∧ lv = .int .i64 v ∧ Hid (v = leftV l (S9 j)) ∧ -1 ≤ v ∧ v ≤ l ∧ BX w wr 34 #[.int .i64 c0, .int .i64 c1, .bool c2, .int .i64 c3, .int .i64 c4, .string c5, .string c6, .string c7, .slice a8 n8 p8, .slice a9 n9 p9]) (fun _ i _ => n9 - (intOf i).toNat)
        case atStart => exact ⟨0, v8, Nat.zero_le _, rfl, rfl, HV9, hlo8, hhi8, H1⟩
        case round =>
          obtain ⟨j, cur, hj, rfl, rfl, HC, hlo, hhi, H⟩ := hrel
          have k9 := H.box.cell (i := 9) (v := .slice a9 n9 p9) rfl
          by_cases hlt : j < n9
          · have hlt2 : (j : Int) < (n9 : Int) := by omega
            by_cases hc0 : 0 ≤ cur
            · have dc : decide (0 ≤ cur) = true := decide_eq_true hc0
              obtain ⟨gq, oq, rfl, -, hg0, y0, y1, y2, y3, y4, y5, ⟨u0, u1, u2, u3, u4, u5⟩, ⟨-, ⟨s1, -⟩, ⟨s2, -⟩, ⟨s3, -⟩, ⟨s4, -⟩, ⟨-, -⟩⟩⟩ := row_queries (r9.later H.b) q9 hlt
              have hX := fun w h1 h2 h3 h4 => exprsQ_spec (f9 j) y0 y1 y2 y3 y4 y5 w h1 h2 h3 h4 (hB9 j hlt)
              have hlen := exprsQ_len (hB9 j hlt)
              have hbde := exprsQ_bd (hB9 j hlt)
              have hQv := sizQ_val (hB9 j hlt).f zz
              have hIn := IHs j hlt
              generalize exprsOf (f9 j) = L at hX hlen hbde hQv hIn
              have hbd : ∀ k, k < L.length → Bd (L.getD k zz) := fun k hk => hbde _ (by rw [List.getD_eq_getElem?_getD, List.getElem?_eq_getElem hk]; exact List.getElem_mem hk)
              have hin : ∀ k, k < L.length → LeftP (L.getD k zz) := fun k hk => hIn _ (by rw [List.getD_eq_getElem?_getD, List.getElem?_eq_getElem hk]; exact List.getElem_mem hk)
              have HQV := Lib.hid hQv
              clear hbde hIn hQv
              go_wp2_with fail
              refine (hX _ s1 s2 s3 s4).mono ?_
              rintro e w5 ⟨v, rfl, hO, hb⟩
              have H5 := H.next hb
              obtain ⟨a, cap, rfl, hR, hF⟩ := hO.rd hb (by omega) zz
              clear hb hX hO
              have HG := Lib.hid hg0
              clear hg0
              go_wp2_with fail
              go_loopw [1, 8] (fun lv i wr => ∃ (k : Nat) (v : Int), k ≤ L.length ∧ i = .int .i64 (k : Int) ∧ lv = .int .i64 v ∧ Hid (v = leftV l (S9 j + ((List.range k).map fun i => foldE sizA (L.getD i zz)).sum)) ∧ -1 ≤ v ∧ v ≤ l ∧ BX w wr 34 #[.int .i64 c0, .int .i64 c1, .bool c2, .int .i64 c3, .int .i64 c4, .string c5, .string c6, .string c7, .slice a8 n8 p8, .slice (some ⟨gq, oq, none⟩) n9 p9] ∧ Below w5.heap.size w5 wr) (fun _ i _ => L.length - (intOf i).toNat)
              case atStart => exact ⟨0, cur, Nat.zero_le _, rfl, rfl, HC, hlo, hhi, H5, Below.refl _ _⟩
              case round =>
                obtain ⟨k, v, hk, rfl, rfl, HV, hvl, hvh, H6, hB5⟩ := hrel
                by_cases hkl : k < L.length
                · have hkl2 : (k : Int) < (L.length : Int) := by omega
                  by_cases hv0 : 0 ≤ v
                  · have dv : decide (0 ≤ v) = true := decide_eq_true hv0
                    obtain ⟨gg, oo, rfl, -, hgg, x0, x1, x2, x3, x4, x5, x6, x7, x8, x9, ⟨z0, z1, z2, z3, z4, z5, z6, z7, z8, z9⟩, ⟨-, -, -, -, -, -, -, -, ⟨r8, q8_⟩, ⟨r9, q9_⟩⟩⟩ := row_exprs (hR.later hB5) hF hkl
                    have hC := fun w h h' => hin k hkl x0 x1 x2 x3 x4 x5 x6 x7 x8 x9 v w hv0 (Int.le_trans hvh hl1) h h' (hbd k hkl)
                    have HV2 : Hid (leftV v (foldE sizA (L.getD k zz)) = leftV l (S9 j + ((List.range (k + 1)).map fun i => foldE sizA (L.getD i zz)).sum)) := by
                      show _ = _
                      have hV := HV.out
                      rw [hV] at hv0
                      rw [hV, leftV_step hv0, sum_succ]
                      congr 1; omega
                    have hlo2 := leftV_lo v (foldE sizA (L.getD k zz))
                    have hhi2 := Int.le_trans (leftV_hi (s := foldE sizA (L.getD k zz)) hv0) hvh
                    generalize leftV v (foldE sizA (L.getD k zz)) = v2 at hC HV2 hlo2 hhi2
                    clear HV
                    go_wp2_with fail
                    refine (hC _ r8 r9).mono ?_
                    rintro e w6 ⟨rfl, hb⟩
                    have H7 := H6.next hb
                    have hB6 := hB5.trans (hb.mono hB5.size)
                    clear hb hC r8 r9
                    go_wp2_with fail
                    go_roundw
                    case rel => exact ⟨k + 1, v2, by omega, by go_num, rfl, HV2, hlo2, hhi2, H7, hB6⟩
                    case measure => simp [intOf]; omega
                  · have dv : decide (0 ≤ v) = false := decide_eq_false hv0
                    have HV2 : Hid (v = leftV l (S9 (j + 1))) := by
                      show _ = _
                      have hV := HV.out
                      rw [hV, ← leftV_stop (s := S9 j + ((List.range k).map fun i => foldE sizA (L.getD i zz)).sum) (by rw [← hV]; omega) (hS9le hk HQV.out)]
                    clear HV
                    go_wp2_with fail
                    go_roundw
                    case rel => exact ⟨j + 1, v, by omega, by go_num, rfl, HV2, hvl, hvh, H6⟩
                    case measure => simp [intOf]; omega
                · obtain rfl : L.length = k := by omega
                  have HV2 : Hid (v = leftV l (S9 (j + 1))) := by
                    show _ = _
                    rw [HV.out, hS9s j, HQV.out]
                  clear HV hkl
                  go_wp2_with fail
                  go_roundw
                  case rel => exact ⟨j + 1, v, by omega, by go_num, rfl, HV2, hvl, hvh, H6⟩
                  case measure => simp [intOf]; omega
            · have dc : decide (0 ≤ cur) = false := decide_eq_false hc0
              have HF : Hid (leftV l (S9 n9) = cur) := by
                show _ = _
                have hV := HC.out
                rw [leftV_stop (s := S9 j) (by rw [← hV]; omega) (hS9m hj), hV]
              clear HC
              go_wp2_with fail
              go_ret
              exact ⟨ret_i64 (by rw [HVAL.out, HF.out]), H.b⟩
          · obtain rfl : n9 = j := by omega
            clear hlt
            go_wp2_with fail
            go_ret
            exact ⟨ret_i64 (by rw [HVAL.out, HC.out]), H.b⟩
    · obtain rfl : n8 = j := by omega
      have HV9 : Hid (cur = leftV l (S9 0)) := by
        show _ = _
        rw [hS90, HC.out]
      obtain ⟨v8, hv8⟩ : ∃ v8, v8 = cur := ⟨_, rfl⟩
      rw [← hv8] at hlo hhi HV9 ⊢
      have hlo8 := hlo
      have hhi8 := hhi
      have H1 := H
      clear HC hv8 hlt hj hlo hhi H
      go_wp2_with fail
      clear k8
      go_loopw [1, 6] (fun lv i wr => ∃ (j : Nat) (v : Int), j ≤ n9 ∧ i = .int .i64 (j : Int) ∧ lv = .int .i64 v ∧ Hid (v = leftV l (S9 j)) ∧ -1 ≤ v ∧ v ≤ l ∧ BX w wr 34 #[.int .i64 c0, .int .i64 c1, .bool c2, .int .i64 c3, .int .i64 c4, .string c5, .string c6, .string c7, .slice a8 n8 p8, .slice a9 n9 p9]) (fun _ i _ => n9 - (intOf i).toNat)
      case atStart => exact ⟨0, v8, Nat.zero_le _, rfl, rfl, HV9, hlo8, hhi8, H1⟩
      case round =>
        obtain ⟨j, cur, hj, rfl, rfl, HC, hlo, hhi, H⟩ := hrel
        have k9 := H.box.cell (i := 9) (v := .slice a9 n9 p9) rfl
        by_cases hlt : j < n9
        · have hlt2 : (j : Int) < (n9 : Int) := by omega
          by_cases hc0 : 0 ≤ cur
          · have dc : decide (0 ≤ cur) = true := decide_eq_true hc0
            obtain ⟨gq, oq, rfl, -, hg0, y0, y1, y2, y3, y4, y5, ⟨u0, u1, u2, u3, u4, u5⟩, ⟨-, ⟨s1, -⟩, ⟨s2, -⟩, ⟨s3, -⟩, ⟨s4, -⟩, ⟨-, -⟩⟩⟩ := row_queries (r9.later H.b) q9 hlt
            have hX := fun w h1 h2 h3 h4 => exprsQ_spec (f9 j) y0 y1 y2 y3 y4 y5 w h1 h2 h3 h4 (hB9 j hlt)
            have hlen := exprsQ_len (hB9 j hlt)
            have hbde := exprsQ_bd (hB9 j hlt)
            have hQv := sizQ_val (hB9 j hlt).f zz
            have hIn := IHs j hlt
            generalize exprsOf (f9 j) = L at hX hlen hbde hQv hIn
            have hbd : ∀ k, k < L.length → Bd (L.getD k zz) := fun k hk => hbde _ (by rw [List.getD_eq_getElem?_getD, List.getElem?_eq_getElem hk]; exact List.getElem_mem hk)
            have hin : ∀ k, k < L.length → LeftP (L.getD k zz) := fun k hk => hIn _ (by rw [List.getD_eq_getElem?_getD, List.getElem?_eq_getElem hk]; exact List.getElem_mem hk)
            have HQV := Lib.hid hQv
            clear hbde hIn hQv
            go_wp2_with fail
            refine (hX _ s1 s2 s3 s4).mono ?_
            rintro e w5 ⟨v, rfl, hO, hb⟩
            have H5 := H.next hb
            obtain ⟨a, cap, rfl, hR, hF⟩ := hO.rd hb (by omega) zz
            clear hb hX hO
            have HG := Lib.hid hg0
            clear hg0
            go_wp2_with fail
            go_loopw [1, 8] (fun lv i wr => ∃ (k : Nat) (v : Int), k ≤ L.length ∧ i = .int .i64 (k : Int) ∧ lv = .int .i64 v ∧ Hid (v = leftV l (S9 j + ((List.range k).map fun i => foldE sizA (L.getD i zz)).sum)) ∧ -1 ≤ v ∧ v ≤ l ∧ BX w wr 34 #[.int .i64 c0, .int .i64 c1, .bool c2, .int .i64 c3, .int .i64 c4, .string c5, .string c6, .string c7, .slice a8 n8 p8, .slice (some ⟨gq, oq, none⟩) n9 p9] ∧ Below w5.heap.size w5 wr) (fun _ i _ => L.length - (intOf i).toNat)
            case atStart => exact ⟨0, cur, Nat.zero_le _, rfl, rfl, HC, hlo, hhi, H5, Below.refl _ _⟩
            case round =>
              obtain ⟨k, v, hk, rfl, rfl, HV, hvl, hvh, H6, hB5⟩ := hrel
              by_cases hkl : k < L.length
              · have hkl2 : (k : Int) < (L.length : Int) := by omega
                by_cases hv0 : 0 ≤ v
                · have dv : decide (0 ≤ v) = true := decide_eq_true hv0
                  obtain ⟨gg, oo, rfl, -, hgg, x0, x1, x2, x3, x4, x5, x6, x7, x8, x9, ⟨z0, z1, z2, z3, z4, z5, z6, z7, z8, z9⟩, ⟨-, -, -, -, -, -, -, -, ⟨r8, q8_⟩, ⟨r9, q9_⟩⟩⟩ := row_exprs (hR.later hB5) hF hkl
                  have hC := fun w h h' => hin k hkl x0 x1 x2 x3 x4 x5 x6 x7 x8 x9 v w hv0 (Int.le_trans hvh hl1) h h' (hbd k hkl)
                  have HV2 : Hid (leftV v (foldE sizA (L.getD k zz)) = leftV l (S9 j + ((List.range (k + 1)).map fun i => foldE sizA (L.getD i zz)).sum)) := by
                    show _ = _
                    have hV := HV.out
                    rw [hV] at hv0
                    rw [hV, leftV_step hv0, sum_succ]
                    congr 1; omega
                  have hlo2 := leftV_lo v (foldE sizA (L.getD k zz))
                  have hhi2 := Int.le_trans (leftV_hi (s := foldE sizA (L.getD k zz)) hv0) hvh
                  generalize leftV v (foldE sizA (L.getD k zz)) = v2 at hC HV2 hlo2 hhi2
                  clear HV
                  go_wp2_with fail
                  refine (hC _ r8 r9).mono ?_
                  rintro e w6 ⟨rfl, hb⟩
                  have H7 := H6.next hb
                  have hB6 := hB5.trans (hb.mono hB5.size)
                  clear hb hC r8 r9
                  go_wp2_with fail
                  go_roundw
                  case rel => exact ⟨k + 1, v2, by omega, by go_num, rfl, HV2, hlo2, hhi2, H7, hB6⟩
                  case measure => simp [intOf]; omega
                · have dv : decide (0 ≤ v) = false := decide_eq_false hv0
                  have HV2 : Hid (v = leftV l (S9 (j + 1))) := by
                    show _ = _
                    have hV := HV.out
                    rw [hV, ← leftV_stop (s := S9 j + ((List.range k).map fun i => foldE sizA (L.getD i zz)).sum) (by rw [← hV]; omega) (hS9le hk HQV.out)]
                  clear HV
                  go_wp2_with fail
                  go_roundw
                  case rel => exact ⟨j + 1, v, by omega, by go_num, rfl, HV2, hvl, hvh, H6⟩
                  case measure => simp [intOf]; omega
              · obtain rfl : L.length = k := by omega
                have HV2 : Hid (v = leftV l (S9 (j + 1))) := by
                  show _ = _
                  rw [HV.out, hS9s j, HQV.out]
                clear HV hkl
                go_wp2_with fail
                go_roundw
                case rel => exact ⟨j + 1, v, by omega, by go_num, rfl, HV2, hvl, hvh, H6⟩
                case measure => simp [intOf]; omega
          · have dc : decide (0 ≤ cur) = false := decide_eq_false hc0
            have HF : Hid (leftV l (S9 n9) = cur) := by
              show _ = _
              have hV := HC.out
              rw [leftV_stop (s := S9 j) (by rw [← hV]; omega) (hS9m hj), hV]
            clear HC
            go_wp2_with fail
            go_ret
            exact ⟨ret_i64 (by rw [HVAL.out, HF.out]), H.b⟩
        · obtain rfl : n9 = j := by omega
          clear hlt
          go_wp2_with fail
          go_ret
          exact ⟨ret_i64 (by rw [HVAL.out, HC.out]), H.b⟩
theorem leftE_of (c : Nd) (IHk : ∀ e, e ∈ (c 8).els → LeftP e) (IHs : ∀ q, q ∈ (c 9).els → ∀ e ∈ exprsOf q, LeftP e) : LeftP c := by
  intro c0 c1 c2 c3 c4 c5 c6 c7 x8 x9 l w hl0 hl1 r8 r9 hbd
  obtain ⟨n8, k8, f8, h8⟩ := hbd.f8.deep rfl
  obtain ⟨n9, k9, f9, h9⟩ := hbd.f9.deep rfl
  have a8 := h8 ▸ hbd.f8
  have a9 := h9 ▸ hbd.f9
  obtain rfl : k8 = 10 := a8.2.2.1
  obtain rfl : k9 = 6 := a9.2.2.1
  rw [h8] at IHk
  rw [h9] at IHs
  exact left_step c n8 n9 f8 f9 h8 h9 (fun i hi => IHk _ (mem_el hi)) (fun i hi => IHs _ (mem_el hi)) c0 c1 c2 c3 c4 c5 c6 c7 x8 x9 l w hl0 hl1 r8 r9 hbd
/-- all that is told of a slice's elements, of whatever type they be -/
structure LA (d : Dat) : Prop where
  e : ∀ e, e ∈ d.els → LeftP e
  i : ∀ c, c ∈ d.els → LeftP (cut 2 c)
  f : ∀ c, c ∈ d.els → ∀ e ∈ (c 2).els, LeftP e
  q : ∀ q, q ∈ d.els → ∀ e ∈ exprsOf q, LeftP e
theorem leftAll : ∀ d : Dat, LA d
  | .v x => ⟨fun e he => absurd he (by simp [Dat.els, Dat.len]), fun e he => absurd he (by simp [Dat.els, Dat.len]), fun e he => absurd he (by simp [Dat.els, Dat.len]), fun e he => absurd he (by simp [Dat.els, Dat.len])⟩
  | .sl n k f => by
    have IH : ∀ i j, LA (f i j) := fun i j => leftAll (f i j)
    refine ⟨fun e he => ?_, fun c he => ?_, fun c he => ?_, fun q he => ?_⟩
    · obtain ⟨i, -, rfl⟩ := List.mem_map.1 he
      exact leftE_of _ (IH i 8).e (IH i 9).q
    · obtain ⟨i, -, rfl⟩ := List.mem_map.1 he
      exact leftE_of _ (IH i 10).e (IH i 11).q
    · obtain ⟨i, -, rfl⟩ := List.mem_map.1 he
      exact (IH i 2).e
    · obtain ⟨i, -, rfl⟩ := List.mem_map.1 he
      intro e he
      unfold exprsOf at he
      rw [List.mem_append, List.mem_append, List.mem_append] at he
      rcases he with ((he | he) | he) | he
      · obtain ⟨c, hc, rfl⟩ := List.mem_map.1 he
        exact (IH i 1).i c (List.mem_filter.1 hc).1
      · obtain ⟨c, hc, he⟩ := List.mem_flatMap.1 he
        exact (IH i 2).f c hc e he
      · exact (IH i 3).e e he
      · exact (IH i 4).e e he
theorem left_any (c : Nd) : LeftP c := leftE_of c (leftAll (c 8)).e (leftAll (c 9)).q
end Go.Proofs.Ytbbfanhhldbhhaa

/- The model's expressions of a statement; its depth and size. -/
namespace Go.Proofs.Ytbbfanhhldbhhaa
open Go.RowKit
set_option linter.unusedVariables false
/-- the statement's box and the list so far -/
structure LS (w1 wr : World) (X : Nat) (arr : Array Value) (out : Value) (L : List Nd) : Prop where
  box : RowAt wr X 69 arr
  own : OutE w1 wr w1.heap.size out L
  b : Below w1.heap.size w1 wr
theorem LS.app {w1 wr w' : World} {X : Nat} {arr : Array Value} {out out' : Value} {L L' : List Nd} (H : LS w1 wr X arr out L) (hX : X < w1.heap.size) (h : OutE w1 w' w1.heap.size out' L') (hb : Below w1.heap.size wr w') : LS w1 w' X arr out' L' :=
  ⟨(hb.block _ hX).trans H.box, h, H.b.trans hb⟩
def StExE (L : List Nd) (W : World) (e : Ending) (w' : World) : Prop := ∃ (v : Value) (w0 : World), e = .returned v ∧ OutE w0 w' W.heap.size v L ∧ Below w0.heap.size w0 w' ∧ Below W.heap.size W w'
set_option maxRecDepth 100000 in
set_option maxHeartbeats 8000000 in
theorem stmtExprs_spec (c : Nd) (c0 : Int) (c1 : Bool) (x2 x3 x4 x5 : Value) (c6 : Int) (c7 : ByteArray) (x8 x9 x10 x11 : Value) (W : World) (r2 : Rd W 0 x2 (c 2)) (r3 : Rd W 0 x3 (c 3)) (r4 : Rd W 0 x4 (c 4)) (r5 : Rd W 0 x5 (c 5)) (r8 : Rd W 0 x8 (c 8)) (r10 : Rd W 0 x10 (c 10)) (r11 : Rd W 0 x11 (c 11)) (hs : BdS c) :
    Calls Try.prog 109 #[.agg #[.int .i64 c0, .bool c1, x2, x3, x4, x5, .int .i64 c6, .string c7, x8, x9, x10, x11]] W (StExE (stmtExprs c) W) := by
  have hE := fun w (h : Below W.heap.size W w) => exprsQ_spec (cut 1 c) c1 x2 x3 x4 x5 c6 w (r2.later h) (r3.later h) (r4.later h) (r5.later h) hs.query
  have q8 := hs.f8
  have q10 := hs.f10
  have q11 := hs.f11
  have hws := hs.wsum
  have key : ∀ L : List Nd, L.length ≤ wsum L := fun L => by
    induction L with
    | nil => exact Nat.le_refl _
    | cons a L ih => rw [List.length_cons, wsum_cons]; unfold wt; omega
  have hlen : (stmtExprs c).length ≤ 1048576 := Nat.le_trans (key _) hws
  have e : stmtExprs c = ((exprsOf (cut 1 c) ++ rowsOf (c 8)) ++ (c 10).els) ++ (c 11).els := by unfold stmtExprs outsideOf; simp only [List.append_assoc]
  rw [e] at hlen ⊢
  generalize exprsOf (cut 1 c) = L0 at *
  obtain ⟨a8, n8, p8, rfl⟩ := r8.slice_of q8 rfl
  obtain ⟨a10, n10, p10, rfl⟩ := r10.slice_of q10 rfl
  obtain ⟨a11, n11, p11, rfl⟩ := r11.slice_of q11 rfl
  obtain ⟨f8, e8, r8, q8⟩ := r8.openS q8 rfl
  obtain ⟨f10, e10, r10, q10⟩ := r10.openS q10 rfl
  obtain ⟨f11, e11, r11, q11⟩ := r11.openS q11 rfl
  have hn8 : n8 ≤ 9223372036854775807 := q8.2.1
  rw [e8, e10, e11] at hlen ⊢
  simp only [List.length_append] at hlen
  have l10 : (Dat.sl n10 10 f10).els.length = n10 := els_len _ _ _
  have l11 : (Dat.sl n11 10 f11).els.length = n11 := els_len _ _ _
  replace hlen : (L0.length + (rowsOf (.sl n8 1 f8)).length + n10) + n11 ≤ 1048576 := by
    rw [← l10, ← l11]; exact hlen
  have HN := Lib.hid hlen
  have R := RowAt.new W 69 #[.int .i64 c0, .bool c1, x2, x3, x4, x5, .int .i64 c6, .string c7, .slice a8 n8 p8, x9, .slice a10 n10 p10, .slice a11 n11 p11]
  have hB : Below W.heap.size W (W.alloc (.cells #[.int .i64 c0, .bool c1, x2, x3, x4, x5, .int .i64 c6, .string c7, .slice a8 n8 p8, x9, .slice a10 n10 p10, .slice a11 n11 p11] 69)) := (Below.refl _ _).alloc (Nat.le_refl _) _
  have hX : W.heap.size < (W.alloc (.cells #[.int .i64 c0, .bool c1, x2, x3, x4, x5, .int .i64 c6, .string c7, .slice a8 n8 p8, x9, .slice a10 n10 p10, .slice a11 n11 p11] 69)).heap.size := by simp
  clear hs hws key e e8 e10 e11 l10 l11 hlen r2 r3 r4 r5
  go_enter Try.func109, Try.ntmps109
  go_wp2_with fail
  generalize (W.alloc (.cells #[.int .i64 c0, .bool c1, x2, x3, x4, x5, .int .i64 c6, .string c7, .slice a8 n8 p8, x9, .slice a10 n10 p10, .slice a11 n11 p11] 69)) = w1 at R hB hX ⊢
  replace r8 := r8.later hB
  replace r10 := r10.later hB
  replace r11 := r11.later hB
  have X0 := R.cell (i := 0) (v := .int .i64 c0) rfl
  have X1 := R.cell (i := 1) (v := .bool c1) rfl
  have X2 := R.cell (i := 2) (v := x2) rfl
  have X3 := R.cell (i := 3) (v := x3) rfl
  have X4 := R.cell (i := 4) (v := x4) rfl
  have X5 := R.cell (i := 5) (v := x5) rfl
  have X6 := R.cell (i := 6) (v := .int .i64 c6) rfl
  have X7 := R.cell (i := 7) (v := .string c7) rfl
  have X8 := R.cell (i := 8) (v := .slice a8 n8 p8) rfl
  have X9 := R.cell (i := 9) (v := x9) rfl
  have X10 := R.cell (i := 10) (v := .slice a10 n10 p10) rfl
  have X11 := R.cell (i := 11) (v := .slice a11 n11 p11) rfl

  try go_wp2_with fail
  refine (hE _ hB).mono ?_
  clear hE X0 X1 X2 X3 X4 X5 X6 X7 X8 X9 X10 X11
  rintro e w2 ⟨v, rfl, ho, hb2⟩
  have H : LS w1 w2 W.heap.size #[.int .i64 c0, .bool c1, x2, x3, x4, x5, .int .i64 c6, .string c7, .slice a8 n8 p8, x9, .slice a10 n10 p10, .slice a11 n11 p11] v L0 := ⟨R.later hb2, ho.low (Nat.le_succ _), hb2⟩
  clear R ho hb2
  have HX := Lib.hid hX
  have HBB := Lib.hid hB
  clear hX hB
  go_wp2_with fail
  go_loopw [3, 4] (fun out i wr => ∃ (j : Nat) (v : Value), j ≤ n8 ∧ i = .int .i64 (j : Int) ∧ v = out ∧ LS w1 wr W.heap.size #[.int .i64 c0, .bool c1, x2, x3, x4, x5, .int .i64 c6, .string c7, .slice a8 n8 p8, x9, .slice a10 n10 p10, .slice a11 n11 p11] v (L0 ++ rowsOf (.sl j 1 f8))) (fun _ i _ => n8 - (intOf i).toNat)
  case atStart => exact ⟨0, _, by omega, rfl, rfl, by show LS w1 _ _ _ _ (_ ++ []); rw [List.append_nil]; exact H⟩
  case round =>
    obtain ⟨j, v, hj, rfl, rfl, H⟩ := hrel
    have b1 := H.box.cell (i := 8) (v := .slice a8 n8 p8) rfl
    by_cases hlt : j < n8
    · have hlt2 : (j : Int) < (n8 : Int) := by omega
      obtain ⟨g, o, rfl, -, hg, x0, z0, r0, q0⟩ := row_rows r8 q8 hlt
      replace z0 := (H.b.cell (p := ⟨g, o + j, none⟩) hg).trans z0
      obtain ⟨nn, kk, ff, hsl⟩ := q0.deep rfl
      obtain ⟨ya, yn, yc, rfl⟩ := r0.slice_of q0 rfl
      have hsum : L0 ++ rowsOf (.sl (j + 1) 1 f8) = (L0 ++ rowsOf (.sl j 1 f8)) ++ (Dat.sl nn kk ff).els := by rw [rowsOf_succ, hsl, List.append_assoc]
      have hl : (L0 ++ rowsOf (.sl j 1 f8)).length ≤ 1048576 ∧ nn ≤ 1048576 := by
        have key : ∀ m, j + 1 ≤ m → (rowsOf (.sl (j + 1) 1 f8)).length ≤ (rowsOf (.sl m 1 f8)).length := fun m => by
          induction m with
          | zero => intro h; omega
          | succ m ih =>
            intro h
            by_cases e : j + 1 = m + 1
            · rw [e]; exact Nat.le_refl _
            · have := ih (by omega)
              have e2 : (rowsOf (.sl (m + 1) 1 f8)).length = (rowsOf (.sl m 1 f8)).length + (f8 m 0).els.length := by rw [rowsOf_succ, List.length_append]
              omega
        have h1 := key n8 (by omega)
        have h2 := HN.out
        rw [rowsOf_succ, hsl, List.length_append, els_len] at h1
        rw [List.length_append]
        omega
      rw [hsl] at r0 q0
      have HS := Lib.hid hsum
      obtain ⟨hl1, hl2⟩ := hl
      clear hsum hsl
      go_wp2_with (at_builtin; refine appM rfl (.tmp 15) (.tmp 20) rfl w1 w1.heap.size v (L0 ++ rowsOf (.sl j 1 f8)) ya yn yc nn kk ff wr rfl rfl H.own r0 q0 H.b (by omega) (by omega) H.b.size ?_; intro v' w' hown' hb')
      have H2 := H.app HX.out hown' hb'
      rw [← HS.out] at H2
      go_roundw
      case rel => exact ⟨j + 1, _, by omega, by go_num, rfl, H2⟩
      case measure => simp [intOf]; omega
    · obtain rfl : n8 = j := by omega
      clear hlt hj
      have hl : (L0 ++ rowsOf (.sl n8 1 f8)).length ≤ 1048576 ∧ n10 ≤ 1048576 := by
        have h2 := HN.out
        rw [List.length_append]
        omega
      obtain ⟨hl1, hl2⟩ := hl
      have b10 := H.box.cell (i := 10) (v := .slice a10 n10 p10) rfl
      have hl3 : ((L0 ++ rowsOf (.sl n8 1 f8)) ++ (Dat.sl n10 10 f10).els).length ≤ 1048576 ∧ n11 ≤ 1048576 := by
        have h2 := HN.out
        rw [List.length_append, List.length_append, els_len]
        omega
      obtain ⟨hl3, hl4⟩ := hl3
      go_wp2_with (first
        | (at_builtin; refine appM rfl (.tmp 26) (.tmp 28) rfl w1 w1.heap.size v1 ((L0 ++ rowsOf (.sl n8 1 f8)) ++ (Dat.sl n10 10 f10).els) a11 n11 p11 n11 10 f11 _ rfl rfl H2.own r11 q11 H2.b hl5 hl6 H2.b.size ?_; intro v2 w3 hown2 hb3)
        | (at_builtin; refine appM rfl (.tmp 22) (.tmp 24) rfl w1 w1.heap.size v (L0 ++ rowsOf (.sl n8 1 f8)) a10 n10 p10 n10 10 f10 _ rfl rfl H.own r10 q10 H.b (by omega) (by omega) H.b.size ?_; intro v1 w2 hown1 hb1; have H2 : LS w1 w2 W.heap.size #[.int .i64 c0, .bool c1, x2, x3, x4, x5, .int .i64 c6, .string c7, .slice a8 n8 p8, x9, .slice a10 n10 p10, .slice a11 n11 p11] v1 ((L0 ++ rowsOf (.sl n8 1 f8)) ++ (Dat.sl n10 10 f10).els) := H.app HX.out hown1 hb1; have b11 := H2.box.cell (i := 11) (v := .slice a11 n11 p11) rfl; have hl5 := Nat.le_trans hl3 (show 1048576 ≤ 2000000 by decide); have hl6 := Nat.le_trans hl4 (show 1048576 ≤ 2000000 by decide); clear b10 b1))
      go_ret
      exact ⟨_, w1, rfl, hown2.low HBB.out.size, H2.b.trans hb3, HBB.out.trans ((H2.b.trans hb3).mono HBB.out.size)⟩

set_option maxRecDepth 100000 in
set_option maxHeartbeats 8000000 in
theorem StmtDepth_spec (c : Nd) (c0 : Int) (c1 : Bool) (x2 x3 x4 x5 : Value) (c6 : Int) (c7 : ByteArray) (x8 x9 x10 x11 : Value) (W : World) (r2 : Rd W 0 x2 (c 2)) (r3 : Rd W 0 x3 (c 3)) (r4 : Rd W 0 x4 (c 4)) (r5 : Rd W 0 x5 (c 5)) (r8 : Rd W 0 x8 (c 8)) (r10 : Rd W 0 x10 (c 10)) (r11 : Rd W 0 x11 (c 11)) (hs : BdS c) :
    Calls Try.prog 60 #[.agg #[.int .i64 c0, .bool c1, x2, x3, x4, x5, .int .i64 c6, .string c7, x8, x9, x10, x11]] W (IntE ((depA.of ((stmtExprs c).map (foldE depA)) : Nat) : Int) W) := by
  have hO := fun w (h : Below W.heap.size W w) => stmtExprs_spec c c0 c1 x2 x3 x4 x5 c6 c7 x8 x9 x10 x11 w (r2.later h) (r3.later h) (r4.later h) (r5.later h) (r8.later h) (r10.later h) (r11.later h) hs
  have hbd := hs.bd
  have hws := hs.wsum
  have hsz := siz_wsum hbd
  have hdp := dep_siz (L := stmtExprs c)
  have hlen : (stmtExprs c).length ≤ 1048576 := by
    have key : ∀ L : List Nd, L.length ≤ wsum L := fun L => by
      induction L with
      | nil => exact Nat.le_refl _
      | cons a L ih => rw [List.length_cons, wsum_cons]; unfold wt; omega
    have := key (stmtExprs c); omega
  have hel : ∀ nd ∈ stmtExprs c, Fits (nd 8) .exprs ∧ Fits (nd 9) .queries ∧ DepthOfP nd := fun nd h => by
    have h1 := wsum_mem h
    have h2 := siz_wt (hbd nd h)
    exact ⟨(hbd nd h).f8, (hbd nd h).f9, (depthOf_all 1048577).1 nd (by omega) (by omega) (hbd nd h).f8 (hbd nd h).f9⟩
  have hD : depA.of ((stmtExprs c).map (foldE depA)) ≤ 1048576 := by omega
  clear hbd hws hsz hdp
  generalize stmtExprs c = L at *
  have hpre : ∀ j, j ≤ L.length → depA.of ((L.take j).map (foldE depA)) ≤ 1048576 := fun j _ => by
    have e : L = L.take j ++ L.drop j := (List.take_append_drop _ _).symm
    have h : depA.of (L.map (foldE depA)) = depA.up (depA.of ((L.take j).map (foldE depA))) (depA.of ((L.drop j).map (foldE depA))) := by
      conv => lhs; rw [e]
      rw [List.map_append, depA_good.of_append]
    have h2 : ∀ a b : Nat, a ≤ depA.up a b := fun a b => by show a ≤ max a b; omega
    have := h2 (depA.of ((L.take j).map (foldE depA))) (depA.of ((L.drop j).map (foldE depA)))
    omega
  have hsn : ∀ j (h : j < L.length), depA.of ((L.take (j + 1)).map (foldE depA)) = max (depA.of ((L.take j).map (foldE depA))) (foldE depA L[j]) := fun j h => by
    rw [take_next (List.getElem?_eq_getElem h), List.map_append, List.map_cons, List.map_nil, Alg.of_snoc]; rfl
  have hBx : Below W.heap.size W (W.alloc (.cells #[.int .i64 c0, .bool c1, x2, x3, x4, x5, .int .i64 c6, .string c7, x8, x9, x10, x11] 69)) := (Below.refl _ _).alloc (Nat.le_refl _) _
  have R := RowAt.new W 69 #[.int .i64 c0, .bool c1, x2, x3, x4, x5, .int .i64 c6, .string c7, x8, x9, x10, x11]
  go_enter Try.func60, Try.ntmps60
  go_wp2_with fail
  generalize (W.alloc (.cells #[.int .i64 c0, .bool c1, x2, x3, x4, x5, .int .i64 c6, .string c7, x8, x9, x10, x11] 69)) = w1 at R hBx ⊢
  have X0 := R.cell (i := 0) (v := .int .i64 c0) rfl
  have X1 := R.cell (i := 1) (v := .bool c1) rfl
  have X2 := R.cell (i := 2) (v := x2) rfl
  have X3 := R.cell (i := 3) (v := x3) rfl
  have X4 := R.cell (i := 4) (v := x4) rfl
  have X5 := R.cell (i := 5) (v := x5) rfl
  have X6 := R.cell (i := 6) (v := .int .i64 c6) rfl
  have X7 := R.cell (i := 7) (v := .string c7) rfl
  have X8 := R.cell (i := 8) (v := x8) rfl
  have X9 := R.cell (i := 9) (v := x9) rfl
  have X10 := R.cell (i := 10) (v := x10) rfl
  have X11 := R.cell (i := 11) (v := x11) rfl

  try go_wp2_with fail
  refine (hO _ hBx).mono ?_
  clear hO X0 X1 X2 X3 X4 X5 X6 X7 X8 X9 X10 X11 R
  rintro e w2 ⟨v, w0, rfl, ho, hbw, hb2⟩
  obtain ⟨ag, pg, rfl, hr, hf⟩ := ho.rd hbw (by omega) (fun _ => .v undef)
  have hB2 := hBx.trans (hb2.mono hBx.size)
  clear ho hbw hb2 hBx w0
  have hB0 := Below.refl w2.heap.size w2
  go_wp2_with fail
  go_loopw [3, 5] (fun m i wr => ∃ (j K : Nat), j ≤ L.length ∧ i = .int .i64 (j : Int) ∧ m = .int .i64 (K : Int) ∧ Hid (K = depA.of ((L.take j).map (foldE depA))) ∧ Below w2.heap.size w2 wr) (fun _ i _ => L.length - (intOf i).toNat)
  case atStart => exact ⟨0, 0, by omega, rfl, rfl, rfl, hB0⟩
  case round =>
    obtain ⟨j, K, hj, rfl, rfl, HA, hB⟩ := hrel
    by_cases hlt : j < L.length
    · have hlt2 : (j : Int) < (L.length : Int) := by omega
      obtain ⟨g, o, rfl, -, hg, y0, y1, y2, y3, y4, y5, y6, y7, y8, y9, ⟨z0, z1, z2, z3, z4, z5, z6, z7, z8, z9⟩, ⟨-, -, -, -, -, -, -, -, ⟨r8, q8⟩, ⟨r9, q9⟩⟩⟩ := row_exprs (hr.later hB) hf hlt
      have hgd : L.getD j (fun _ => Dat.v undef) = L[j] := by rw [List.getD_eq_getElem?_getD, List.getElem?_eq_getElem hlt]; rfl
      replace r8 : Rd wr 0 y8 (L[j] 8) := by rw [← hgd]; exact r8
      replace r9 : Rd wr 0 y9 (L[j] 9) := by rw [← hgd]; exact r9
      clear q8 q9 hgd
      obtain ⟨q8, q9, hP⟩ := hel L[j] (List.getElem_mem hlt)
      unfold DepthOfP at hP
      have hS := fun w => hP y0 y1 y2 y3 y4 y5 y6 y7 y8 y9 w
      have hs1 := hsn j hlt
      have hs2 := hpre (j + 1) (by omega)
      rw [hs1] at hs2
      rw [← HA.out] at hs1 hs2
      clear hP
      generalize hV : foldE depA L[j] = V at hS hs1 hs2
      clear hV
      have HS := Lib.hid hs1.symm
      clear hs1 HA
      have hM := fun w => max_spec K V w (by omega) (by omega)
      generalize max K V = M at hM HS
      go_wp2_with fail
      refine (hS _ r8 q8 r9 q9).mono ?_
      rintro e w3 ⟨rfl, hb⟩
      replace hb := hB.trans (hb.mono hB.size)
      go_wp2_with fail
      refine (hM _).mono ?_
      rintro e w4 ⟨rfl, rfl⟩
      go_wp2_with fail
      go_roundw
      case rel => exact ⟨j + 1, M, by omega, by go_num, rfl, HS.out, hb⟩
      case measure => simp [intOf]; omega
    · obtain rfl : j = L.length := by omega
      have h := HA.out
      rw [List.take_length] at h
      have HH := Lib.hid h
      have hBB := hB2.trans (hB.mono hB2.size)
      clear hlt hj HA h
      go_wp2_with fail
      go_ret
      have h := HH.out
      subst h
      exact ⟨rfl, hBB⟩

set_option maxRecDepth 100000 in
set_option maxHeartbeats 8000000 in
theorem StmtSize_spec (c : Nd) (c0 : Int) (c1 : Bool) (x2 x3 x4 x5 : Value) (c6 : Int) (c7 : ByteArray) (x8 x9 x10 x11 : Value) (W : World) (r2 : Rd W 0 x2 (c 2)) (r3 : Rd W 0 x3 (c 3)) (r4 : Rd W 0 x4 (c 4)) (r5 : Rd W 0 x5 (c 5)) (r8 : Rd W 0 x8 (c 8)) (r10 : Rd W 0 x10 (c 10)) (r11 : Rd W 0 x11 (c 11)) (hs : BdS c) :
    Calls Try.prog 61 #[.agg #[.int .i64 c0, .bool c1, x2, x3, x4, x5, .int .i64 c6, .string c7, x8, x9, x10, x11]] W (IntE ((sizA.of ((stmtExprs c).map (foldE sizA)) : Nat) : Int) W) := by
  have hO := fun w (h : Below W.heap.size W w) => stmtExprs_spec c c0 c1 x2 x3 x4 x5 c6 c7 x8 x9 x10 x11 w (r2.later h) (r3.later h) (r4.later h) (r5.later h) (r8.later h) (r10.later h) (r11.later h) hs
  have hbd := hs.bd
  have hws := hs.wsum
  have hsz := siz_wsum hbd
  have hdp := dep_siz (L := stmtExprs c)
  have hlen : (stmtExprs c).length ≤ 1048576 := by
    have key : ∀ L : List Nd, L.length ≤ wsum L := fun L => by
      induction L with
      | nil => exact Nat.le_refl _
      | cons a L ih => rw [List.length_cons, wsum_cons]; unfold wt; omega
    have := key (stmtExprs c); omega
  have hel : ∀ nd ∈ stmtExprs c, Fits (nd 8) .exprs ∧ Fits (nd 9) .queries ∧ SizeOfP nd := fun nd h => by
    have h1 := wsum_mem h
    have h2 := siz_wt (hbd nd h)
    exact ⟨(hbd nd h).f8, (hbd nd h).f9, (sizeOf_all 1048577).1 nd (by omega) (by omega) (hbd nd h).f8 (hbd nd h).f9⟩
  have hD : sizA.of ((stmtExprs c).map (foldE sizA)) ≤ 1048576 := by omega
  clear hbd hws hsz hdp
  generalize stmtExprs c = L at *
  have hpre : ∀ j, j ≤ L.length → sizA.of ((L.take j).map (foldE sizA)) ≤ 1048576 := fun j _ => by
    have e : L = L.take j ++ L.drop j := (List.take_append_drop _ _).symm
    have h : sizA.of (L.map (foldE sizA)) = sizA.up (sizA.of ((L.take j).map (foldE sizA))) (sizA.of ((L.drop j).map (foldE sizA))) := by
      conv => lhs; rw [e]
      rw [List.map_append, sizA_good.of_append]
    have h2 : ∀ a b : Nat, a ≤ sizA.up a b := fun a b => by show a ≤ a + b; omega
    have := h2 (sizA.of ((L.take j).map (foldE sizA))) (sizA.of ((L.drop j).map (foldE sizA)))
    omega
  have hsn : ∀ j (h : j < L.length), sizA.of ((L.take (j + 1)).map (foldE sizA)) = sizA.of ((L.take j).map (foldE sizA)) + foldE sizA L[j] := fun j h => by
    rw [take_next (List.getElem?_eq_getElem h), List.map_append, List.map_cons, List.map_nil, Alg.of_snoc]; rfl
  have hBx : Below W.heap.size W (W.alloc (.cells #[.int .i64 c0, .bool c1, x2, x3, x4, x5, .int .i64 c6, .string c7, x8, x9, x10, x11] 69)) := (Below.refl _ _).alloc (Nat.le_refl _) _
  have R := RowAt.new W 69 #[.int .i64 c0, .bool c1, x2, x3, x4, x5, .int .i64 c6, .string c7, x8, x9, x10, x11]
  go_enter Try.func61, Try.ntmps61
  go_wp2_with fail
  generalize (W.alloc (.cells #[.int .i64 c0, .bool c1, x2, x3, x4, x5, .int .i64 c6, .string c7, x8, x9, x10, x11] 69)) = w1 at R hBx ⊢
  have X0 := R.cell (i := 0) (v := .int .i64 c0) rfl
  have X1 := R.cell (i := 1) (v := .bool c1) rfl
  have X2 := R.cell (i := 2) (v := x2) rfl
  have X3 := R.cell (i := 3) (v := x3) rfl
  have X4 := R.cell (i := 4) (v := x4) rfl
  have X5 := R.cell (i := 5) (v := x5) rfl
  have X6 := R.cell (i := 6) (v := .int .i64 c6) rfl
  have X7 := R.cell (i := 7) (v := .string c7) rfl
  have X8 := R.cell (i := 8) (v := x8) rfl
  have X9 := R.cell (i := 9) (v := x9) rfl
  have X10 := R.cell (i := 10) (v := x10) rfl
  have X11 := R.cell (i := 11) (v := x11) rfl

  try go_wp2_with fail
  refine (hO _ hBx).mono ?_
  clear hO X0 X1 X2 X3 X4 X5 X6 X7 X8 X9 X10 X11 R
  rintro e w2 ⟨v, w0, rfl, ho, hbw, hb2⟩
  obtain ⟨ag, pg, rfl, hr, hf⟩ := ho.rd hbw (by omega) (fun _ => .v undef)
  have hB2 := hBx.trans (hb2.mono hBx.size)
  clear ho hbw hb2 hBx w0
  have hB0 := Below.refl w2.heap.size w2
  go_wp2_with fail
  go_loopw [3, 5] (fun m i wr => ∃ (j K : Nat), j ≤ L.length ∧ i = .int .i64 (j : Int) ∧ m = .int .i64 (K : Int) ∧ Hid (K = sizA.of ((L.take j).map (foldE sizA))) ∧ Below w2.heap.size w2 wr) (fun _ i _ => L.length - (intOf i).toNat)
  case atStart => exact ⟨0, 0, by omega, rfl, rfl, rfl, hB0⟩
  case round =>
    obtain ⟨j, K, hj, rfl, rfl, HA, hB⟩ := hrel
    by_cases hlt : j < L.length
    · have hlt2 : (j : Int) < (L.length : Int) := by omega
      obtain ⟨g, o, rfl, -, hg, y0, y1, y2, y3, y4, y5, y6, y7, y8, y9, ⟨z0, z1, z2, z3, z4, z5, z6, z7, z8, z9⟩, ⟨-, -, -, -, -, -, -, -, ⟨r8, q8⟩, ⟨r9, q9⟩⟩⟩ := row_exprs (hr.later hB) hf hlt
      have hgd : L.getD j (fun _ => Dat.v undef) = L[j] := by rw [List.getD_eq_getElem?_getD, List.getElem?_eq_getElem hlt]; rfl
      replace r8 : Rd wr 0 y8 (L[j] 8) := by rw [← hgd]; exact r8
      replace r9 : Rd wr 0 y9 (L[j] 9) := by rw [← hgd]; exact r9
      clear q8 q9 hgd
      obtain ⟨q8, q9, hP⟩ := hel L[j] (List.getElem_mem hlt)
      unfold SizeOfP at hP
      have hS := fun w => hP y0 y1 y2 y3 y4 y5 y6 y7 y8 y9 w
      have hs1 := hsn j hlt
      have hs2 := hpre (j + 1) (by omega)
      rw [hs1] at hs2
      rw [← HA.out] at hs1 hs2
      clear hP
      generalize hV : foldE sizA L[j] = V at hS hs1 hs2
      clear hV
      have HS := Lib.hid hs1.symm
      clear hs1 HA
      have hk1 : K + V ≤ 1048576 := hs2
      go_wp2_with fail
      refine (hS _ r8 q8 r9 q9).mono ?_
      rintro e w3 ⟨rfl, hb⟩
      replace hb := hB.trans (hb.mono hB.size)
      go_wp2_with fail
      go_roundw
      case rel => exact ⟨j + 1, K + V, by omega, by go_num, by go_num, HS.out, hb⟩
      case measure => simp [intOf]; omega
    · obtain rfl : j = L.length := by omega
      have h := HA.out
      rw [List.take_length] at h
      have HH := Lib.hid h
      have hBB := hB2.trans (hB.mono hB2.size)
      clear hlt hj HA h
      go_wp2_with fail
      go_ret
      have h := HH.out
      subst h
      exact ⟨rfl, hBB⟩
end Go.Proofs.Ytbbfanhhldbhhaa

/- The program's greatest, StmtDepth and StmtSize. -/
namespace Go.Proofs.Ytbbfanhhldbhhaa
open Go.RowKit
set_option linter.unusedVariables false
set_option maxRecDepth 100000 in
set_option maxHeartbeats 8000000 in
theorem greatest_any (w0 W : World) (a1 : Option Addr) (p1 : Nat) (L : List Nd) (hb0 : Below w0.heap.size w0 W)
    (h1 : LK exprTy w0 W (fun _ => True) (.slice a1 L.length p1) L) (hN : L.length ≤ 1048576) (hD : depA.of (L.map (foldE depA)) ≤ 1048576)
    (hL : ∀ c ∈ L, Bd c ∧ msr (c 8) + msr (c 9) ≤ 1048576) :
    Calls Try.prog 110 #[.int .i64 0, .slice a1 L.length p1, .func (.func 34) #[] #[]] W (IntE ((depA.of (L.map (foldE depA)) : Nat) : Int) W) := by
  have hB0 := Below.refl W.heap.size W
  have hpre : ∀ j, j ≤ L.length → depA.of ((L.take j).map (foldE depA)) ≤ 1048576 := fun j _ => by
    have e : L = L.take j ++ L.drop j := (List.take_append_drop _ _).symm
    have h : depA.of (L.map (foldE depA)) = max (depA.of ((L.take j).map (foldE depA))) (depA.of ((L.drop j).map (foldE depA))) := by
      conv => lhs; rw [e]
      rw [List.map_append, depA_good.of_append]; rfl
    omega
  have hsn : ∀ j (h : j < L.length), depA.of ((L.take (j + 1)).map (foldE depA)) = max (depA.of ((L.take j).map (foldE depA))) (foldE depA L[j]) := fun j h => by
    rw [take_next (List.getElem?_eq_getElem h), List.map_append, List.map_cons, List.map_nil, Alg.of_snoc]; rfl
  go_enter Try.func110, Try.ntmps110
  go_wp2_with fail
  go_loopw [0, 11] (fun m i wr => ∃ (j K : Nat), j ≤ L.length ∧ i = .int .i64 (j : Int) ∧ m = .int .i64 (K : Int) ∧ Hid (K = depA.of ((L.take j).map (foldE depA))) ∧ Below W.heap.size W wr) (fun _ i _ => L.length - (intOf i).toNat)
  case atStart => exact ⟨0, 0, by omega, rfl, rfl, rfl, hB0⟩
  case round =>
    obtain ⟨j, K, hj, rfl, rfl, HA, hB⟩ := hrel
    by_cases hlt : j < L.length
    · have hlt2 : (j : Int) < (L.length : Int) := by omega
      obtain ⟨g, o, cap', ys, hv, hys, -, hg, hcell⟩ := h1.at (List.getElem?_eq_getElem hlt)
      injection hv with e1 _ e3
      subst e1; subst e3
      obtain ⟨hbd, hmm⟩ := hL L[j] (List.getElem_mem hlt)
      have hDI := DepthOf_impl L[j] hmm hbd.f8 hbd.f9
      obtain ⟨x0, x1, x2, x3, x4, x5, x6, x7, ax8, nx8, px8, ax9, nx9, px9, rfl, ⟨-, g0, k0⟩, ⟨-, g1, k1⟩, -, ⟨-, g3, k3⟩, ⟨-, g4, k4⟩, ⟨-, b5⟩, ⟨-, b6⟩, ⟨-, b7⟩, ⟨r8, q8⟩, ⟨r9, q9⟩⟩ := hys.ten
      unfold DepthOfI at hDI
      have HC := fun w' (h : Below w0.heap.size w0 w') => hDI x0 x1 x2 x3 x4 x5 x6 x7 (.slice ax8 nx8 px8) (.slice ax9 nx9 px9) w' ⟨g0, k0⟩ ⟨g1, k1⟩ ⟨g3, k3⟩ ⟨g4, k4⟩ b5 b6 b7 (r8.later h) q8 (r9.later h) q9
      have z0 : wr.cell? ⟨g, o + j * 10, none⟩ = some (.int .i64 x0) := (hB.cell (p := ⟨g, o + j * 10, none⟩) hg).trans (hcell 0 _ rfl)
      have z1 : wr.cell? ⟨g, o + j * 10 + 1, none⟩ = some (.int .i64 x1) := (hB.cell (p := ⟨g, o + j * 10 + 1, none⟩) hg).trans (hcell 1 _ rfl)
      have z2 : wr.cell? ⟨g, o + j * 10 + 2, none⟩ = some (.bool x2) := (hB.cell (p := ⟨g, o + j * 10 + 2, none⟩) hg).trans (hcell 2 _ rfl)
      have z3 : wr.cell? ⟨g, o + j * 10 + 3, none⟩ = some (.int .i64 x3) := (hB.cell (p := ⟨g, o + j * 10 + 3, none⟩) hg).trans (hcell 3 _ rfl)
      have z4 : wr.cell? ⟨g, o + j * 10 + 4, none⟩ = some (.int .i64 x4) := (hB.cell (p := ⟨g, o + j * 10 + 4, none⟩) hg).trans (hcell 4 _ rfl)
      have z5 : wr.cell? ⟨g, o + j * 10 + 5, none⟩ = some (.string x5) := (hB.cell (p := ⟨g, o + j * 10 + 5, none⟩) hg).trans (hcell 5 _ rfl)
      have z6 : wr.cell? ⟨g, o + j * 10 + 6, none⟩ = some (.string x6) := (hB.cell (p := ⟨g, o + j * 10 + 6, none⟩) hg).trans (hcell 6 _ rfl)
      have z7 : wr.cell? ⟨g, o + j * 10 + 7, none⟩ = some (.string x7) := (hB.cell (p := ⟨g, o + j * 10 + 7, none⟩) hg).trans (hcell 7 _ rfl)
      have z8 : wr.cell? ⟨g, o + j * 10 + 8, none⟩ = some (.slice ax8 nx8 px8) := (hB.cell (p := ⟨g, o + j * 10 + 8, none⟩) hg).trans (hcell 8 _ rfl)
      have z9 : wr.cell? ⟨g, o + j * 10 + 9, none⟩ = some (.slice ax9 nx9 px9) := (hB.cell (p := ⟨g, o + j * 10 + 9, none⟩) hg).trans (hcell 9 _ rfl)
      have hgw : g < wr.heap.size := Nat.lt_of_lt_of_le hg hB.size
      clear hcell hys hDI g0 k0 g1 k1 g3 k3 g4 k4 b5 b6 b7 r8 q8 r9 q9 hbd hmm
      have hal2 : Below wr.heap.size wr (wr.alloc (.cells #[.int .i64 x0, .int .i64 x1, .bool x2, .int .i64 x3, .int .i64 x4, .string x5, .string x6, .string x7, .slice ax8 nx8 px8, .slice ax9 nx9 px9] 34)) := (Below.refl _ _).alloc (Nat.le_refl _) _
      have hb2 := (hb0.trans (hB.mono hb0.size)).trans (hal2.mono (Nat.le_trans hb0.size hB.size))
      have hB2 := hB.trans (hal2.mono hB.size)
      have HCC := HC _ hb2
      have hs1 := hsn j hlt
      have hs2 := hpre (j + 1) (by omega)
      rw [hs1] at hs2
      rw [← HA.out] at hs1 hs2
      clear HC hal2 hb2
      generalize hV : foldE depA L[j] = V at HCC hs1 hs2
      clear hV
      have HS := Lib.hid hs1.symm
      have hk1 : K ≤ 1048576 := by omega
      have hk2 : V ≤ 1048576 := by omega
      clear hs1 hs2
      go_wp2_with fail
      refine HCC.mono ?_
      clear HCC
      rintro e w2 ⟨rfl, hb2⟩
      have hB3 := hB2.trans (hb2.mono hB2.size)
      clear hb2 hB2 z0 z1 z2 z3 z4 z5 z6 z7 z8 z9
      by_cases hKV : K ≤ V
      · have hmax : max K V = V := by omega
        have hk3 : (K : Int) ≤ (V : Int) := by omega
        go_wp2_with fail
        go_roundw
        case rel => exact ⟨j + 1, V, by omega, by go_num, by first | rfl | go_num | (congr 1; omega), by show V = _; rw [← HS.out]; omega, hB3⟩
        case measure => simp [intOf]; omega
      · have hk3 : ¬ (K : Int) ≤ (V : Int) := by omega
        have hk4 : (V : Int) < (K : Int) := by omega
        go_wp2_with fail
        go_roundw
        case rel => exact ⟨j + 1, K, by omega, by go_num, by first | rfl | go_num | (congr 1; omega), by show K = _; rw [← HS.out]; omega, hB3⟩
        case measure => simp [intOf]; omega
    · obtain rfl : j = L.length := by omega
      have h := HA.out
      rw [List.take_length] at h
      have HH := Lib.hid h
      clear hlt hj HA h
      go_wp2_with fail
      go_ret
      have h := HH.out
      subst h
      exact ⟨rfl, hB⟩

set_option maxRecDepth 100000 in
set_option maxHeartbeats 8000000 in
theorem StmtDepth_any (w0 W : World) (c : Nd) (ys : List Value) (hys : OutK stTy w0 ys [c]) (hb0 : Below w0.heap.size w0 W) (hs : BdS c) :
    Calls Try.prog 45 #[.agg ys.toArray] W (IntE ((depA.of ((stmtExprs c).map (foldE depA)) : Nat) : Int) W) := by
  have hO := fun w h => atTop_any w0 w c ys hys h hs
  have hbd := hs.bd
  have hws := hs.wsum
  have hsz := siz_wsum hbd
  have hdp := dep_siz (L := stmtExprs c)
  have hmm : ∀ nd ∈ stmtExprs c, Bd nd ∧ msr (nd 8) + msr (nd 9) ≤ 1048576 := fun nd h => ⟨hbd nd h, by have h1 := wsum_mem h; unfold wt at h1; omega⟩
  have hlen : (stmtExprs c).length ≤ 1048576 := by
    have key : ∀ L : List Nd, L.length ≤ wsum L := fun L => by
      induction L with
      | nil => exact Nat.le_refl _
      | cons a L ih => rw [List.length_cons, wsum_cons]; unfold wt; omega
    have := key (stmtExprs c); omega
  obtain ⟨c0, c1, a2, n2, p2, a3, n3, p3, a4, n4, p4, a5, n5, p5, c6, c7, a8, n8, p8, a9, n9, p9, a10, n10, p10, a11, n11, p11, rfl, -⟩ := hys.stmtRow
  generalize stmtExprs c = L at *
  have R := RowAt.new W 69 #[.int .i64 c0, .bool c1, .slice a2 n2 p2, .slice a3 n3 p3, .slice a4 n4 p4, .slice a5 n5 p5, .int .i64 c6, .string c7, .slice a8 n8 p8, .slice a9 n9 p9, .slice a10 n10 p10, .slice a11 n11 p11]
  have hB : Below W.heap.size W (W.alloc (.cells #[.int .i64 c0, .bool c1, .slice a2 n2 p2, .slice a3 n3 p3, .slice a4 n4 p4, .slice a5 n5 p5, .int .i64 c6, .string c7, .slice a8 n8 p8, .slice a9 n9 p9, .slice a10 n10 p10, .slice a11 n11 p11] 69)) := (Below.refl _ _).alloc (Nat.le_refl _) _
  go_enter Try.func45, Try.ntmps45
  go_wp2_with fail
  generalize (W.alloc (.cells #[.int .i64 c0, .bool c1, .slice a2 n2 p2, .slice a3 n3 p3, .slice a4 n4 p4, .slice a5 n5 p5, .int .i64 c6, .string c7, .slice a8 n8 p8, .slice a9 n9 p9, .slice a10 n10 p10, .slice a11 n11 p11] 69)) = w1 at R hB ⊢
  have hz := hb0.trans (hB.mono hb0.size)
  have X0 := R.cell (i := 0) (v := .int .i64 c0) rfl
  have X1 := R.cell (i := 1) (v := .bool c1) rfl
  have X2 := R.cell (i := 2) (v := .slice a2 n2 p2) rfl
  have X3 := R.cell (i := 3) (v := .slice a3 n3 p3) rfl
  have X4 := R.cell (i := 4) (v := .slice a4 n4 p4) rfl
  have X5 := R.cell (i := 5) (v := .slice a5 n5 p5) rfl
  have X6 := R.cell (i := 6) (v := .int .i64 c6) rfl
  have X7 := R.cell (i := 7) (v := .string c7) rfl
  have X8 := R.cell (i := 8) (v := .slice a8 n8 p8) rfl
  have X9 := R.cell (i := 9) (v := .slice a9 n9 p9) rfl
  have X10 := R.cell (i := 10) (v := .slice a10 n10 p10) rfl
  have X11 := R.cell (i := 11) (v := .slice a11 n11 p11) rfl
  clear R
  try go_wp2_with fail
  refine (hO _ hz).mono ?_
  clear hO X0 X1 X2 X3 X4 X5 X6 X7 X8 X9 X10 X11
  rintro e w2 ⟨v, rfl, ho, hb2⟩
  have hB2 := hb0.trans ((hB.trans (hb2.mono hB.size)).mono hb0.size)
  have hf2 := hB.trans (hb2.mono hB.size)
  have hlk : LK exprTy w0 w2 (fun _ => True) v L := ho.lk fun _ _ _ => trivial
  obtain ⟨vv, hvv⟩ : ∃ vv, vv = v := ⟨_, rfl⟩
  rw [← hvv] at hlk ⊢
  clear hvv ho
  obtain ⟨ag, pg, rfl⟩ := hlk.slice
  have hD := greatest_any w0 w2 ag pg L hB2 hlk hlen (by omega) hmm
  go_wp2_with fail
  refine hD.mono ?_
  clear hD
  rintro e w3 ⟨rfl, hb3⟩
  have hfb := hf2.trans (hb3.mono hf2.size)
  go_wp2_with fail
  go_ret
  exact ⟨rfl, hfb⟩

set_option maxRecDepth 100000 in
set_option maxHeartbeats 8000000 in
theorem StmtSize_any (w0 W : World) (c : Nd) (ys : List Value) (hys : OutK stTy w0 ys [c]) (hb0 : Below w0.heap.size w0 W) (hs : BdS c) :
    Calls Try.prog 46 #[.agg ys.toArray] W (IntE ((sizA.of ((stmtExprs c).map (foldE sizA)) : Nat) : Int) W) := by
  have hO := fun w h => atTop_any w0 w c ys hys h hs
  have hbd := hs.bd
  have hws := hs.wsum
  have hsz := siz_wsum hbd
  have hdp := dep_siz (L := stmtExprs c)
  have hmm : ∀ nd ∈ stmtExprs c, Bd nd ∧ msr (nd 8) + msr (nd 9) ≤ 1048576 := fun nd h => ⟨hbd nd h, by have h1 := wsum_mem h; unfold wt at h1; omega⟩
  have hlen : (stmtExprs c).length ≤ 1048576 := by
    have key : ∀ L : List Nd, L.length ≤ wsum L := fun L => by
      induction L with
      | nil => exact Nat.le_refl _
      | cons a L ih => rw [List.length_cons, wsum_cons]; unfold wt; omega
    have := key (stmtExprs c); omega
  obtain ⟨c0, c1, a2, n2, p2, a3, n3, p3, a4, n4, p4, a5, n5, p5, c6, c7, a8, n8, p8, a9, n9, p9, a10, n10, p10, a11, n11, p11, rfl, -⟩ := hys.stmtRow
  generalize stmtExprs c = L at *
  have R := RowAt.new W 69 #[.int .i64 c0, .bool c1, .slice a2 n2 p2, .slice a3 n3 p3, .slice a4 n4 p4, .slice a5 n5 p5, .int .i64 c6, .string c7, .slice a8 n8 p8, .slice a9 n9 p9, .slice a10 n10 p10, .slice a11 n11 p11]
  have hB : Below W.heap.size W (W.alloc (.cells #[.int .i64 c0, .bool c1, .slice a2 n2 p2, .slice a3 n3 p3, .slice a4 n4 p4, .slice a5 n5 p5, .int .i64 c6, .string c7, .slice a8 n8 p8, .slice a9 n9 p9, .slice a10 n10 p10, .slice a11 n11 p11] 69)) := (Below.refl _ _).alloc (Nat.le_refl _) _
  go_enter Try.func46, Try.ntmps46
  go_wp2_with fail
  generalize (W.alloc (.cells #[.int .i64 c0, .bool c1, .slice a2 n2 p2, .slice a3 n3 p3, .slice a4 n4 p4, .slice a5 n5 p5, .int .i64 c6, .string c7, .slice a8 n8 p8, .slice a9 n9 p9, .slice a10 n10 p10, .slice a11 n11 p11] 69)) = w1 at R hB ⊢
  have hz := hb0.trans (hB.mono hb0.size)
  have X0 := R.cell (i := 0) (v := .int .i64 c0) rfl
  have X1 := R.cell (i := 1) (v := .bool c1) rfl
  have X2 := R.cell (i := 2) (v := .slice a2 n2 p2) rfl
  have X3 := R.cell (i := 3) (v := .slice a3 n3 p3) rfl
  have X4 := R.cell (i := 4) (v := .slice a4 n4 p4) rfl
  have X5 := R.cell (i := 5) (v := .slice a5 n5 p5) rfl
  have X6 := R.cell (i := 6) (v := .int .i64 c6) rfl
  have X7 := R.cell (i := 7) (v := .string c7) rfl
  have X8 := R.cell (i := 8) (v := .slice a8 n8 p8) rfl
  have X9 := R.cell (i := 9) (v := .slice a9 n9 p9) rfl
  have X10 := R.cell (i := 10) (v := .slice a10 n10 p10) rfl
  have X11 := R.cell (i := 11) (v := .slice a11 n11 p11) rfl
  clear R
  try go_wp2_with fail
  refine (hO _ hz).mono ?_
  clear hO X0 X1 X2 X3 X4 X5 X6 X7 X8 X9 X10 X11
  rintro e w2 ⟨v, rfl, ho, hb2⟩
  have hB2 := hb0.trans ((hB.trans (hb2.mono hB.size)).mono hb0.size)
  have hf2 := hB.trans (hb2.mono hB.size)
  have hlk : LK exprTy w0 w2 (fun _ => True) v L := ho.lk fun _ _ _ => trivial
  obtain ⟨vv, hvv⟩ : ∃ vv, vv = v := ⟨_, rfl⟩
  rw [← hvv] at hlk ⊢
  clear hvv ho
  have hD := total_any w0 w2 L vv hB2 hlk hbd (by rw [len_flat]; omega)
  go_wp2_with fail
  refine hD.mono ?_
  clear hD
  rintro e w3 ⟨rfl, hb3⟩
  rw [len_flat]
  have hfb := hf2.trans (hb3.mono hf2.size)
  go_wp2_with fail
  go_ret
  exact ⟨rfl, hfb⟩
end Go.Proofs.Ytbbfanhhldbhhaa
