/- Joined texts: ExprsQ ExprsQS LeftS OksI OkX OkS. -/
import Derived.Test.YtkacelpndeoogaaQHSameQX
import Derived.Test.YtkacelpndeoogaaQPP
import Derived.Test.YtkacelpndeoogaaQHFoldS
import Derived.Test.YtkacelpndeoogaaQPU
import Derived.Test.YtkacelpndeoogaaQPK
import Derived.Test.YtkacelpndeoogaaQHRightQ
/- The program's expressions of a query. -/
namespace Go.Proofs.Ytkacelpndeoogaa
open Go.RowKit

/-- the expressions of a query -/
theorem exprsInQ_any (w0 W : World) (q : Nd) (ys : List Value) (hys : OutK (rowTy .queries) w0 ys [q]) (hb0 : Below w0.heap.size w0 W) (hq : BdQ q) :
    Calls Try.prog 43 #[.agg ys.toArray] W fun e w' => ∃ v, e = .returned v ∧ OutE w0 w' (W.heap.size + 1) v (exprsOf q) ∧ Below W.heap.size W w' := by
  obtain ⟨c0, a1, n1, p1, a2, n2, p2, a3, n3, p3, a4, n4, p4, c5, rfl, -, ⟨r1, q1⟩, ⟨r2, q2⟩, ⟨r3, q3⟩, ⟨r4, q4⟩, -⟩ := hys.queryRow
  have hm := hq.m
  obtain ⟨f1, e1, r1, q1⟩ := r1.openS q1 rfl
  obtain ⟨f2, e2, r2, q2⟩ := r2.openS q2 rfl
  obtain ⟨f3, e3, r3, q3⟩ := r3.openS q3 rfl
  obtain ⟨f4, e4, r4, q4⟩ := r4.openS q4 rfl
  have hs : exprsOf q = ((exItems (.sl n1 13 f1) ++ exFrom (.sl n2 3 f2)) ++ (Dat.sl n3 10 f3).els) ++ (Dat.sl n4 11 f4).els := by
    unfold exprsOf; rw [e1, e2, e3, e4]; rfl
  have hN : n1 + (exFrom (.sl n2 3 f2)).length + n3 + n4 ≤ 1048576 := by
    rw [e1, e2, e3, e4] at hm
    replace hm : msr (.sl n1 13 f1) + msr (.sl n2 3 f2) + msr (.sl n3 10 f3) + msr (.sl n4 11 f4) ≤ 1048576 := hm
    have k1 := msr_n n1 13 f1
    have k2 := exFrom_msr q2
    have k3 := msr_n n3 10 f3
    have k4 := msr_n n4 11 f4
    omega
  have h := exprsIn_any w0 W c0 a1 n1 p1 a2 n2 p2 a3 n3 p3 a4 n4 p4 c5 f1 f2 f3 f4 hb0 r1 q1 r2 q2 r3 q3 r4 q4 hN
  rw [← hs] at h
  exact h
theorem BdQ.exprs {q : Nd} (h : BdQ q) : ∀ x ∈ exprsOf q, Bd x := by
  have hm := h.m
  exact queryBd h.f.1 h.f.2.1 h.f.2.2.1 h.f.2.2.2 (by omega) (by omega) (by omega) (by omega)
theorem BdQ.len {q : Nd} (h : BdQ q) : ((exprsOf q).flatMap (pre 1)).length ≤ 2000000 := by
  have hm := h.m
  have g1 := siz_le (q 1) _ h.f.1
  have g2 := siz_le (q 2) _ h.f.2.1
  have g3 := siz_le (q 3) _ h.f.2.2.1
  have g4 := siz_le (q 4) _ h.f.2.2.2
  have hs : foldQ sizA q ≤ 1048576 := by show _ + _ + _ + _ ≤ _; omega
  rw [foldQ_is sizA_good h.f.1 h.f.2.1 h.f.2.2.1 h.f.2.2.2] at hs
  rw [len_flat]
  have : sizA.of ((exprsOf q).map (foldE sizA)) ≤ 1048576 := hs
  omega
end Go.Proofs.Ytkacelpndeoogaa

/- The model's expressions of a query, of whatever shape it be. -/
namespace Go.Proofs.Ytkacelpndeoogaa
open Go.RowKit

theorem sum_mono (g : Nat → Nat) {j n : Nat} (h : j ≤ n) : ((List.range j).map g).sum ≤ ((List.range n).map g).sum := by
  induction n with
  | zero => obtain rfl : j = 0 := by omega
            exact Nat.le_refl _
  | succ n ih =>
    by_cases e : j = n + 1
    · rw [e]; exact Nat.le_refl _
    · have := ih (by omega)
      rw [List.range_succ, List.map_append, List.sum_append]; omega
theorem sum_succ (g : Nat → Nat) (j : Nat) : ((List.range (j + 1)).map g).sum = ((List.range j).map g).sum + g j := by
  rw [List.range_succ, List.map_append, List.sum_append]; simp
theorem sizA_sum : ∀ l : List Nat, sizA.of l = l.sum
  | [] => rfl
  | a :: l => by rw [sizA_good.of_cons, sizA_sum l, List.sum_cons]; rfl
theorem sizE_val {c : Nd} {n8 n9 : Nat} {f8 f9 : Nat → Nat → Dat} (h8 : c 8 = .sl n8 10 f8) (h9 : c 9 = .sl n9 6 f9) : foldE sizA c = (1 + ((List.range n8).map fun i => foldE sizA (f8 i)).sum) + ((List.range n9).map fun i => foldQ sizA (f9 i)).sum := by
  rw [siz_parts h8 h9, sizA_sum, sizA_sum]; omega
/-- one query of a list, its expressions counted -/
theorem sizQ_val {q : Nd} (h : FitsQ q) (zz : Nd) : foldQ sizA q = ((List.range (exprsOf q).length).map fun i => foldE sizA ((exprsOf q).getD i zz)).sum := by
  rw [foldQ_is sizA_good h.1 h.2.1 h.2.2.1 h.2.2.2]
  show sizA.of _ = _
  rw [sizA_sum, range_getD (foldE sizA)]
/-- the model's expressions of a query, of whatever shape it be -/
theorem exprsQ_spec (q : Nd) (c0 : Bool) (x1 x2 x3 x4 : Value) (c5 : Int) (w : World) (r1 : Rd w 0 x1 (q 1)) (r2 : Rd w 0 x2 (q 2)) (r3 : Rd w 0 x3 (q 3)) (r4 : Rd w 0 x4 (q 4)) (hq : BdQ q) :
    Calls Try.prog 96 #[.agg #[.bool c0, x1, x2, x3, x4, .int .i64 c5]] w (ExprsE (exprsOf q) w) := by
  have q1 := hq.f.1
  have q2 := hq.f.2.1
  have q3 := hq.f.2.2.1
  have q4 := hq.f.2.2.2
  have hm := hq.m
  obtain ⟨n1, k1, f1, h1⟩ := q1.deep rfl
  obtain ⟨n2, k2, f2, h2⟩ := q2.deep rfl
  obtain ⟨n3, k3, f3, h3⟩ := q3.deep rfl
  obtain ⟨n4, k4, f4, h4⟩ := q4.deep rfl
  have hL : exprsOf q = ((exItems (.sl n1 k1 f1) ++ exFrom (.sl n2 k2 f2)) ++ (Dat.sl n3 k3 f3).els) ++ (Dat.sl n4 k4 f4).els := by unfold exprsOf; rw [h1, h2, h3, h4]
  rw [h1] at r1 q1
  rw [h2] at r2 q2
  rw [h3] at r3 q3
  rw [h4] at r4 q4
  obtain rfl : k1 = 13 := q1.2.2.1
  obtain rfl : k2 = 3 := q2.2.2.1
  obtain rfl : k3 = 10 := q3.2.2.1
  obtain rfl : k4 = 11 := q4.2.2.1
  have hcnt : (exItems (.sl n1 13 f1)).length + (exFrom (.sl n2 3 f2)).length + n3 + n4 ≤ 1048576 := by
    rw [h1, h2, h3, h4] at hm
    have k1 := msr_n n1 13 f1
    have k0 : (exItems (.sl n1 13 f1)).length ≤ n1 := by
      unfold exItems
      rw [List.length_map]
      exact Nat.le_trans (List.length_filter_le _ _) (Nat.le_of_eq (els_len n1 13 f1))
    have k2 := exFrom_msr q2
    have k3 := msr_n n3 10 f3
    have k4 := msr_n n4 11 f4
    omega
  obtain ⟨a1, p1, rfl⟩ := r1.slice
  obtain ⟨a2, p2, rfl⟩ := r2.slice
  obtain ⟨a3, p3, rfl⟩ := r3.slice
  obtain ⟨a4, p4, rfl⟩ := r4.slice
  rw [hL]
  exact exprs_spec c0 a1 n1 p1 a2 n2 p2 a3 n3 p3 a4 n4 p4 c5 f1 f2 f3 f4 w r1 q1 r2 q2 r3 q3 r4 q4 hcnt
theorem exprsQ_len {q : Nd} (hq : BdQ q) : (exprsOf q).length ≤ 1048576 := by
  have := exprs_len hq.f.1 hq.f.2.1 hq.f.2.2.1 hq.f.2.2.2
  have g1 := siz_le (q 1) _ hq.f.1
  have g2 := siz_le (q 2) _ hq.f.2.1
  have g3 := siz_le (q 3) _ hq.f.2.2.1
  have g4 := siz_le (q 4) _ hq.f.2.2.2
  have hm := hq.m
  have hs : foldQ sizA q ≤ 1048576 := by show _ + _ + _ + _ ≤ _; omega
  omega
theorem exprsQ_bd {q : Nd} (hq : BdQ q) : ∀ e ∈ exprsOf q, Bd e := by
  have hm := hq.m
  exact queryBd hq.f.1 hq.f.2.1 hq.f.2.2.1 hq.f.2.2.2 (by omega) (by omega) (by omega) (by omega)
end Go.Proofs.Ytkacelpndeoogaa

/- The model's count down over a tree's nodes. -/
namespace Go.Proofs.Ytkacelpndeoogaa
open Go.RowKit
set_option linter.unusedVariables false

/-- what is left of l behind s nodes; -1: there were more -/
def leftV (l : Int) (s : Nat) : Int := if (s : Int) ≤ l then l - s else -1
theorem leftV_lo (l : Int) (s : Nat) : -1 ≤ leftV l s := by unfold leftV; split <;> omega
theorem leftV_hi {l : Int} {s : Nat} (h : 0 ≤ l) : leftV l s ≤ l := by unfold leftV; split <;> omega
theorem leftV_stop {l : Int} {s t : Nat} (h : leftV l s < 0) (hst : s ≤ t) : leftV l t = leftV l s := by
  unfold leftV at h ⊢
  split at h
  · omega
  · rw [if_neg (by omega), if_neg (by omega)]
theorem leftV_step {l : Int} {s : Nat} (h : 0 ≤ leftV l s) (t : Nat) : leftV (leftV l s) t = leftV l (s + t) := by
  unfold leftV at h ⊢
  split at h
  · rename_i h1
    rw [if_pos h1]
    by_cases h2 : (t : Int) ≤ l - s
    · rw [if_pos h2, if_pos (by omega)]; omega
    · rw [if_neg h2, if_neg (by omega)]
  · omega
def LeftP (c : Nd) : Prop := ∀ (c0 c1 : Int) (c2 : Bool) (c3 c4 : Int) (c5 c6 c7 : ByteArray) (x8 x9 : Value) (l : Int) (w : World), 0 ≤ l → l ≤ 1048576 → Rd w 0 x8 (c 8) → Rd w 0 x9 (c 9) → Bd c →
  Calls Try.prog 45 #[.agg #[.int .i64 c0, .int .i64 c1, .bool c2, .int .i64 c3, .int .i64 c4, .string c5, .string c6, .string c7, x8, x9], .int .i64 l] w (IntE (leftV l (foldE sizA c)) w)
set_option maxRecDepth 100000 in
set_option maxHeartbeats 8000000 in
theorem left_step (c : Nd) (n8 n9 : Nat) (f8 f9 : Nat → Nat → Dat) (h8 : c 8 = .sl n8 10 f8) (h9 : c 9 = .sl n9 6 f9)
    (IHk : ∀ i, i < n8 → LeftP (f8 i)) (IHs : ∀ i, i < n9 → ∀ e ∈ exprsOf (f9 i), LeftP e) : LeftP c := by
  intro c0 c1 c2 c3 c4 c5 c6 c7 x8 x9 l w hl0 hl1 r8_ r9 hbd
  have q8 := hbd.f8
  have q9 := hbd.f9
  have m8 := hbd.m8
  have m9 := hbd.m9
  have hqs := hbd.query
  have hv := sizE_val h8 h9
  rw [h8] at r8_ q8 m8
  rw [h9] at r9 q9 m9 hqs
  obtain ⟨a8, p8, rfl⟩ := r8_.slice
  obtain ⟨a9, p9, rfl⟩ := r9.slice
  have hn8 : n8 ≤ 1048576 := Nat.le_trans (msr_n n8 10 f8) m8
  have hn9 : n9 ≤ 1048576 := Nat.le_trans (msr_n n9 6 f9) m9
  have hB8 : ∀ i, i < n8 → Bd (f8 i) := fun i hi => exprs_bd q8 m8 _ (mem_el hi)
  have hB9 : ∀ i, i < n9 → BdQ (f9 i) := fun i hi => hqs _ (mem_el hi)
  obtain ⟨S8, hS8⟩ : ∃ S8 : Nat → Nat, S8 = fun j => 1 + ((List.range j).map fun i => foldE sizA (f8 i)).sum := ⟨_, rfl⟩
  obtain ⟨S9, hS9⟩ : ∃ S9 : Nat → Nat, S9 = fun j => (1 + ((List.range n8).map fun i => foldE sizA (f8 i)).sum) + ((List.range j).map fun i => foldQ sizA (f9 i)).sum := ⟨_, rfl⟩
  have hS80 : S8 0 = 1 := by rw [hS8]; rfl
  have hS90 : S9 0 = S8 n8 := by rw [hS9, hS8]; rfl
  have hS8s : ∀ j, S8 (j + 1) = S8 j + foldE sizA (f8 j) := fun j => by rw [hS8]; show 1 + _ = (1 + _) + _; rw [sum_succ]; omega
  have hS9s : ∀ j, S9 (j + 1) = S9 j + foldQ sizA (f9 j) := fun j => by rw [hS9]; show _ + _ = (_ + _) + _; rw [sum_succ (fun i => foldQ sizA (f9 i))]; omega
  have hS8m : ∀ {j}, j ≤ n8 → S8 j ≤ S8 n8 := fun {j} h => by rw [hS8]; have := sum_mono (fun i => foldE sizA (f8 i)) h; show 1 + _ ≤ 1 + _; omega
  have hS9m : ∀ {j}, j ≤ n9 → S9 j ≤ S9 n9 := fun {j} h => by rw [hS9]; have := sum_mono (fun i => foldQ sizA (f9 i)) h; show _ + _ ≤ _ + _; omega
  have hS9le : ∀ {j k : Nat} {L : List Nd} {zz : Nd}, k ≤ L.length → foldQ sizA (f9 j) = ((List.range L.length).map fun i => foldE sizA (L.getD i zz)).sum → S9 j + ((List.range k).map fun i => foldE sizA (L.getD i zz)).sum ≤ S9 (j + 1) := fun {j k L zz} hk h => by
    rw [hS9s, h]
    have := sum_mono (fun i => foldE sizA (L.getD i zz)) hk
    omega
  have HVAL : Hid (leftV l (foldE sizA c) = leftV l (S9 n9)) := by show _ = _; rw [hv, hS9]
  have hz0 : ∃ z : Nat → Dat, z = fun _ => .v undef := ⟨_, rfl⟩
  obtain ⟨zz, -⟩ := hz0
  have HV0 : Hid (l - 1 = leftV l (S8 0)) := by
    show _ = _
    rw [hS80]
    unfold leftV
    split
    · rfl
    · have : l = 0 := by omega
      rw [this]; rfl
  generalize leftV l (foldE sizA c) = res at HVAL ⊢
  clear hv hS8 hS9 hS80 hqs m8 m9 h8 h9 hbd
  have H0 := BX.new w 29 #[.int .i64 c0, .int .i64 c1, .bool c2, .int .i64 c3, .int .i64 c4, .string c5, .string c6, .string c7, .slice a8 n8 p8, .slice a9 n9 p9]
  go_enter Try.func45, Try.ntmps45
  go_wp2_with fail
  generalize w.alloc (.cells #[.int .i64 c0, .int .i64 c1, .bool c2, .int .i64 c3, .int .i64 c4, .string c5, .string c6, .string c7, .slice a8 n8 p8, .slice a9 n9 p9] 29) = w1 at H0 ⊢
  go_loopw [1, 5] (fun lv i wr => ∃ (j : Nat) (v : Int), j ≤ n8 ∧ i = .int .i64 (j : Int) ∧ lv = .int .i64 v ∧ Hid (v = leftV l (S8 j)) ∧ -1 ≤ v ∧ v ≤ l ∧ BX w wr 29 #[.int .i64 c0, .int .i64 c1, .bool c2, .int .i64 c3, .int .i64 c4, .string c5, .string c6, .string c7, .slice a8 n8 p8, .slice a9 n9 p9]) (fun _ i _ => n8 - (intOf i).toNat)
  case atStart => exact ⟨0, l - 1, Nat.zero_le _, rfl, rfl, HV0, by omega, by omega, H0⟩
  case round =>
    obtain ⟨j, cur, hj, rfl, rfl, HC, hlo, hhi, H⟩ := hrel
    have k8 := H.box.cell (i := 8) (v := .slice a8 n8 p8) rfl
    by_cases hlt : j < n8
    · have hlt2 : (j : Int) < (n8 : Int) := by omega
      by_cases hc0 : 0 ≤ cur
      · have dc : decide (0 ≤ cur) = true := decide_eq_true hc0
        obtain ⟨gg, oo, rfl, -, hgg, x0, x1, x2, x3, x4, x5, x6, x7, x8, x9, ⟨z0, z1, z2, z3, z4, z5, z6, z7, z8, z9⟩, ⟨-, -, -, -, -, -, -, -, ⟨r8, q8_⟩, ⟨r9, q9_⟩⟩⟩ := row_exprs (r8_.later H.b) q8 hlt
        have hC := fun w h h' => IHk j hlt x0 x1 x2 x3 x4 x5 x6 x7 x8 x9 cur w hc0 (Int.le_trans hhi hl1) h h' (hB8 j hlt)
        have HV2 : Hid (leftV cur (foldE sizA (f8 j)) = leftV l (S8 (j + 1))) := by
          show _ = _
          have hV := HC.out
          rw [hV] at hc0
          rw [hV, leftV_step hc0, hS8s]
        have hlo2 := leftV_lo cur (foldE sizA (f8 j))
        have hhi2 := Int.le_trans (leftV_hi (s := foldE sizA (f8 j)) hc0) hhi
        generalize leftV cur (foldE sizA (f8 j)) = v2 at hC HV2 hlo2 hhi2
        clear HC
        go_wp2_with fail
        refine (hC _ r8 r9).mono ?_
        rintro e w6 ⟨rfl, hb⟩
        have H7 := H.next hb
        clear hb hC r8 r9
        go_wp2_with fail
        go_roundw
        case rel => exact ⟨j + 1, v2, by omega, by go_num, rfl, HV2, hlo2, hhi2, H7⟩
        case measure => simp [intOf]; omega
      · have dc : decide (0 ≤ cur) = false := decide_eq_false hc0
        have HV9 : Hid (cur = leftV l (S9 0)) := by
          show _ = _
          have hV := HC.out
          rw [hS90, leftV_stop (s := S8 j) (by rw [← hV]; omega) (hS8m hj), hV]
        obtain ⟨v8, hv8⟩ : ∃ v8, v8 = cur := ⟨_, rfl⟩
        rw [← hv8] at hlo hhi HV9 dc hc0 ⊢
        have hlo8 := hlo
        have hhi8 := hhi
        have H1 := H
        clear HC hv8 hj hlo hhi H
        go_wp2_with fail
        clear k8 dc hc0 hlt hlt2
        go_loopw [1, 6] (fun lv i wr => ∃ (j : Nat) (v : Int), j ≤ n9 ∧ i = .int .i64 (j : Int) ∧ lv = .int .i64 v ∧ Hid (v = leftV l (S9 j)) ∧ -1 ≤ v ∧ v ≤ l ∧ BX w wr 29 #[.int .i64 c0, .int .i64 c1, .bool c2, .int .i64 c3, .int .i64 c4, .string c5, .string c6, .string c7, .slice a8 n8 p8, .slice a9 n9 p9]) (fun _ i _ => n9 - (intOf i).toNat)
        case atStart => exact ⟨0, v8, Nat.zero_le _, rfl, rfl, HV9, hlo8, hhi8, H1⟩
        case round =>
          obtain ⟨j, cur, hj, rfl, rfl, HC, hlo, hhi, H⟩ := hrel
          have k9 := H.box.cell (i := 9) (v := .slice a9 n9 p9) rfl
          by_cases hlt : j < n9
          · have hlt2 : (j : Int) < (n9 : Int) := by omega
            by_cases hc0 : 0 ≤ cur
            · have dc : decide (0 ≤ cur) = true := decide_eq_true hc0
              obtain ⟨gq, oq, rfl, -, hg0, y0, y1, y2, y3, y4, y5, ⟨u0, u1, u2, u3, u4, u5⟩, ⟨-, ⟨s1, -⟩, ⟨s2, -⟩, ⟨s3, -⟩, ⟨s4, -⟩, ⟨-, -⟩⟩⟩ := row_queries (r9.later H.b) q9 hlt
              have hX := fun w h1 h2 h3 h4 => exprsQ_spec (f9 j) y0 y1 y2 y3 y4 y5 w h1 h2 h3 h4 (hB9 j hlt)
              have hlen := exprsQ_len (hB9 j hlt)
              have hbde := exprsQ_bd (hB9 j hlt)
              have hQv := sizQ_val (hB9 j hlt).f zz
              have hIn := IHs j hlt
              generalize exprsOf (f9 j) = L at hX hlen hbde hQv hIn
              have hbd : ∀ k, k < L.length → Bd (L.getD k zz) := fun k hk => hbde _ (by rw [List.getD_eq_getElem?_getD, List.getElem?_eq_getElem hk]; exact List.getElem_mem hk)
              have hin : ∀ k, k < L.length → LeftP (L.getD k zz) := fun k hk => hIn _ (by rw [List.getD_eq_getElem?_getD, List.getElem?_eq_getElem hk]; exact List.getElem_mem hk)
              have HQV := Lib.hid hQv
              clear hbde hIn hQv
              go_wp2_with fail
              refine (hX _ s1 s2 s3 s4).mono ?_
              rintro e w5 ⟨v, rfl, hO, hb⟩
              have H5 := H.next hb
              obtain ⟨a, cap, rfl, hR, hF⟩ := hO.rd hb (by omega) zz
              clear hb hX hO
              have HG := Lib.hid hg0
              clear hg0
              go_wp2_with fail
              go_loopw [1, 8] (fun lv i wr => ∃ (k : Nat) (v : Int), k ≤ L.length ∧ i = .int .i64 (k : Int) ∧ lv = .int .i64 v ∧ Hid (v = leftV l (S9 j + ((List.range k).map fun i => foldE sizA (L.getD i zz)).sum)) ∧ -1 ≤ v ∧ v ≤ l ∧ BX w wr 29 #[.int .i64 c0, .int .i64 c1, .bool c2, .int .i64 c3, .int .i64 c4, .string c5, .string c6, .string c7, .slice a8 n8 p8, .slice (some ⟨gq, oq, none⟩) n9 p9] ∧ Below w5.heap.size w5 wr) (fun _ i _ => L.length - (intOf i).toNat)
              case atStart => exact ⟨0, cur, Nat.zero_le _, rfl, rfl, HC, hlo, hhi, H5, Below.refl _ _⟩
              case round =>
                obtain ⟨k, v, hk, rfl, rfl, HV, hvl, hvh, H6, hB5⟩ := hrel
                by_cases hkl : k < L.length
                · have hkl2 : (k : Int) < (L.length : Int) := by omega
                  by_cases hv0 : 0 ≤ v
                  · have dv : decide (0 ≤ v) = true := decide_eq_true hv0
                    obtain ⟨gg, oo, rfl, -, hgg, x0, x1, x2, x3, x4, x5, x6, x7, x8, x9, ⟨z0, z1, z2, z3, z4, z5, z6, z7, z8, z9⟩, ⟨-, -, -, -, -, -, -, -, ⟨r8, q8_⟩, ⟨r9, q9_⟩⟩⟩ := row_exprs (hR.later hB5) hF hkl
                    have hC := fun w h h' => hin k hkl x0 x1 x2 x3 x4 x5 x6 x7 x8 x9 v w hv0 (Int.le_trans hvh hl1) h h' (hbd k hkl)
                    have HV2 : Hid (leftV v (foldE sizA (L.getD k zz)) = leftV l (S9 j + ((List.range (k + 1)).map fun i => foldE sizA (L.getD i zz)).sum)) := by
                      show _ = _
                      have hV := HV.out
                      rw [hV] at hv0
                      rw [hV, leftV_step hv0, sum_succ]
                      congr 1; omega
                    have hlo2 := leftV_lo v (foldE sizA (L.getD k zz))
                    have hhi2 := Int.le_trans (leftV_hi (s := foldE sizA (L.getD k zz)) hv0) hvh
                    generalize leftV v (foldE sizA (L.getD k zz)) = v2 at hC HV2 hlo2 hhi2
                    clear HV
                    go_wp2_with fail
                    refine (hC _ r8 r9).mono ?_
                    rintro e w6 ⟨rfl, hb⟩
                    have H7 := H6.next hb
                    have hB6 := hB5.trans (hb.mono hB5.size)
                    clear hb hC r8 r9
                    go_wp2_with fail
                    go_roundw
                    case rel => exact ⟨k + 1, v2, by omega, by go_num, rfl, HV2, hlo2, hhi2, H7, hB6⟩
                    case measure => simp [intOf]; omega
                  · have dv : decide (0 ≤ v) = false := decide_eq_false hv0
                    have HV2 : Hid (v = leftV l (S9 (j + 1))) := by
                      show _ = _
                      have hV := HV.out
                      rw [hV, ← leftV_stop (s := S9 j + ((List.range k).map fun i => foldE sizA (L.getD i zz)).sum) (by rw [← hV]; omega) (hS9le hk HQV.out)]
                    clear HV
                    go_wp2_with fail
                    go_roundw
                    case rel => exact ⟨j + 1, v, by omega, by go_num, rfl, HV2, hvl, hvh, H6⟩
                    case measure => simp [intOf]; omega
                · obtain rfl : L.length = k := by omega
                  have HV2 : Hid (v = leftV l (S9 (j + 1))) := by
                    show _ = _
                    rw [HV.out, hS9s j, HQV.out]
                  clear HV hkl
                  go_wp2_with fail
                  go_roundw
                  case rel => exact ⟨j + 1, v, by omega, by go_num, rfl, HV2, hvl, hvh, H6⟩
                  case measure => simp [intOf]; omega
            · have dc : decide (0 ≤ cur) = false := decide_eq_false hc0
              have HF : Hid (leftV l (S9 n9) = cur) := by
                show _ = _
                have hV := HC.out
                rw [leftV_stop (s := S9 j) (by rw [← hV]; omega) (hS9m hj), hV]
              clear HC
              go_wp2_with fail
              go_ret
              exact ⟨ret_i64 (by rw [HVAL.out, HF.out]), H.b⟩
          · obtain rfl : n9 = j := by omega
            clear hlt
            go_wp2_with fail
            go_ret
            exact ⟨ret_i64 (by rw [HVAL.out, HC.out]), H.b⟩
    · obtain rfl : n8 = j := by omega
      have HV9 : Hid (cur = leftV l (S9 0)) := by
        show _ = _
        rw [hS90, HC.out]
      obtain ⟨v8, hv8⟩ : ∃ v8, v8 = cur := ⟨_, rfl⟩
      rw [← hv8] at hlo hhi HV9 ⊢
      have hlo8 := hlo
      have hhi8 := hhi
      have H1 := H
      clear HC hv8 hlt hj hlo hhi H
      go_wp2_with fail
      clear k8
      go_loopw [1, 6] (fun lv i wr => ∃ (j : Nat) (v : Int), j ≤ n9 ∧ i = .int .i64 (j : Int) ∧ lv = .int .i64 v ∧ Hid (v = leftV l (S9 j)) ∧ -1 ≤ v ∧ v ≤ l ∧ BX w wr 29 #[.int .i64 c0, .int .i64 c1, .bool c2, .int .i64 c3, .int .i64 c4, .string c5, .string c6, .string c7, .slice a8 n8 p8, .slice a9 n9 p9]) (fun _ i _ => n9 - (intOf i).toNat)
      case atStart => exact ⟨0, v8, Nat.zero_le _, rfl, rfl, HV9, hlo8, hhi8, H1⟩
      case round =>
        obtain ⟨j, cur, hj, rfl, rfl, HC, hlo, hhi, H⟩ := hrel
        have k9 := H.box.cell (i := 9) (v := .slice a9 n9 p9) rfl
        by_cases hlt : j < n9
        · have hlt2 : (j : Int) < (n9 : Int) := by omega
          by_cases hc0 : 0 ≤ cur
          · have dc : decide (0 ≤ cur) = true := decide_eq_true hc0
            obtain ⟨gq, oq, rfl, -, hg0, y0, y1, y2, y3, y4, y5, ⟨u0, u1, u2, u3, u4, u5⟩, ⟨-, ⟨s1, -⟩, ⟨s2, -⟩, ⟨s3, -⟩, ⟨s4, -⟩, ⟨-, -⟩⟩⟩ := row_queries (r9.later H.b) q9 hlt
            have hX := fun w h1 h2 h3 h4 => exprsQ_spec (f9 j) y0 y1 y2 y3 y4 y5 w h1 h2 h3 h4 (hB9 j hlt)
            have hlen := exprsQ_len (hB9 j hlt)
            have hbde := exprsQ_bd (hB9 j hlt)
            have hQv := sizQ_val (hB9 j hlt).f zz
            have hIn := IHs j hlt
            generalize exprsOf (f9 j) = L at hX hlen hbde hQv hIn
            have hbd : ∀ k, k < L.length → Bd (L.getD k zz) := fun k hk => hbde _ (by rw [List.getD_eq_getElem?_getD, List.getElem?_eq_getElem hk]; exact List.getElem_mem hk)
            have hin : ∀ k, k < L.length → LeftP (L.getD k zz) := fun k hk => hIn _ (by rw [List.getD_eq_getElem?_getD, List.getElem?_eq_getElem hk]; exact List.getElem_mem hk)
            have HQV := Lib.hid hQv
            clear hbde hIn hQv
            go_wp2_with fail
            refine (hX _ s1 s2 s3 s4).mono ?_
            rintro e w5 ⟨v, rfl, hO, hb⟩
            have H5 := H.next hb
            obtain ⟨a, cap, rfl, hR, hF⟩ := hO.rd hb (by omega) zz
            clear hb hX hO
            have HG := Lib.hid hg0
            clear hg0
            go_wp2_with fail
            go_loopw [1, 8] (fun lv i wr => ∃ (k : Nat) (v : Int), k ≤ L.length ∧ i = .int .i64 (k : Int) ∧ lv = .int .i64 v ∧ Hid (v = leftV l (S9 j + ((List.range k).map fun i => foldE sizA (L.getD i zz)).sum)) ∧ -1 ≤ v ∧ v ≤ l ∧ BX w wr 29 #[.int .i64 c0, .int .i64 c1, .bool c2, .int .i64 c3, .int .i64 c4, .string c5, .string c6, .string c7, .slice a8 n8 p8, .slice (some ⟨gq, oq, none⟩) n9 p9] ∧ Below w5.heap.size w5 wr) (fun _ i _ => L.length - (intOf i).toNat)
            case atStart => exact ⟨0, cur, Nat.zero_le _, rfl, rfl, HC, hlo, hhi, H5, Below.refl _ _⟩
            case round =>
              obtain ⟨k, v, hk, rfl, rfl, HV, hvl, hvh, H6, hB5⟩ := hrel
              by_cases hkl : k < L.length
              · have hkl2 : (k : Int) < (L.length : Int) := by omega
                by_cases hv0 : 0 ≤ v
                · have dv : decide (0 ≤ v) = true := decide_eq_true hv0
                  obtain ⟨gg, oo, rfl, -, hgg, x0, x1, x2, x3, x4, x5, x6, x7, x8, x9, ⟨z0, z1, z2, z3, z4, z5, z6, z7, z8, z9⟩, ⟨-, -, -, -, -, -, -, -, ⟨r8, q8_⟩, ⟨r9, q9_⟩⟩⟩ := row_exprs (hR.later hB5) hF hkl
                  have hC := fun w h h' => hin k hkl x0 x1 x2 x3 x4 x5 x6 x7 x8 x9 v w hv0 (Int.le_trans hvh hl1) h h' (hbd k hkl)
                  have HV2 : Hid (leftV v (foldE sizA (L.getD k zz)) = leftV l (S9 j + ((List.range (k + 1)).map fun i => foldE sizA (L.getD i zz)).sum)) := by
                    show _ = _
                    have hV := HV.out
                    rw [hV] at hv0
                    rw [hV, leftV_step hv0, sum_succ]
                    congr 1; omega
                  have hlo2 := leftV_lo v (foldE sizA (L.getD k zz))
                  have hhi2 := Int.le_trans (leftV_hi (s := foldE sizA (L.getD k zz)) hv0) hvh
                  generalize leftV v (foldE sizA (L.getD k zz)) = v2 at hC HV2 hlo2 hhi2
                  clear HV
                  go_wp2_with fail
                  refine (hC _ r8 r9).mono ?_
                  rintro e w6 ⟨rfl, hb⟩
                  have H7 := H6.next hb
                  have hB6 := hB5.trans (hb.mono hB5.size)
                  clear hb hC r8 r9
                  go_wp2_with fail
                  go_roundw
                  case rel => exact ⟨k + 1, v2, by omega, by go_num, rfl, HV2, hlo2, hhi2, H7, hB6⟩
                  case measure => simp [intOf]; omega
                · have dv : decide (0 ≤ v) = false := decide_eq_false hv0
                  have HV2 : Hid (v = leftV l (S9 (j + 1))) := by
                    show _ = _
                    have hV := HV.out
                    rw [hV, ← leftV_stop (s := S9 j + ((List.range k).map fun i => foldE sizA (L.getD i zz)).sum) (by rw [← hV]; omega) (hS9le hk HQV.out)]
                  clear HV
                  go_wp2_with fail
                  go_roundw
                  case rel => exact ⟨j + 1, v, by omega, by go_num, rfl, HV2, hvl, hvh, H6⟩
                  case measure => simp [intOf]; omega
              · obtain rfl : L.length = k := by omega
                have HV2 : Hid (v = leftV l (S9 (j + 1))) := by
                  show _ = _
                  rw [HV.out, hS9s j, HQV.out]
                clear HV hkl
                go_wp2_with fail
                go_roundw
                case rel => exact ⟨j + 1, v, by omega, by go_num, rfl, HV2, hvl, hvh, H6⟩
                case measure => simp [intOf]; omega
          · have dc : decide (0 ≤ cur) = false := decide_eq_false hc0
            have HF : Hid (leftV l (S9 n9) = cur) := by
              show _ = _
              have hV := HC.out
              rw [leftV_stop (s := S9 j) (by rw [← hV]; omega) (hS9m hj), hV]
            clear HC
            go_wp2_with fail
            go_ret
            exact ⟨ret_i64 (by rw [HVAL.out, HF.out]), H.b⟩
        · obtain rfl : n9 = j := by omega
          clear hlt
          go_wp2_with fail
          go_ret
          exact ⟨ret_i64 (by rw [HVAL.out, HC.out]), H.b⟩
theorem leftE_of (c : Nd) (IHk : ∀ e, e ∈ (c 8).els → LeftP e) (IHs : ∀ q, q ∈ (c 9).els → ∀ e ∈ exprsOf q, LeftP e) : LeftP c := by
  intro c0 c1 c2 c3 c4 c5 c6 c7 x8 x9 l w hl0 hl1 r8 r9 hbd
  obtain ⟨n8, k8, f8, h8⟩ := hbd.f8.deep rfl
  obtain ⟨n9, k9, f9, h9⟩ := hbd.f9.deep rfl
  have a8 := h8 ▸ hbd.f8
  have a9 := h9 ▸ hbd.f9
  obtain rfl : k8 = 10 := a8.2.2.1
  obtain rfl : k9 = 6 := a9.2.2.1
  rw [h8] at IHk
  rw [h9] at IHs
  exact left_step c n8 n9 f8 f9 h8 h9 (fun i hi => IHk _ (mem_el hi)) (fun i hi => IHs _ (mem_el hi)) c0 c1 c2 c3 c4 c5 c6 c7 x8 x9 l w hl0 hl1 r8 r9 hbd
/-- all that is told of a slice's elements, of whatever type they be -/
structure LA (d : Dat) : Prop where
  e : ∀ e, e ∈ d.els → LeftP e
  i : ∀ c, c ∈ d.els → LeftP (cut 2 c)
  f : ∀ c, c ∈ d.els → ∀ e ∈ (c 2).els, LeftP e
  q : ∀ q, q ∈ d.els → ∀ e ∈ exprsOf q, LeftP e
theorem leftAll : ∀ d : Dat, LA d
  | .v x => ⟨fun e he => absurd he (by simp [Dat.els, Dat.len]), fun e he => absurd he (by simp [Dat.els, Dat.len]), fun e he => absurd he (by simp [Dat.els, Dat.len]), fun e he => absurd he (by simp [Dat.els, Dat.len])⟩
  | .sl n k f => by
    have IH : ∀ i j, LA (f i j) := fun i j => leftAll (f i j)
    refine ⟨fun e he => ?_, fun c he => ?_, fun c he => ?_, fun q he => ?_⟩
    · obtain ⟨i, -, rfl⟩ := List.mem_map.1 he
      exact leftE_of _ (IH i 8).e (IH i 9).q
    · obtain ⟨i, -, rfl⟩ := List.mem_map.1 he
      exact leftE_of _ (IH i 10).e (IH i 11).q
    · obtain ⟨i, -, rfl⟩ := List.mem_map.1 he
      exact (IH i 2).e
    · obtain ⟨i, -, rfl⟩ := List.mem_map.1 he
      intro e he
      unfold exprsOf at he
      rw [List.mem_append, List.mem_append, List.mem_append] at he
      rcases he with ((he | he) | he) | he
      · obtain ⟨c, hc, rfl⟩ := List.mem_map.1 he
        exact (IH i 1).i c (List.mem_filter.1 hc).1
      · obtain ⟨c, hc, he⟩ := List.mem_flatMap.1 he
        exact (IH i 2).f c hc e he
      · exact (IH i 3).e e he
      · exact (IH i 4).e e he
theorem left_any (c : Nd) : LeftP c := leftE_of c (leftAll (c 8)).e (leftAll (c 9)).q
end Go.Proofs.Ytkacelpndeoogaa

/- The program's exprsOk: the test on all nodes of some trees. -/
namespace Go.Proofs.Ytkacelpndeoogaa
open Go.RowKit
attribute [local go_sem] Oper.semAt_some

attribute [local go_sem ↓] execOp_ldE execOp_stE
def AllS (xs : List (Nat × Nd)) (i : Nat) : Prop := ∀ j p, j < i → xs[j]? = some p → stepOk j p = true
def SomeS (xs : List (Nat × Nd)) : Prop := ∃ j p, xs[j]? = some p ∧ stepOk j p = false
set_option maxRecDepth 100000 in
set_option maxHeartbeats 8000000 in
theorem exprsOk_any (w0 W : World) (L : List Nd) (v : Value) (hb0 : Below w0.heap.size w0 W) (hv : LK exprTy w0 W (fun _ => True) v L) (hL : ∀ c ∈ L, Bd c) (hlen : (L.flatMap (pre 1)).length ≤ 2000000) :
    Calls Try.prog 44 #[v] W fun e w' => e = .returned (.bool (listOk L)) ∧ Below W.heap.size W w' := by
  obtain ⟨a0, cap, rfl⟩ := hv.slice
  have hz := hb0.size
  have hT := @listOk_true L
  have hF := @listOk_false L
  generalize listOk L = res at hT hF ⊢
  generalize hxs : L.flatMap (pre 1) = xs at hlen
  have hT1 := fun h => hT hxs h
  have hF1 := fun {i p} h1 h2 => hF hxs (i := i) (p := p) h1 h2
  clear hT hF
  have HB : ∀ d c, (d, c) ∈ xs → Bd c := fun d c h => by
    rw [← hxs, List.mem_flatMap] at h
    obtain ⟨c', hc', h⟩ := h
    exact (hL c' hc').pre 1 _ h
  refine (callsIn_wide (n := 5)).1 ?_
  refine callsIn_of_wp_marks Try.func44 rfl trivial ?_ rfl
  simp only [Try.ntmps44, List.size_toArray, List.length_cons, List.length_nil, Nat.reduceAdd, Nat.reduceSub, Array.replicate_succ, Array.replicate_zero, List.push_toArray, List.append_toArray, List.nil_append, List.cons_append]
  have H0 : RowAt ((W.alloc (.cells #[.bool false] 4)).alloc (.cells #[.int .i64 0] 3)) W.heap.size 4 #[.bool false] := (RowAt.new W 4 #[.bool false]).alloc _
  have G0 : RowAt ((W.alloc (.cells #[.bool false] 4)).alloc (.cells #[.int .i64 0] 3)) (W.heap.size + 1) 3 #[.int .i64 0] := RowAt.new1 W _ _ _
  have B0 : Below W.heap.size W ((W.alloc (.cells #[.bool false] 4)).alloc (.cells #[.int .i64 0] 3)) := ((Below.refl _ _).alloc (Nat.le_refl _) _).alloc (by simp) _
  have s0 : ((W.alloc (.cells #[.bool false] 4)).alloc (.cells #[.int .i64 0] 3)).heap.size = W.heap.size + 2 := by simp
  gi_wp2
  generalize (W.alloc (.cells #[.bool false] 4)).alloc (.cells #[.int .i64 0] 3) = w1 at *
  refine ⟨trivial, (callsIn_wide.2 (visitsE_any _ _ ⟨_, _, _, rfl⟩ ⟨_, rfl⟩ w1)).mono ?_⟩
  rintro e w3 ⟨rfl, hw3⟩
  have k1 : w3.cell? ⟨w1.heap.size, 0, none⟩ = some (.slice a0 L.length cap) := by rw [hw3]; exact ((RowAt.new w1 26 #[.slice a0 L.length cap]).alloc _).cell (i := 0) rfl
  have k2 : w3.cell? ⟨w1.heap.size + 1, 0, none⟩ = some (.func (.func 90) #[] #[]) := by
    have h := (RowAt.new (w1.alloc (.cells #[.slice a0 L.length cap] 26)) 123 #[.func (.func 90) #[] #[]]).cell (i := 0) rfl
    rw [World.size_alloc] at h
    rw [hw3]; exact h
  have b3 : Below w1.heap.size w1 w3 := by rw [hw3]; exact ((Below.refl _ _).alloc (Nat.le_refl _) _).alloc (by simp) _
  have s3 : w3.heap.size = W.heap.size + 4 := by rw [hw3]; simp [s0]
  clear hw3
  have H3 := H0.later b3
  have G3 := G0.later b3
  have B3 : Below W.heap.size W w3 := B0.trans (b3.mono (by omega))
  rw [s0] at k1 k2
  gi_wp2
  refine wpIn_rangeV (α := Nat × Nd) rfl (by decide) (gf := VE) (lb := #[.pointer (some ⟨W.heap.size + 2, 0, none⟩), .pointer (some ⟨W.heap.size + 2 + 1, 0, none⟩)]) rfl trivial (enters_of Try.func156 (by kernel_rfl) rfl)
    (visE_any pre parts (fun _ => True) w0 w3 L _ _ _ (fun k => k = W.heap.size ∨ k = W.heap.size + 1) xs _ hxs.symm hlen (hb0.trans (B3.mono hz)) (fun k hk => ⟨by omega, by omega⟩) k1 k2 (by omega)
      (hv.keep B3.size (fun g _ hlt => B3.block g hlt) fun g _ hlt => by omega) (fun d c h _ => partsOf_any w0 c (HB d c h)) pre_hd (fun d c h _ => pre_eq d (HB d c h).f8 (HB d c h).f9))
    (fun k hk => by omega) (fun x v h => by obtain ⟨ys, _, rfl⟩ := h; rfl)
    (fun i Wr => RowAt Wr W.heap.size 4 #[.bool false] ∧ RowAt Wr (W.heap.size + 1) 3 #[.int .i64 ((i : Nat) : Int)] ∧ Below W.heap.size W Wr ∧ AllS xs i)
    (fun c i Wr => c = .ret ∧ RowAt Wr W.heap.size 4 #[.bool false] ∧ Below W.heap.size W Wr ∧ SomeS xs)
    (fun i A B h hb => ⟨(hb.block _ (by omega)).trans h.1, (hb.block _ (by omega)).trans h.2.1, h.2.2.1.trans (hb.mono (by omega)), h.2.2.2⟩) (fun c i A B h hb => ⟨h.1, (hb.block _ (by omega)).trans h.2.1, h.2.2.1.trans (hb.mono (by omega)), h.2.2.2⟩) ⟨H3, G3, B3, fun j p hj => absurd hj (Nat.not_lt_zero j)⟩
    (fun x a Wr => ∃ (ys : List Value) (Bx : Nat), OutK exprTy w0 ys [x.2] ∧ w3.heap.size + 1 < Bx ∧ RowAt Wr Bx 29 ys.toArray ∧
      a = { tmps := #[.slice a0 L.length cap, undef, .pointer (some ⟨W.heap.size, 0, none⟩), .pointer (some ⟨W.heap.size + 1, 0, none⟩), .int .i64 (x.1 : Int), .pointer (some ⟨Bx, 0, none⟩), .slice a0 L.length cap, .func (.func VE) #[] #[.pointer (some ⟨W.heap.size + 2, 0, none⟩), .pointer (some ⟨W.heap.size + 2 + 1, 0, none⟩)], .int .i64 (x.1 : Int), .agg ys.toArray, undef, undef, undef, undef, undef, undef, undef, undef, undef, undef, undef, undef, undef], defers := [] })
    (fun x a A B h hk => by obtain ⟨ys, Bx, h1, h2, h3, h4⟩ := h; exact ⟨ys, Bx, h1, h2, (hk Bx h2).trans h3, h4⟩) ?assign ?body ?done ?stop
  case assign =>
    rintro l ⟨d, c⟩ v W1 K ⟨ys, hys, rfl⟩ hsz hK
    have hyl : ys.length = 10 := hys.1
    have hyo : ys.all Value.oneCell' = true := List.all_eq_true.2 hys.ones
    have hst := stE_new (w := W1) hyl hyo
    gi_wp2
    exact hK _ _ ⟨ys, W1.heap.size, hys, hsz, RowAt.new W1 _ _, rfl⟩ ((Below.refl _ _).alloc (Nat.le_refl _) _)
  case body =>
    rintro l i ⟨d, c⟩ a1 W1 hx ⟨hI, hG, hB, hA⟩ hsz ⟨ys, Bx, hys, hBx, hR, rfl⟩
    have hyl : ys.length = 10 := hys.1
    have hmem : (d, c) ∈ xs := List.mem_of_getElem? hx
    have hil : i < xs.length := (List.getElem?_eq_some_iff.1 hx).1
    have hN := fun w h => nodeOk_any w0 c ys w hys h (HB d c hmem)
    have hdb : (d : Int) ≤ 3000000 ∨ (3000000 : Int) < d := by omega
    have hval : stepOk i (d, c) = (decide (d ≤ 24) && (decide (i + 1 ≤ 200) && nodeB c)) := rfl
    have g0 := hG.cell (i := 0) (v := .int .i64 ((i : Nat) : Int)) rfl
    have g1 := hG.soft 0
    have hG2 : RowAt (W1.setCell ⟨W.heap.size + 1, 0, none⟩ (.int .i64 ((i : Int) + 1))) (W.heap.size + 1) 3 #[.int .i64 ((i : Int) + 1)] := hG.set 0 _
    have hI2 : RowAt (W1.setCell ⟨W.heap.size + 1, 0, none⟩ (.int .i64 ((i : Int) + 1))) W.heap.size 4 #[.bool false] := hI.other (by omega)
    have hR2 : RowAt (W1.setCell ⟨W.heap.size + 1, 0, none⟩ (.int .i64 ((i : Int) + 1))) Bx 29 ys.toArray := hR.other (by omega)
    have hB2 := hB.setCell (p := ⟨W.heap.size + 1, 0, none⟩) (by show W.heap.size ≤ W.heap.size + 1; omega) (.int .i64 ((i : Int) + 1))
    have hbut : But (fun k => k = W.heap.size ∨ k = W.heap.size + 1) W1 (W1.setCell ⟨W.heap.size + 1, 0, none⟩ (.int .i64 ((i : Int) + 1))) := But.setCell _ ⟨W.heap.size + 1, 0, none⟩ _ (Or.inr rfl)
    have t1 : decide ((24 : Int) < (d : Int)) = !decide (d ≤ 24) := by rw [← decide_not, decide_eq_decide]; omega
    have t2 : decide ((200 : Int) < (i : Int) + 1) = !decide (i + 1 ≤ 200) := by rw [← decide_not, decide_eq_decide]; omega
    have hb2 := hb0.trans (hB2.mono hz)
    have hi2 : (i : Int) ≤ 2000000 := by omega
    have hstp : stepOk i (d, c) = false → SomeS xs := fun h => ⟨i, (d, c), hx, h⟩
    have hall : stepOk i (d, c) = true → AllS xs (i + 1) := fun h j p hj hp => by
      by_cases e : j = i
      · subst e
        rw [hx] at hp
        cases hp; exact h
      · exact hA j p (by omega) hp
    have HS := Lib.hid hstp
    have HA := Lib.hid hall
    have HV := Lib.hid hval
    generalize decide (d ≤ 24) = u1 at t1 HV
    generalize decide (i + 1 ≤ 200) = u2 at t2 HV
    clear hstp hall hval hdb hx hA hmem hlen
    have hret : ∀ w4 : World, Below (W1.setCell ⟨W.heap.size + 1, 0, none⟩ (.int .i64 ((i : Int) + 1))).heap.size (W1.setCell ⟨W.heap.size + 1, 0, none⟩ (.int .i64 ((i : Int) + 1))) w4 → stepOk i (d, c) = false →
        But (fun k => k = W.heap.size ∨ k = W.heap.size + 1) W1 (w4.setCell ⟨W.heap.size, 0, none⟩ (.bool false)) ∧ RowAt (w4.setCell ⟨W.heap.size, 0, none⟩ (.bool false)) W.heap.size 4 #[.bool false] ∧ Below W.heap.size W (w4.setCell ⟨W.heap.size, 0, none⟩ (.bool false)) ∧ SomeS xs := fun w4 hb4 hs =>
      ⟨(hbut.trans (But.below hb4)).trans (But.setCell _ ⟨W.heap.size, 0, none⟩ _ (Or.inl rfl)), (hI2.later hb4).set 0 _, (hB2.trans (hb4.mono hB2.size)).setCell (p := ⟨W.heap.size, 0, none⟩) (Nat.le_refl _) _, HS.out hs⟩
    have c0 : ∀ w4 : World, Below (W1.setCell ⟨W.heap.size + 1, 0, none⟩ (.int .i64 ((i : Int) + 1))).heap.size (W1.setCell ⟨W.heap.size + 1, 0, none⟩ (.int .i64 ((i : Int) + 1))) w4 → w4.cell? ⟨W.heap.size, 0, none⟩ = some (.bool false) ∧ w4.frozen? ⟨W.heap.size, 0, none⟩ = false := fun w4 hb4 => ⟨(hI2.later hb4).cell (i := 0) rfl, (hI2.later hb4).soft 0⟩
    have ld : (ldX 29 (.pointer (some ⟨Bx, 0, none⟩))).run Try.prog (W1.setCell ⟨W.heap.size + 1, 0, none⟩ (.int .i64 ((i : Int) + 1))) = .ok (.value (.agg ys.toArray)) (W1.setCell ⟨W.heap.size + 1, 0, none⟩ (.int .i64 ((i : Int) + 1))) := run_ldX (P := Try.prog) (o := 0) hyl Try.isAgg29 Try.sizeOf29 fun j u hj => by rw [Nat.zero_add]; exact hR2.cell (i := j) (by simpa using hj)
    have ic := (hG2.cell (i := 0) (v := .int .i64 ((i : Int) + 1)) rfl)
    cases u1
    case false =>
      obtain ⟨ca, cb⟩ := c0 _ (Below.refl _ _)
      have hr := Lib.hid (hret _ (Below.refl _ _) (by rw [HV.out]; rfl))
      clear hret c0 hN ld
      gi_wp2
      refine ⟨trivial, ?_⟩
      gi_wp2
      exact ⟨hr.out.1, rfl, hr.out.2.1, hr.out.2.2.1, hr.out.2.2.2⟩
    case true =>
      cases u2
      case false =>
        obtain ⟨ca, cb⟩ := c0 _ (Below.refl _ _)
        have hr := Lib.hid (hret _ (Below.refl _ _) (by rw [HV.out]; rfl))
        clear hret c0 hN ld
        gi_wp2
        refine ⟨trivial, ?_⟩
        gi_wp2
        exact ⟨hr.out.1, rfl, hr.out.2.1, hr.out.2.2.1, hr.out.2.2.2⟩
      case true =>
        have hcall := hN _ hb2
        generalize nodeB c = u3 at hcall HV
        cases u3
        case false =>
          gi_wp2
          refine ⟨trivial, (CallsIn.inRound l (callsIn_wide.2 hcall)).mono ?_⟩
          rintro e w4 ⟨rfl, hb4⟩
          obtain ⟨ca, cb⟩ := c0 _ hb4
          have hr := Lib.hid (hret _ hb4 (by rw [HV.out]; rfl))
          clear hret c0 hN ld hcall
          gi_wp2
          exact ⟨hr.out.1, rfl, hr.out.2.1, hr.out.2.2.1, hr.out.2.2.2⟩
        case true =>
          gi_wp2
          refine ⟨trivial, (CallsIn.inRound l (callsIn_wide.2 hcall)).mono ?_⟩
          rintro e w4 ⟨rfl, hb4⟩
          clear hret c0 hN ld hcall
          gi_wp2
          exact ⟨hbut.trans (But.below hb4), trivial, hI2.later hb4, hG2.later hb4, hB2.trans (hb4.mono hB2.size), HA.out (by rw [HV.out]; rfl)⟩
  case done =>
    rintro D W1 hD ⟨hI, hG, hB, hA⟩ hK
    have x0 := hI.cell (i := 0) (v := .bool false) rfl
    have x1 := hI.soft 0
    have hI5 : RowAt (W1.setCell ⟨W.heap.size, 0, none⟩ (.bool true)) W.heap.size 4 #[.bool true] := hI.set 0 _
    have hB5 := hB.setCell (p := ⟨W.heap.size, 0, none⟩) (Nat.le_refl _) (.bool true)
    have hK5 : (W1.setCell ⟨W.heap.size, 0, none⟩ (.bool true)).heap[D]? = some (.deferred (some [])) := (heap_setCell_other W1 ⟨W.heap.size, 0, none⟩ D _ (by show D ≠ W.heap.size; omega)).trans hK
    gi_wp2
    have hI6 : RowAt ((W1.setCell ⟨W.heap.size, 0, none⟩ (.bool true)).putObj D (.deferred none)) W.heap.size 4 #[.bool true] := (World.putObj_heap_other (by omega)).trans hI5
    have f0 := hI6.cell (i := 0) (v := .bool true) rfl
    have hB6 := hB5.trans (below_put (W1.setCell ⟨W.heap.size, 0, none⟩ (.bool true)) D (.deferred none) (by omega))
    refine ⟨by simp, .inl ⟨_, _, rfl, run_takeDeferred hK5, ?_⟩⟩
    generalize (W1.setCell ⟨W.heap.size, 0, none⟩ (.bool true)).putObj D (.deferred none) = w9 at f0 hB6 ⊢
    refine ⟨.bool true, by simp [results, Try.results44, go_sem, f0], ?_, hB6⟩
    rw [hT1 fun j p hj => hA j p (List.getElem?_eq_some_iff.1 hj).1 hj]
  case stop =>
    rintro D c i W1 hD hle ⟨rfl, hI, hB, j, p, hj, hs⟩ hK
    gi_wp2
    have hI6 : RowAt (W1.putObj D (.deferred none)) W.heap.size 4 #[.bool false] := (World.putObj_heap_other (by omega)).trans hI
    have f0 := hI6.cell (i := 0) (v := .bool false) rfl
    have hB6 := hB.trans (below_put W1 D (.deferred none) (by omega))
    refine ⟨by simp, .inl ⟨_, _, rfl, run_takeDeferred hK, ?_⟩⟩
    generalize W1.putObj D (.deferred none) = w9 at f0 hB6 ⊢
    refine ⟨.bool false, by simp [results, Try.results44, go_sem, f0], ?_, hB6⟩
    rw [hF1 hj hs]
end Go.Proofs.Ytkacelpndeoogaa

/- The program's ExprOk and QueryOk. -/
namespace Go.Proofs.Ytkacelpndeoogaa
open Go.RowKit
/-- when a query is right -/
def queryOk (q : Nd) : Bool := frameB q && listOk (exprsOf q)
set_option maxRecDepth 100000 in
set_option maxHeartbeats 8000000 in
theorem ExprOk_any (w0 : World) (c : Nd) (us : List Value) (W : World) (hx : OutK exprTy w0 us [c]) (hb0 : Below w0.heap.size w0 W) (hc : Bd c) (hw : wt c ≤ 2000000) :
    Calls Try.prog 17 #[.agg us.toArray] W (BoolE (listOk [c]) W) := by
  have hout := hx
  have hlen : ([c].flatMap (pre 1)).length ≤ 2000000 := by
    rw [len_flat]
    show sizA.of [foldE sizA c] ≤ _
    rw [sizA_good.of_cons]
    have g8 := siz_le (c 8) _ hc.f8
    have g9 := siz_le (c 9) _ hc.f9
    have : foldE sizA c ≤ wt c := by show (_ + _) + 1 ≤ msr (c 8) + msr (c 9) + 1; omega
    show foldE sizA c + 0 ≤ _
    omega
  obtain ⟨x0, x1, x2, x3, x4, x5, x6, x7, ax8, nx8, px8, ax9, nx9, px9, rfl, -⟩ := hx.ten
  have hB : Below W.heap.size W (W.alloc (.cells #[.int .i64 x0, .int .i64 x1, .bool x2, .int .i64 x3, .int .i64 x4, .string x5, .string x6, .string x7, .slice ax8 nx8 px8, .slice ax9 nx9 px9] 29)) := (Below.refl _ _).alloc (Nat.le_refl _) _
  have s2 : (W.alloc (.cells #[.int .i64 x0, .int .i64 x1, .bool x2, .int .i64 x3, .int .i64 x4, .string x5, .string x6, .string x7, .slice ax8 nx8 px8, .slice ax9 nx9 px9] 29)).heap.size = W.heap.size + 1 := by simp
  have R0 := RowAt.new W 29 #[.int .i64 x0, .int .i64 x1, .bool x2, .int .i64 x3, .int .i64 x4, .string x5, .string x6, .string x7, .slice ax8 nx8 px8, .slice ax9 nx9 px9]
  clear hx
  go_enter Try.func17, Try.ntmps17
  go_wp2_with fail
  generalize (W.alloc (.cells #[.int .i64 x0, .int .i64 x1, .bool x2, .int .i64 x3, .int .i64 x4, .string x5, .string x6, .string x7, .slice ax8 nx8 px8, .slice ax9 nx9 px9] 29)) = w2 at hB s2 R0 ⊢
  have R := RowAt.new w2 29 #[.int .i64 x0, .int .i64 x1, .bool x2, .int .i64 x3, .int .i64 x4, .string x5, .string x6, .string x7, .slice ax8 nx8 px8, .slice ax9 nx9 px9]
  have hal : Below w2.heap.size w2 (w2.alloc (.cells #[.int .i64 x0, .int .i64 x1, .bool x2, .int .i64 x3, .int .i64 x4, .string x5, .string x6, .string x7, .slice ax8 nx8 px8, .slice ax9 nx9 px9] 29)) := (Below.refl _ _).alloc (Nat.le_refl _) _
  rw [s2] at R
  generalize w2.alloc (.cells #[.int .i64 x0, .int .i64 x1, .bool x2, .int .i64 x3, .int .i64 x4, .string x5, .string x6, .string x7, .slice ax8 nx8 px8, .slice ax9 nx9 px9] 29) = w3 at R hal ⊢
  have hB3 := hB.trans (hal.mono hB.size)
  have hlk : LK exprTy w0 w3 (fun _ => True) (.slice (some ⟨W.heap.size + 1, 0, none⟩) 1 1) [c] :=
    ⟨_, 1, _, rfl, hout, .inr ⟨W.heap.size + 1, 0, rfl, Nat.le_refl _, trivial, R.lt, fun j u hj => by rw [Nat.zero_add]; exact R.cell (by simpa using hj)⟩⟩
  refine (exprsOk_any w0 w3 [c] _ (hb0.trans (hB3.mono hb0.size)) hlk (fun t ht => by rw [List.mem_singleton.1 ht]; exact hc) hlen).mono ?_
  rintro e w4 ⟨rfl, hb4⟩
  have hf := hB3.trans (hb4.mono hB3.size)
  go_wp2_with fail
  go_ret
  exact ⟨rfl, hf⟩
set_option maxRecDepth 100000 in
set_option maxHeartbeats 8000000 in
theorem QueryOk_any (w0 : World) (q : Nd) (ys : List Value) (W : World) (hys : OutK (rowTy .queries) w0 ys [q]) (hb0 : Below w0.heap.size w0 W) (hq : BdQ q) :
    Calls Try.prog 19 #[.agg ys.toArray] W (BoolE (queryOk q) W) := by
  have hF := fun w h => frameOk_any w0 q ys w hys h hq
  have hE := fun w h => exprsInQ_any w0 w q ys hys h hq
  have hO := fun w v h hv => exprsOk_any w0 w (exprsOf q) v h hv hq.exprs hq.len
  obtain ⟨c0, a1, n1, p1, a2, n2, p2, a3, n3, p3, a4, n4, p4, c5, rfl, -⟩ := hys.queryRow
  have R := RowAt.new W 38 #[.bool c0, .slice a1 n1 p1, .slice a2 n2 p2, .slice a3 n3 p3, .slice a4 n4 p4, .int .i64 c5]
  have hB : Below W.heap.size W (W.alloc (.cells #[.bool c0, .slice a1 n1 p1, .slice a2 n2 p2, .slice a3 n3 p3, .slice a4 n4 p4, .int .i64 c5] 38)) := (Below.refl _ _).alloc (Nat.le_refl _) _
  have HB := Lib.hid hB
  have hz := hb0.trans (hB.mono hb0.size)
  have z0 := R.cell (i := 0) (v := .bool c0) rfl
  have z1 := R.cell (i := 1) (v := .slice a1 n1 p1) rfl
  have z2 := R.cell (i := 2) (v := .slice a2 n2 p2) rfl
  have z3 := R.cell (i := 3) (v := .slice a3 n3 p3) rfl
  have z4 := R.cell (i := 4) (v := .slice a4 n4 p4) rfl
  have z5 := R.cell (i := 5) (v := .int .i64 c5) rfl
  have HR := Lib.hid R
  unfold queryOk
  clear hys hB R hq
  generalize frameB q = u at hF ⊢
  generalize listOk (exprsOf q) = l at hO ⊢
  generalize exprsOf q = L at hE hO
  go_enter Try.func19, Try.ntmps19
  cases u
  · go_wp2_with fail
    refine (hF _ hz).mono ?_
    rintro e w2 ⟨rfl, hb2⟩
    have hf := HB.out.trans (hb2.mono HB.out.size)
    clear z0 z1 z2 z3 z4 z5 hF hE hO
    go_wp2_with fail
    go_ret
    exact ⟨rfl, hf⟩
  · go_wp2_with fail
    refine (hF _ hz).mono ?_
    rintro e w2 ⟨rfl, hb2⟩
    have hB2 := HB.out.trans (hb2.mono HB.out.size)
    have hz2 := hz.trans (hb2.mono hz.size)
    have R2 := HR.out.later hb2
    clear z0 z1 z2 z3 z4 z5 hF hb2
    have z0 := R2.cell (i := 0) (v := .bool c0) rfl
    have z1 := R2.cell (i := 1) (v := .slice a1 n1 p1) rfl
    have z2 := R2.cell (i := 2) (v := .slice a2 n2 p2) rfl
    have z3 := R2.cell (i := 3) (v := .slice a3 n3 p3) rfl
    have z4 := R2.cell (i := 4) (v := .slice a4 n4 p4) rfl
    have z5 := R2.cell (i := 5) (v := .int .i64 c5) rfl
    go_wp2_with fail
    refine (hE _ hz2).mono ?_
    rintro e w3 ⟨v, rfl, hoe, hb3⟩
    have hB3 := hB2.trans (hb3.mono hB2.size)
    have hz3 := hz2.trans (hb3.mono hz2.size)
    have hlk : LK exprTy w0 w3 (fun _ => True) v L := hoe.lk fun _ _ _ => trivial
    obtain ⟨av, cv, rfl⟩ := hoe.slice
    have hcall := hO w3 _ hz3 hlk
    clear z0 z1 z2 z3 z4 z5 hE hO hb3 hoe hlk R2 HR
    go_wp2_with fail
    refine hcall.mono ?_
    rintro e w4 ⟨rfl, hb4⟩
    have hf := hB3.trans (hb4.mono hB3.size)
    go_wp2_with fail
    go_ret
    exact ⟨rfl, hf⟩
end Go.Proofs.Ytkacelpndeoogaa

/- The model's ExprOk and QueryOk. -/
namespace Go.Proofs.Ytkacelpndeoogaa
open Go.RowKit
set_option linter.unusedVariables false

theorem listOk_one (c : Nd) : listOk [c] = (foldE okA c && (decide (foldE depA c ≤ 24) && decide (foldE sizA c ≤ 200))) := by
  rw [listOk_is]
  show ((foldE okA c && true) && (decide (depA.of [foldE depA c] ≤ 24) && decide (sizA.of [foldE sizA c] ≤ 200))) = _
  rw [depA_good.of_cons, sizA_good.of_cons, Bool.and_true]
  show (_ && (decide (max (foldE depA c) 0 ≤ 24) && decide (foldE sizA c + 0 ≤ 200))) = _
  rw [Nat.max_zero, Nat.add_zero]
set_option maxRecDepth 100000 in
set_option maxHeartbeats 8000000 in
theorem exprOk_spec (c : Nd) (c0 c1 : Int) (c2 : Bool) (c3 c4 : Int) (c5 c6 c7 : ByteArray) (x8 x9 : Value) (w : World) (e0 : c 0 = .v (.int .i64 c0)) (e1 : c 1 = .v (.int .i64 c1)) (e2 : c 2 = .v (.bool c2)) (e3 : c 3 = .v (.int .i64 c3)) (e4 : c 4 = .v (.int .i64 c4)) (e5 : c 5 = .v (.string c5)) (e6 : c 6 = .v (.string c6)) (e7 : c 7 = .v (.string c7))
    (b5 : c5.size ≤ 9223372036854775807) (b6 : c6.size ≤ 9223372036854775807) (b7 : c7.size ≤ 9223372036854775807) (r8 : Rd w 0 x8 (c 8)) (r9 : Rd w 0 x9 (c 9)) (hbd : Bd c) :
    Calls Try.prog 18 #[.agg #[.int .i64 c0, .int .i64 c1, .bool c2, .int .i64 c3, .int .i64 c4, .string c5, .string c6, .string c7, x8, x9]] w (BoolE (listOk [c]) w) := by
  have q8 := hbd.f8
  have q9 := hbd.f9
  have hL := fun w h h' => left_any c c0 c1 c2 c3 c4 c5 c6 c7 x8 x9 200 w (by decide) (by decide) h h' hbd
  have hR := fun w h h' => right_any c c0 c1 c2 c3 c4 c5 c6 c7 x8 x9 w e0 e1 e2 e3 e4 e5 e6 e7 b5 b6 b7 h h' hbd
  have hD : foldE sizA c ≤ 200 → DepthOfP c := fun h => (depthOf_all 200).1 c h (by decide) q8 q9
  rw [rightE_ok] at hR
  rw [listOk_one]
  unfold DepthOfP at hD
  have hdl : foldE depA c ≤ foldE sizA c := depE_le c
  obtain ⟨a8, n8, p8, rfl⟩ := r8.slice_of q8 rfl
  obtain ⟨a9, n9, p9, rfl⟩ := r9.slice_of q9 rfl
  have H0 := BX.new w 29 #[.int .i64 c0, .int .i64 c1, .bool c2, .int .i64 c3, .int .i64 c4, .string c5, .string c6, .string c7, .slice a8 n8 p8, .slice a9 n9 p9]
  clear e0 e1 e2 e3 e4 e5 e6 e7 b5 b6 b7 hbd
  generalize foldE okA c = ok at hR ⊢
  generalize foldE depA c = dd at hD hdl ⊢
  have k0 := H0.box.cell (i := 0) (v := .int .i64 c0) rfl
  have k1 := H0.box.cell (i := 1) (v := .int .i64 c1) rfl
  have k2 := H0.box.cell (i := 2) (v := .bool c2) rfl
  have k3 := H0.box.cell (i := 3) (v := .int .i64 c3) rfl
  have k4 := H0.box.cell (i := 4) (v := .int .i64 c4) rfl
  have k5 := H0.box.cell (i := 5) (v := .string c5) rfl
  have k6 := H0.box.cell (i := 6) (v := .string c6) rfl
  have k7 := H0.box.cell (i := 7) (v := .string c7) rfl
  have k8 := H0.box.cell (i := 8) (v := .slice a8 n8 p8) rfl
  have k9 := H0.box.cell (i := 9) (v := .slice a9 n9 p9) rfl
  by_cases hs : foldE sizA c ≤ 200
  · have hD := hD hs
    have hv : leftV 200 (foldE sizA c) = 200 - ((foldE sizA c : Nat) : Int) := if_pos (by omega)
    rw [decide_eq_true hs]
    generalize hV : leftV 200 (foldE sizA c) = V at hL
    have hV0 : 0 ≤ V := by rw [← hV, hv]; omega
    have dV : decide (0 ≤ V) = true := decide_eq_true hV0
    have d24 : decide ((dd : Int) ≤ (24 : Int)) = decide (dd ≤ 24) := by rw [decide_eq_decide]; omega
    generalize decide (dd ≤ 24) = dk at d24 ⊢
    clear hs hv hV hdl
    go_enter Try.func18, Try.ntmps18
    go_wp2_with fail
    refine (hL _ (r8.later H0.b) (r9.later H0.b)).mono ?_
    rintro e w2 ⟨rfl, hb⟩
    replace H0 := H0.next hb
    clear hb hL k0 k1 k2 k3 k4 k5 k6 k7 k8 k9
    have k0 := H0.box.cell (i := 0) (v := .int .i64 c0) rfl
    have k1 := H0.box.cell (i := 1) (v := .int .i64 c1) rfl
    have k2 := H0.box.cell (i := 2) (v := .bool c2) rfl
    have k3 := H0.box.cell (i := 3) (v := .int .i64 c3) rfl
    have k4 := H0.box.cell (i := 4) (v := .int .i64 c4) rfl
    have k5 := H0.box.cell (i := 5) (v := .string c5) rfl
    have k6 := H0.box.cell (i := 6) (v := .string c6) rfl
    have k7 := H0.box.cell (i := 7) (v := .string c7) rfl
    have k8 := H0.box.cell (i := 8) (v := .slice a8 n8 p8) rfl
    have k9 := H0.box.cell (i := 9) (v := .slice a9 n9 p9) rfl
    cases ok
    · go_wp2_with fail
      refine (hR _ (r8.later H0.b) (r9.later H0.b)).mono ?_
      rintro e w3 ⟨rfl, hb⟩
      replace H0 := H0.next hb
      clear hb hR k0 k1 k2 k3 k4 k5 k6 k7 k8 k9
      go_wp2_with fail
      go_ret
      exact ⟨rfl, H0.b⟩
    · go_wp2_with fail
      refine (hR _ (r8.later H0.b) (r9.later H0.b)).mono ?_
      rintro e w3 ⟨rfl, hb⟩
      replace H0 := H0.next hb
      clear hb hR k0 k1 k2 k3 k4 k5 k6 k7 k8 k9
      have k0 := H0.box.cell (i := 0) (v := .int .i64 c0) rfl
      have k1 := H0.box.cell (i := 1) (v := .int .i64 c1) rfl
      have k2 := H0.box.cell (i := 2) (v := .bool c2) rfl
      have k3 := H0.box.cell (i := 3) (v := .int .i64 c3) rfl
      have k4 := H0.box.cell (i := 4) (v := .int .i64 c4) rfl
      have k5 := H0.box.cell (i := 5) (v := .string c5) rfl
      have k6 := H0.box.cell (i := 6) (v := .string c6) rfl
      have k7 := H0.box.cell (i := 7) (v := .string c7) rfl
      have k8 := H0.box.cell (i := 8) (v := .slice a8 n8 p8) rfl
      have k9 := H0.box.cell (i := 9) (v := .slice a9 n9 p9) rfl
      go_wp2_with fail
      refine (hD _ _ _ _ _ _ _ _ _ _ _ (r8.later H0.b) q8 (r9.later H0.b) q9).mono ?_
      rintro e w4 ⟨rfl, hb⟩
      replace H0 := H0.next hb
      clear hb hD k0 k1 k2 k3 k4 k5 k6 k7 k8 k9
      cases dk
      all_goals
        go_wp2_with fail
        go_ret
        exact ⟨rfl, H0.b⟩
  · have hv : leftV 200 (foldE sizA c) = -1 := if_neg (by omega)
    rw [hv] at hL
    have HZ : Hid ((ok && (decide (dd ≤ 24) && decide (foldE sizA c ≤ 200))) = false) := by show _ = _; rw [decide_eq_false hs]; simp
    clear hv hD hR hs hdl
    go_enter Try.func18, Try.ntmps18
    go_wp2_with fail
    refine (hL _ (r8.later H0.b) (r9.later H0.b)).mono ?_
    rintro e w2 ⟨rfl, hb⟩
    replace H0 := H0.next hb
    clear hb hL k0 k1 k2 k3 k4 k5 k6 k7 k8 k9
    go_wp2_with fail
    go_ret
    exact ⟨by rw [HZ.out]; rfl, H0.b⟩
theorem queryOk_is {q : Nd} (h : FitsQ q) : queryOk q = (foldQ rightA q && (decide (foldQ depA q ≤ 24) && decide (foldQ sizA q ≤ 200))) := by
  unfold queryOk
  rw [listOk_is, rightQ_ok h.1 h.2.1 h.2.2.1 h.2.2.2, foldQ_is depA_good h.1 h.2.1 h.2.2.1 h.2.2.2, foldQ_is sizA_good h.1 h.2.1 h.2.2.1 h.2.2.2, Bool.and_assoc]
  rfl
set_option maxRecDepth 100000 in
set_option maxHeartbeats 8000000 in
theorem queryOk_spec (q : Nd) (c0 : Bool) (x1 x2 x3 x4 : Value) (c5 : Int) (w : World) (e5 : q 5 = .v (.int .i64 c5)) (r1 : Rd w 0 x1 (q 1)) (r2 : Rd w 0 x2 (q 2)) (r3 : Rd w 0 x3 (q 3)) (r4 : Rd w 0 x4 (q 4)) (hq : BdQ q) :
    Calls Try.prog 186 #[.agg #[.bool c0, x1, x2, x3, x4, .int .i64 c5]] w (BoolE (queryOk q) w) := by
  have q1 := hq.f.1
  have q2 := hq.f.2.1
  have q3 := hq.f.2.2.1
  have q4 := hq.f.2.2.2
  have hm := hq.m
  have hsz : foldQ sizA q ≤ 1048576 := by
    have g1 := siz_le (q 1) _ q1
    have g2 := siz_le (q 2) _ q2
    have g3 := siz_le (q 3) _ q3
    have g4 := siz_le (q 4) _ q4
    show _ + _ + _ + _ ≤ _
    omega
  have hR := fun w h1 h2 h3 h4 => rightQ_any q c0 x1 x2 x3 x4 c5 w e5 h1 h2 h3 h4 hq
  have hD : QueryDepthP q := (depthOf_all 1048576).2 q hsz (Nat.le_refl _) q1 q2 q3 q4
  have hS : QuerySizeP q := (sizeOf_all 1048576).2 q hsz (Nat.le_refl _) q1 q2 q3 q4
  have hdl := depQ_le q
  rw [queryOk_is hq.f]
  unfold QueryDepthP at hD
  unfold QuerySizeP at hS
  obtain ⟨a1, n1, p1, rfl⟩ := r1.slice_of q1 rfl
  obtain ⟨a2, n2, p2, rfl⟩ := r2.slice_of q2 rfl
  obtain ⟨a3, n3, p3, rfl⟩ := r3.slice_of q3 rfl
  obtain ⟨a4, n4, p4, rfl⟩ := r4.slice_of q4 rfl
  have H0 := BX.new w 38 #[.bool c0, .slice a1 n1 p1, .slice a2 n2 p2, .slice a3 n3 p3, .slice a4 n4 p4, .int .i64 c5]
  clear e5 hq hm
  generalize foldQ rightA q = ok at hR ⊢
  generalize foldQ depA q = dd at hD hdl ⊢
  generalize foldQ sizA q = ss at hS hdl hsz ⊢
  have d24 : decide ((dd : Int) ≤ (24 : Int)) = decide (dd ≤ 24) := by rw [decide_eq_decide]; omega
  have s200 : decide ((ss : Int) ≤ (200 : Int)) = decide (ss ≤ 200) := by rw [decide_eq_decide]; omega
  generalize decide (dd ≤ 24) = dk at d24 ⊢
  generalize decide (ss ≤ 200) = sk at s200 ⊢
  have k0 := H0.box.cell (i := 0) (v := .bool c0) rfl
  have k1 := H0.box.cell (i := 1) (v := .slice a1 n1 p1) rfl
  have k2 := H0.box.cell (i := 2) (v := .slice a2 n2 p2) rfl
  have k3 := H0.box.cell (i := 3) (v := .slice a3 n3 p3) rfl
  have k4 := H0.box.cell (i := 4) (v := .slice a4 n4 p4) rfl
  have k5 := H0.box.cell (i := 5) (v := .int .i64 c5) rfl
  go_enter Try.func186, Try.ntmps186
  cases ok
  · go_wp2_with fail
    refine (hR _ (r1.later H0.b) (r2.later H0.b) (r3.later H0.b) (r4.later H0.b)).mono ?_
    rintro e w3 ⟨rfl, hb⟩
    replace H0 := H0.next hb
    clear hb hR k0 k1 k2 k3 k4 k5
    go_wp2_with fail
    go_ret
    exact ⟨rfl, H0.b⟩
  · go_wp2_with fail
    refine (hR _ (r1.later H0.b) (r2.later H0.b) (r3.later H0.b) (r4.later H0.b)).mono ?_
    rintro e w3 ⟨rfl, hb⟩
    replace H0 := H0.next hb
    clear hb hR k0 k1 k2 k3 k4 k5
    have k0 := H0.box.cell (i := 0) (v := .bool c0) rfl
    have k1 := H0.box.cell (i := 1) (v := .slice a1 n1 p1) rfl
    have k2 := H0.box.cell (i := 2) (v := .slice a2 n2 p2) rfl
    have k3 := H0.box.cell (i := 3) (v := .slice a3 n3 p3) rfl
    have k4 := H0.box.cell (i := 4) (v := .slice a4 n4 p4) rfl
    have k5 := H0.box.cell (i := 5) (v := .int .i64 c5) rfl
    go_wp2_with fail
    refine (hD _ _ _ _ _ _ _ (r1.later H0.b) q1 (r2.later H0.b) q2 (r3.later H0.b) q3 (r4.later H0.b) q4).mono ?_
    rintro e w4 ⟨rfl, hb⟩
    replace H0 := H0.next hb
    clear hb hD k0 k1 k2 k3 k4 k5
    have k0 := H0.box.cell (i := 0) (v := .bool c0) rfl
    have k1 := H0.box.cell (i := 1) (v := .slice a1 n1 p1) rfl
    have k2 := H0.box.cell (i := 2) (v := .slice a2 n2 p2) rfl
    have k3 := H0.box.cell (i := 3) (v := .slice a3 n3 p3) rfl
    have k4 := H0.box.cell (i := 4) (v := .slice a4 n4 p4) rfl
    have k5 := H0.box.cell (i := 5) (v := .int .i64 c5) rfl
    cases dk
    · go_wp2_with fail
      go_ret
      exact ⟨rfl, H0.b⟩
    · go_wp2_with fail
      refine (hS _ _ _ _ _ _ _ (r1.later H0.b) q1 (r2.later H0.b) q2 (r3.later H0.b) q3 (r4.later H0.b) q4).mono ?_
      rintro e w5 ⟨rfl, hb⟩
      replace H0 := H0.next hb
      clear hb hS k0 k1 k2 k3 k4 k5
      cases sk
      all_goals
        go_wp2_with fail
        go_ret
        exact ⟨rfl, H0.b⟩
end Go.Proofs.Ytkacelpndeoogaa
