/- Joined texts: RightE SameS. -/
import Derived.Test.YtcliijfdlcagoaaGreatQHShapeT
import Derived.Test.YtcliijfdlcagoaaGreatQZAS
import Derived.Test.YtcliijfdlcagoaaGreatQZAK
import Derived.Test.YtcliijfdlcagoaaGreatQZAA
import Derived.Test.YtcliijfdlcagoaaGreatQZAD
import Derived.Test.YtcliijfdlcagoaaGreatQZAB
import Derived.Test.YtcliijfdlcagoaaGreatQZAE
namespace Go.Proofs.YtcliijfdlcagoaaGreat
set_option linter.unusedVariables false
set_option linter.unusedSimpArgs false
open Go.RowKit
def RightP (c : Nd) : Prop := ∀ (c0 c1 : Int) (c2 : Bool) (c3 c4 : Int) (c5 c6 c7 : ByteArray) (x8 x9 : Value) (w : World), c 0 = .v (.int .i64 c0) → c 1 = .v (.int .i64 c1) → c 2 = .v (.bool c2) → c 3 = .v (.int .i64 c3) → c 4 = .v (.int .i64 c4) → c 5 = .v (.string c5) → c 6 = .v (.string c6) → c 7 = .v (.string c7) →
  c5.size ≤ 9223372036854775807 → c6.size ≤ 9223372036854775807 → c7.size ≤ 9223372036854775807 → Rd w 0 x8 (c 8) → Rd w 0 x9 (c 9) → Bd c →
  Calls Tryz.prog 110 #[.agg #[.int .i64 c0, .int .i64 c1, .bool c2, .int .i64 c3, .int .i64 c4, .string c5, .string c6, .string c7, x8, x9]] w (BoolE (foldE rightA c) w)
def RightQP (q : Nd) : Prop := ∀ (c0 : Bool) (x1 x2 x3 x4 : Value) (c5 : Int) (w : World), q 5 = .v (.int .i64 c5) → Rd w 0 x1 (q 1) → Rd w 0 x2 (q 2) → Rd w 0 x3 (q 3) → Rd w 0 x4 (q 4) → BdQ q →
  Calls Tryz.prog 71 #[.agg #[.bool c0, x1, x2, x3, x4, .int .i64 c5]] w (BoolE (foldQ rightA q) w)
theorem exprs_bd {d : Dat} (hf : Fits d .exprs) (hm : msr d ≤ 1048576) : ∀ e ∈ d.els, Bd e := fun e he => by
  obtain ⟨n, k, f, rfl⟩ := hf.deep rfl
  have hk : k = 10 := hf.2.2.1
  subst hk
  have h8 := els_fits hf he 8 (by decide)
  have h9 := els_fits hf he 9 (by decide)
  obtain ⟨i, hi, rfl⟩ := List.mem_map.1 he
  rw [List.mem_range] at hi
  exact ⟨Nat.le_trans (msr_el hi (by decide)) hm, Nat.le_trans (msr_el hi (by decide)) hm, h8, h9⟩
theorem mem_el {n k : Nat} {f : Nat → Nat → Dat} {i : Nat} (hi : i < n) : f i ∈ (Dat.sl n k f).els := List.mem_map.2 ⟨i, List.mem_range.2 hi, rfl⟩
theorem all_upto {n j : Nat} {p : Nat → Bool} (h : j < n) (hj : p j = false) : (List.range n).all p = false := by
  rw [← Bool.not_eq_true, List.all_eq_true]
  intro hh
  have := hh j (List.mem_range.2 h)
  rw [hj] at this; cases this
theorem takes_sub {k : Int} {a b : Nat} (h : takesB k a b = true) : b ≤ 1 := by
  unfold takesB at h
  split at h
  · simp at h; omega
  · split at h
    · simp at h; omega
    · split at h
      · simp at h; omega
      · split at h
        · simp at h; omega
        · split at h
          · simp at h; omega
          · split at h
            · simp at h; omega
            · split at h
              · simp at h; omega
              · cases h
theorem shape_sub {k op : Int} {nt : Bool} {vk vn : Int} {vt q n : ByteArray} {a b : Nat} (h : shapeF k op nt vk vn vt q n a b = true) : b ≤ 1 := by
  unfold shapeF at h
  rw [Bool.and_eq_true, Bool.and_eq_true] at h
  exact takes_sub h.2.2
theorem rightE_val {c : Nd} {n8 n9 : Nat} {f8 f9 : Nat → Nat → Dat} (h8 : c 8 = .sl n8 10 f8) (h9 : c 9 = .sl n9 6 f9) : foldE rightA c = (shapeB c && ((List.range n8).all (fun i => foldE rightA (f8 i)) && (List.range n9).all fun i => foldQ rightA (f9 i))) := by
  show (shapeB c && (fold rightA (c 8) .exprs && fold rightA (c 9) .queries)) = _
  rw [h8, h9, fold_ex, fold_qu, rightA_of, rightA_of, List.all_map, List.all_map]
  rfl
set_option maxRecDepth 100000 in
set_option maxHeartbeats 8000000 in
theorem right_step (c : Nd) (n8 n9 : Nat) (f8 f9 : Nat → Nat → Dat) (h8 : c 8 = .sl n8 10 f8) (h9 : c 9 = .sl n9 6 f9)
    (IHk : ∀ i, i < n8 → RightP (f8 i)) (IHs : ∀ i, i < n9 → RightQP (f9 i)) : RightP c := by
  intro c0 c1 c2 c3 c4 c5 c6 c7 x8 x9 w e0 e1 e2 e3 e4 e5 e6 e7 b5 b6 b7 r8 r9 hbd
  have q8 := hbd.f8
  have q9 := hbd.f9
  have m8 := hbd.m8
  have m9 := hbd.m9
  have hqs := hbd.query
  have hv := rightE_val h8 h9
  rw [shape_v e0 e1 e2 e3 e4 e5 e6 e7 (show (c 8).len = n8 by rw [h8]; rfl) (show (c 9).len = n9 by rw [h9]; rfl)] at hv
  rw [h8] at r8 q8 m8
  rw [h9] at r9 q9 m9 hqs
  obtain ⟨a8, p8, rfl⟩ := r8.slice
  obtain ⟨a9, p9, rfl⟩ := r9.slice
  have hn8 : n8 ≤ 1048576 := Nat.le_trans (msr_n n8 10 f8) m8
  have hn9 : n9 ≤ 1048576 := Nat.le_trans (msr_n n9 6 f9) m9
  have hB8 : ∀ i, i < n8 → Bd (f8 i) := fun i hi => exprs_bd q8 m8 _ (mem_el hi)
  have hB9 : ∀ i, i < n9 → BdQ (f9 i) := fun i hi => hqs _ (mem_el hi)
  have hS := fun w => shape_spec c0 c1 c2 c3 c4 c5 c6 c7 a8 n8 p8 a9 n9 p9 w b5 b6 b7 hn8 hn9
  have hsub := @shape_sub c0 c1 c2 c3 c4 c5 c6 c7 n8 n9
  rw [hv]
  clear e0 e1 e2 e3 e4 e5 e6 e7 b5 b6 b7 hv h8 h9 m8 m9 hqs hbd
  have hsf : shapeF c0 c1 c2 c3 c4 c5 c6 c7 n8 n9 = (headB c0 c1 c2 c3 c4 c5 && (namesB c0 c6 c7 && takesB c0 n8 n9)) := rfl
  rw [← hsf]
  clear hsf
  replace hsub := Lib.hid hsub
  generalize shapeF c0 c1 c2 c3 c4 c5 c6 c7 n8 n9 = sv at hS hsub ⊢
  have H0 := BX.new w 79 #[.int .i64 c0, .int .i64 c1, .bool c2, .int .i64 c3, .int .i64 c4, .string c5, .string c6, .string c7, .slice a8 n8 p8, .slice a9 n9 p9]
  go_enter Tryz.func110, Tryz.ntmps110
  go_wp2_with fail
  generalize w.alloc (.cells #[.int .i64 c0, .int .i64 c1, .bool c2, .int .i64 c3, .int .i64 c4, .string c5, .string c6, .string c7, .slice a8 n8 p8, .slice a9 n9 p9] 79) = w1 at H0 ⊢
  cases sv
  · have k0 := H0.box.cell (i := 0) (v := .int .i64 c0) rfl
    have k1 := H0.box.cell (i := 1) (v := .int .i64 c1) rfl
    have k2 := H0.box.cell (i := 2) (v := .bool c2) rfl
    have k3 := H0.box.cell (i := 3) (v := .int .i64 c3) rfl
    have k4 := H0.box.cell (i := 4) (v := .int .i64 c4) rfl
    have k5 := H0.box.cell (i := 5) (v := .string c5) rfl
    have k6 := H0.box.cell (i := 6) (v := .string c6) rfl
    have k7 := H0.box.cell (i := 7) (v := .string c7) rfl
    have k8 := H0.box.cell (i := 8) (v := .slice a8 n8 p8) rfl
    have k9 := H0.box.cell (i := 9) (v := .slice a9 n9 p9) rfl
    go_wp2_with fail
    refine (hS _).mono ?_
    rintro e w2 ⟨rfl, hb⟩
    replace H0 := H0.next hb
    clear hb
    clear k0 k1 k2 k3 k4 k5 k6 k7 k8 k9
    go_wp2_with fail
    go_ret
    exact ⟨rfl, H0.b⟩
  · have k0 := H0.box.cell (i := 0) (v := .int .i64 c0) rfl
    have k1 := H0.box.cell (i := 1) (v := .int .i64 c1) rfl
    have k2 := H0.box.cell (i := 2) (v := .bool c2) rfl
    have k3 := H0.box.cell (i := 3) (v := .int .i64 c3) rfl
    have k4 := H0.box.cell (i := 4) (v := .int .i64 c4) rfl
    have k5 := H0.box.cell (i := 5) (v := .string c5) rfl
    have k6 := H0.box.cell (i := 6) (v := .string c6) rfl
    have k7 := H0.box.cell (i := 7) (v := .string c7) rfl
    have k8 := H0.box.cell (i := 8) (v := .slice a8 n8 p8) rfl
    have k9 := H0.box.cell (i := 9) (v := .slice a9 n9 p9) rfl
    go_wp2_with fail
    refine (hS _).mono ?_
    rintro e w2 ⟨rfl, hb⟩
    replace H0 := H0.next hb
    have hn1 : n9 ≤ 1 := hsub.out (by first | rfl | trivial)
    clear hb hS hsub
    clear k0 k1 k2 k3 k4 k5 k6 k7 k8 k9
    go_wp2_with fail
    go_loopw [3] (fun i wr => ∃ j : Nat, j ≤ n8 ∧ i = .int .i64 (j : Int) ∧ BX w wr 79 #[.int .i64 c0, .int .i64 c1, .bool c2, .int .i64 c3, .int .i64 c4, .string c5, .string c6, .string c7, .slice a8 n8 p8, .slice a9 n9 p9] ∧ Hid ((List.range j).all (fun i => foldE rightA (f8 i)) = true)) (fun i _ => n8 - (intOf i).toNat)
    case atStart => exact ⟨0, Nat.zero_le _, rfl, H0, rfl⟩
    case round =>
      obtain ⟨j, hj, rfl, H, HA⟩ := hrel
      have k8 := H.box.cell (i := 8) (v := .slice a8 n8 p8) rfl
      by_cases hlt : j < n8
      · have hlt2 : (j : Int) < (n8 : Int) := by omega
        obtain ⟨gg, oo, rfl, -, hgg, x0, x1, x2, x3, x4, x5, x6, x7, x8, x9, ⟨z0, z1, z2, z3, z4, z5, z6, z7, z8, z9⟩, ⟨⟨e0, -⟩, ⟨e1, -⟩, e2, ⟨e3, -⟩, ⟨e4, -⟩, ⟨e5, b5⟩, ⟨e6, b6⟩, ⟨e7, b7⟩, ⟨r8, q8_⟩, ⟨r9, q9_⟩⟩⟩ := row_exprs (r8.later H.b) q8 hlt
        have hC := fun w h h' => IHk j hlt x0 x1 x2 x3 x4 x5 x6 x7 x8 x9 w e0 e1 e2 e3 e4 e5 e6 e7 b5 b6 b7 h h' (hB8 j hlt)
        clear e0 e1 e2 e3 e4 e5 e6 e7 b5 b6 b7
        generalize hV : foldE rightA (f8 j) = V at hC
        have HVV := Lib.hid hV
        clear hV
        cases V
        case false =>
          have hfin : Hid ((List.range n8).all (fun i => foldE rightA (f8 i)) = false) := all_upto hlt HVV.out
          go_wp2_with fail
          refine (hC _ r8 r9).mono ?_
          rintro e w2 ⟨rfl, hb⟩
          replace H := H.next hb
          clear hb hC
          go_wp2_with fail
          go_ret
          exact ⟨by rw [hfin.out]; rfl, H.b⟩
        case true =>
          have HA2 : Hid ((List.range (j + 1)).all (fun i => foldE rightA (f8 i)) = true) := by show _ = true; rw [all_succ, HA.out, HVV.out]; rfl
          go_wp2_with fail
          refine (hC _ r8 r9).mono ?_
          rintro e w2 ⟨rfl, hb⟩
          replace H := H.next hb
          clear hb hC
          go_wp2_with fail
          go_roundw
          case rel => exact ⟨j + 1, by omega, by go_num, H, HA2⟩
          case measure => simp [intOf]; omega
      · obtain rfl : j = n8 := by omega
        have k9 := H.box.cell (i := 9) (v := .slice a9 n9 p9) rfl
        clear hlt hj
        by_cases h0 : n9 = 0
        · subst h0
          go_wp2_with fail
          go_ret
          exact ⟨by rw [HA.out]; rfl, H.b⟩
        · obtain rfl : n9 = 1 := by omega
          obtain ⟨gg, oo, rfl, -, hgg, y0, y1, y2, y3, y4, y5, ⟨u0, u1, u2, u3, u4, u5⟩, ⟨-, ⟨s1, -⟩, ⟨s2, -⟩, ⟨s3, -⟩, ⟨s4, -⟩, ⟨l5, -⟩⟩⟩ := row_queries (r9.later H.b) q9 (Nat.zero_lt_one)
          rw [Nat.zero_mul, Nat.add_zero] at u0 u1 u2 u3 u4 u5
          have hC := fun w h1 h2 h3 h4 => IHs 0 Nat.zero_lt_one y0 y1 y2 y3 y4 y5 w l5 h1 h2 h3 h4 (hB9 0 Nat.zero_lt_one)
          clear l5
          have hone : (List.range 1).all (fun i => foldQ rightA (f9 i)) = foldQ rightA (f9 0) := Bool.and_true _
          have HO := Lib.hid hone
          clear hone h0
          generalize foldQ rightA (f9 0) = V at hC HO
          go_wp2_with fail
          refine (hC _ s1 s2 s3 s4).mono ?_
          rintro e w2 ⟨rfl, hb⟩
          replace H := H.next hb
          clear hb hC
          go_wp2_with fail
          go_ret
          exact ⟨by rw [HA.out, HO.out]; rfl, H.b⟩
def SameExprP (c c' : Nat → Dat) : Prop := ∀ (x0 x1 : Int) (x2 : Bool) (x3 x4 : Int) (x5 x6 x7 : ByteArray) (x8 x9 : Value) (y0 y1 : Int) (y2 : Bool) (y3 y4 : Int) (y5 y6 y7 : ByteArray) (y8 y9 : Value) (w : World),
  Rd w 0 x8 (c 8) → Fits (c 8) .exprs → Rd w 0 x9 (c 9) → Fits (c 9) .queries → Rd w 0 y8 (c' 8) → Fits (c' 8) .exprs → Rd w 0 y9 (c' 9) → Fits (c' 9) .queries →
  Calls Tryz.prog 70 #[.agg #[.int .i64 x0, .int .i64 x1, .bool x2, .int .i64 x3, .int .i64 x4, .string x5, .string x6, .string x7, x8, x9], .agg #[.int .i64 y0, .int .i64 y1, .bool y2, .int .i64 y3, .int .i64 y4, .string y5, .string y6, .string y7, y8, y9]] w (BoolE (sameFields x0 y0 x1 y1 x2 y2 x3 y3 x4 y4 x5 y5 x6 y6 x7 y7 (same (c 8) (c' 8) .exprs) (same (c 9) (c' 9) .queries)) w)
def SameSP (d d' : Dat) : Prop := ∀ (x y : Value) (w : World), Rd w 0 x d → Fits d .exprs → Rd w 0 y d' → Fits d' .exprs → Calls Tryz.prog 69 #[x, y] w (BoolE (same d d' .exprs) w)
set_option maxRecDepth 100000 in
set_option maxHeartbeats 4000000 in
theorem l7Same_step (n n' : Nat) (f f' : Nat → Nat → Dat) (IH : ∀ i, i < n → SameExprP (f i) (f' i)) : SameSP (.sl n 10 f) (.sl n' 10 f') := by
  intro x y w hr hf hs hf'
  obtain ⟨a, cap, rfl⟩ := hr.slice
  obtain ⟨a2, cap2, rfl⟩ := hs.slice
  have hn := hf.2.1
  have hn' := hf'.2.1
  rw [same_sl]
  by_cases hnn : n = n'
  case neg =>
    have d : ((n : Int) != (n' : Int)) = true := by simp; omega
    have d2 : (n == n') = false := by simpa using hnn
    rw [d2, Bool.false_and]
    clear hnn d2
    go_enter Tryz.func69, Tryz.ntmps69
    go_wp2_with fail
    go_ret
    exact ⟨rfl, Below.refl _ _⟩
  subst hnn
  have HV : Hid (((n == n) && (List.range n).all fun i => sameC (rowTy .exprs) (f i) (f' i)) = (List.range n).all fun i => sameC exprTy (f i) (f' i)) := by show _ = _; simp [rowTy]
  rw [HV.out]
  clear HV
  go_enter Tryz.func69, Tryz.ntmps69
  go_wp2_with fail
  go_loopw [5] (fun i wr => ∃ j : Nat, j ≤ n ∧ i = .int .i64 (j : Int) ∧ Hid (((List.range j).all fun i => sameC exprTy (f i) (f' i)) = true) ∧ Below w.heap.size w wr) (fun i _ => n - (intOf i).toNat)
  case atStart => exact ⟨0, by omega, rfl, rfl, Below.refl _ _⟩
  case round =>
    obtain ⟨j, hj, rfl, HA, hB⟩ := hrel
    by_cases hlt : j < n
    · have hlt2 : (j : Int) < (n : Int) := by omega
      obtain ⟨g, o, rfl, -, hg, x0, x1, x2, x3, x4, x5, x6, x7, x8, x9, ⟨z0, z1, z2, z3, z4, z5, z6, z7, z8, z9⟩, ⟨⟨e0, b0⟩, ⟨e1, b1⟩, e2, ⟨e3, b3⟩, ⟨e4, b4⟩, ⟨e5, b5⟩, ⟨e6, b6⟩, ⟨e7, b7⟩, ⟨r8, q8⟩, ⟨r9, q9⟩⟩⟩ := row_exprs (hr.later hB) hf hlt
      obtain ⟨g2, o2, rfl, -, hg2, y0, y1, y2, y3, y4, y5, y6, y7, y8, y9, ⟨k0, k1, k2, k3, k4, k5, k6, k7, k8, k9⟩, ⟨⟨l0, m0⟩, ⟨l1, m1⟩, l2, ⟨l3, m3⟩, ⟨l4, m4⟩, ⟨l5, m5⟩, ⟨l6, m6⟩, ⟨l7, m7⟩, ⟨s8, t8⟩, ⟨s9, t9⟩⟩⟩ := row_exprs (hs.later hB) hf' hlt
      have hE := fun (v : World) (h : Below wr.heap.size wr v) => IH j hlt x0 x1 x2 x3 x4 x5 x6 x7 x8 x9 y0 y1 y2 y3 y4 y5 y6 y7 y8 y9 v (Rd.later r8 h) q8 (Rd.later r9 h) q9 (Rd.later s8 h) t8 (Rd.later s9 h) t9
      simp only [← sameC_expr e0 l0 e1 l1 e2 l2 e3 l3 e4 l4 e5 l5 e6 l6 e7 l7] at hE
      clear e0 l0 e1 l1 e2 l2 e3 l3 e4 l4 e5 l5 e6 l6 e7 l7
      replace z0 := lat_cell z0
      replace k0 := lat_cell k0
      replace z1 := lat_cell z1
      replace k1 := lat_cell k1
      replace z2 := lat_cell z2
      replace k2 := lat_cell k2
      replace z3 := lat_cell z3
      replace k3 := lat_cell k3
      replace z4 := lat_cell z4
      replace k4 := lat_cell k4
      replace z5 := lat_cell z5
      replace k5 := lat_cell k5
      replace z6 := lat_cell z6
      replace k6 := lat_cell k6
      replace z7 := lat_cell z7
      replace k7 := lat_cell k7
      replace z8 := lat_cell z8
      replace k8 := lat_cell k8
      replace z9 := lat_cell z9
      replace k9 := lat_cell k9
      cases hV : sameC exprTy (f j) (f' j)
      all_goals
        rw [hV] at hE
        have HV2 := Lib.hid hV
        clear hV
        go_wp2_with fail
        refine region_lat (by kernel_rfl) (by kernel_rfl) ?_
        iterate 10 (go_big_quiet_step ((refine (hE _ (lat_below wr _)).mono ?_; rintro e w'' ⟨rfl, hb''⟩; exact ⟨rfl, lat_to hb''⟩)))
        refine wpQuiet_nil ?_
        rintro _ ⟨nq, rfl⟩
        have hbq := hB.trans ((lat_below wr nq).mono hB.size)
        clear hE z0 k0 z1 k1 z2 k2 z3 k3 z4 k4 z5 k5 z6 k6 z7 k7 z8 k8 z9 k9
        generalize lat wr nq = wq at hbq ⊢
      · go_wp2_with fail
        go_ret
        refine ⟨?_, hbq⟩
        have h : ((List.range n).all fun i => sameC exprTy (f i) (f' i)) = false := by
          rw [List.all_eq_false]
          exact ⟨j, List.mem_range.2 hlt, by rw [HV2.out]; simp⟩
        rw [h]
        rfl
      · have HA2 : Hid (((List.range (j + 1)).all fun i => sameC exprTy (f i) (f' i)) = true) := by show _ = true; rw [all_succ, HA.out, HV2.out]; rfl
        go_wp2_with fail
        go_roundw
        case rel => exact ⟨j + 1, by omega, by go_num, HA2, hbq⟩
        case measure => simp [intOf]; omega
    · obtain rfl : n = j := by omega
      go_wp2_with fail
      go_ret
      exact ⟨by rw [HA.out]; rfl, hB⟩
end Go.Proofs.YtcliijfdlcagoaaGreat
