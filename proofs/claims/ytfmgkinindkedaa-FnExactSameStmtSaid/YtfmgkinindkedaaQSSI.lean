/- Joined texts: SameMath StSame SameN SameS. -/
import Derived.Test.YtfmgkinindkedaaQSSG
import Derived.Test.YtfmgkinindkedaaQSSH
import Derived.Test.YtfmgkinindkedaaQSSF
import Derived.Test.YtfmgkinindkedaaQSSA
import Derived.Test.YtfmgkinindkedaaQSSE
import Derived.Test.YtfmgkinindkedaaQSSB
/- Trees that are the same: as a plain function on data with depth. No program. -/
namespace Go.Proofs.Ytfmgkinindkedaa
open Go.RowKit

def eqV : Value → Value → Bool
  | .int _ a, .int _ b => a == b
  | .bool a, .bool b => a == b
  | .string a, .string b => decide (a = b)
  | _, _ => false
/-- the same data of one type -/
def same : Dat → Dat → Ty → Bool
  | .v x, .v y, _ => eqV x y
  | .sl n _ f, d', ty => (n == d'.len) && (List.range n).all fun i => (List.range (rowTy ty).length).all fun j => same (f i j) (d'.el i j) ((rowTy ty).getD j .int)
  | _, _, _ => false
/-- the cells of two elements -/
def sameC (tys : List Ty) (c c' : Nat → Dat) : Bool := (List.range tys.length).all fun j => same (c j) (c' j) (tys.getD j .int)
theorem same_sl (n k : Nat) (f : Nat → Nat → Dat) (n' k' : Nat) (f' : Nat → Nat → Dat) (ty : Ty) :
    same (.sl n k f) (.sl n' k' f') ty = ((n == n') && (List.range n).all fun i => sameC (rowTy ty) (f i) (f' i)) := by rw [same]; rfl
theorem all_succ (n : Nat) (p : Nat → Bool) : (List.range (n + 1)).all p = ((List.range n).all p && p n) := by rw [List.range_succ]; simp
theorem same_int (k : IntKind) (a b : Int) (ty : Ty) : same (.v (.int k a)) (.v (.int k b)) ty = (a == b) := by unfold same; rfl
theorem same_bool (a b : Bool) (ty : Ty) : same (.v (.bool a)) (.v (.bool b)) ty = (a == b) := by unfold same; rfl
theorem same_str (a b : ByteArray) (ty : Ty) : same (.v (.string a)) (.v (.string b)) ty = decide (a = b) := by unfold same; rfl
/-- two expressions, their fields told apart -/
def sameFields (x0 y0 x1 y1 : Int) (x2 y2 : Bool) (x3 y3 x4 y4 : Int) (x5 y5 x6 y6 x7 y7 : ByteArray) (ks ss : Bool) : Bool :=
  (x0 == y0) && ((x1 == y1) && ((x2 == y2) && ((x3 == y3) && ((x4 == y4) && (decide (x5 = y5) && (decide (x6 = y6) && (decide (x7 = y7) && (ks && ss))))))))
theorem sameC_expr {c c' : Nat → Dat} {x0 y0 x1 y1 : Int} {x2 y2 : Bool} {x3 y3 x4 y4 : Int} {x5 y5 x6 y6 x7 y7 : ByteArray}
    (e0 : c 0 = .v (.int .i64 x0)) (l0 : c' 0 = .v (.int .i64 y0)) (e1 : c 1 = .v (.int .i64 x1)) (l1 : c' 1 = .v (.int .i64 y1)) (e2 : c 2 = .v (.bool x2)) (l2 : c' 2 = .v (.bool y2))
    (e3 : c 3 = .v (.int .i64 x3)) (l3 : c' 3 = .v (.int .i64 y3)) (e4 : c 4 = .v (.int .i64 x4)) (l4 : c' 4 = .v (.int .i64 y4)) (e5 : c 5 = .v (.string x5)) (l5 : c' 5 = .v (.string y5))
    (e6 : c 6 = .v (.string x6)) (l6 : c' 6 = .v (.string y6)) (e7 : c 7 = .v (.string x7)) (l7 : c' 7 = .v (.string y7)) :
    sameC exprTy c c' = sameFields x0 y0 x1 y1 x2 y2 x3 y3 x4 y4 x5 y5 x6 y6 x7 y7 (same (c 8) (c' 8) .exprs) (same (c 9) (c' 9) .queries) := by
  unfold sameC sameFields
  simp only [exprTy, List.length_cons, List.length_nil, Nat.zero_add, Nat.reduceAdd, List.range_succ, List.range_zero, List.nil_append, List.cons_append, List.all_cons, List.all_nil, Bool.and_true, List.getD_cons_succ, List.getD_cons_zero, e0, l0, e1, l1, e2, l2, e3, l3, e4, l4, e5, l5, e6, l6, e7, l7, same_int, same_bool, same_str]
end Go.Proofs.Ytfmgkinindkedaa

/- When two statements are the same. -/
namespace Go.Proofs.Ytfmgkinindkedaa
open Go.RowKit

/-- two statements, field by field -/
def stmtSame (c d : Nat → Dat) : Bool :=
  same (c 0) (d 0) .int && (same (c 7) (d 7) .str && (sameC (rowTy .queries) (cut 1 c) (cut 1 d) && (same (c 8) (d 8) .rows && (same (c 9) (d 9) .names && (same (c 10) (d 10) .exprs && same (c 11) (d 11) .exprs)))))
theorem sameC_one (ty : Ty) (c d : Nat → Dat) : sameC [ty] c d = same (c 0) (d 0) ty := by
  unfold sameC
  simp
theorem same_rows (n k : Nat) (f : Nat → Nat → Dat) (n' k' : Nat) (f' : Nat → Nat → Dat) :
    same (.sl n k f) (.sl n' k' f') .rows = ((n == n') && (List.range n).all fun i => same (f i 0) (f' i 0) .exprs) := by
  rw [same_sl]
  congr 1
  congr 1
  funext i
  exact sameC_one .exprs (f i) (f' i)
end Go.Proofs.Ytfmgkinindkedaa

/- Two lists of names beside one another. -/
namespace Go.Proofs.Ytfmgkinindkedaa
open Go.RowKit
theorem toList_ne {a b : ByteArray} (h : ¬ a = b) : (a.toList != b.toList) = true ∧ (a.toList == b.toList) = false := by
  have e1 : a.toList = a.data.toList := ByteArray.toList_eq ..
  have e2 : b.toList = b.data.toList := ByteArray.toList_eq ..
  have hl : ¬ a.toList = b.toList := fun e => by
    rw [e1, e2] at e
    exact h (by cases a; cases b; simpa using e)
  exact ⟨by simpa using hl, by simpa using hl⟩

set_option maxRecDepth 100000 in
set_option maxHeartbeats 4000000 in
theorem sameNames_spec (n n' : Nat) (f f' : Nat → Nat → Dat) (x y : Value) (w : World) (hr : Rd w 0 x (.sl n 1 f)) (hf : Fits (.sl n 1 f) .names) (hs : Rd w 0 y (.sl n' 1 f')) (hf' : Fits (.sl n' 1 f') .names) :
    Calls Try.prog 85 #[x, y] w (BoolE (same (.sl n 1 f) (.sl n' 1 f') .names) w) := by
  obtain ⟨a, cap, rfl⟩ := hr.slice
  obtain ⟨a2, cap2, rfl⟩ := hs.slice
  have hn := hf.2.1
  have hn' := hf'.2.1
  rw [same_sl]
  by_cases hnn : n = n'
  case neg =>
    have d : ((n : Int) != (n' : Int)) = true := by simp; omega
    have d2 : (n == n') = false := by simpa using hnn
    rw [d2, Bool.false_and]
    clear hnn d2
    go_enter Try.func85, Try.ntmps85
    go_wp2_with fail
    go_ret
    exact ⟨rfl, Below.refl _ _⟩
  subst hnn
  have HV : Hid (((n == n) && (List.range n).all fun i => sameC (rowTy .names) (f i) (f' i)) = (List.range n).all fun i => sameC [.str] (f i) (f' i)) := by show _ = _; simp [rowTy]
  rw [HV.out]
  clear HV
  go_enter Try.func85, Try.ntmps85
  go_wp2_with fail
  go_loopw [5] (fun i wr => ∃ j : Nat, j ≤ n ∧ i = .int .i64 (j : Int) ∧ Hid (((List.range j).all fun i => sameC [.str] (f i) (f' i)) = true) ∧ Below w.heap.size w wr) (fun i _ => n - (intOf i).toNat)
  case atStart => exact ⟨0, by omega, rfl, rfl, Below.refl _ _⟩
  case round =>
    obtain ⟨j, hj, rfl, HA, hB⟩ := hrel
    by_cases hlt : j < n
    · have hlt2 : (j : Int) < (n : Int) := by omega
      obtain ⟨g, o, rfl, -, hg, s, z0, e0, -⟩ := row_names (hr.later hB) hf hlt
      obtain ⟨g2, o2, rfl, -, hg2, t, k0, l0, -⟩ := row_names (hs.later hB) hf' hlt
      have hV : sameC [.str] (f j) (f' j) = decide (s = t) := by
        unfold sameC
        simp [e0, l0, same_str]
      replace z0 := lat_cell z0
      replace k0 := lat_cell k0
      clear e0 l0
      by_cases hst : s = t
      · have HV2 : Hid (sameC [.str] (f j) (f' j) = true) := by show _ = true; rw [hV]; simpa using hst
        have HA2 : Hid (((List.range (j + 1)).all fun i => sameC [.str] (f i) (f' i)) = true) := by show _ = true; rw [all_succ, HA.out, HV2.out]; rfl
        subst hst
        clear hV HV2
        have hss : (s.toList != s.toList) = false := by simp
        go_wp2_with fail
        refine region_lat (by kernel_rfl) (by kernel_rfl) ?_
        iterate 9 go_big_quiet_step (fail)
        refine wpQuiet_nil ?_
        rintro _ ⟨nq, rfl⟩
        have hbq := hB.trans ((lat_below wr nq).mono hB.size)
        clear z0 k0
        generalize lat wr nq = wq at hbq ⊢
        go_wp2_with fail
        go_roundw
        case rel => exact ⟨j + 1, by omega, by go_num, HA2, hbq⟩
        case measure => simp [intOf]; omega
      · have h : Hid (((List.range n).all fun i => sameC [.str] (f i) (f' i)) = false) := by
          show _ = false
          rw [List.all_eq_false]
          exact ⟨j, List.mem_range.2 hlt, by rw [hV]; simpa using hst⟩
        have hss := (toList_ne hst).1
        have hse := (toList_ne hst).2
        clear hV hst
        go_wp2_with fail
        refine region_lat (by kernel_rfl) (by kernel_rfl) ?_
        iterate 9 go_big_quiet_step (fail)
        refine wpQuiet_nil ?_
        rintro _ ⟨nq, rfl⟩
        have hbq := hB.trans ((lat_below wr nq).mono hB.size)
        clear z0 k0
        generalize lat wr nq = wq at hbq ⊢
        go_wp2_with fail
        go_ret
        exact ⟨by rw [h.out]; rfl, hbq⟩
    · obtain rfl : n = j := by omega
      go_wp2_with fail
      go_ret
      exact ⟨by rw [HA.out]; rfl, hB⟩

set_option maxRecDepth 100000 in
set_option maxHeartbeats 4000000 in
theorem equal_names (n n' : Nat) (f f' : Nat → Nat → Dat) (x y : Value) (w : World) (hr : Rd w 0 x (.sl n 1 f)) (hf : Fits (.sl n 1 f) .names) (hs : Rd w 0 y (.sl n' 1 f')) (hf' : Fits (.sl n' 1 f') .names) :
    Calls Try.prog 130 #[x, y] w (BoolE (same (.sl n 1 f) (.sl n' 1 f') .names) w) := by
  obtain ⟨a, cap, rfl⟩ := hr.slice
  obtain ⟨a2, cap2, rfl⟩ := hs.slice
  have hn := hf.2.1
  have hn' := hf'.2.1
  rw [same_sl]
  by_cases hnn : n = n'
  case neg =>
    have d : ((n : Int) != (n' : Int)) = true := by simp; omega
    have d2 : (n == n') = false := by simpa using hnn
    rw [d2, Bool.false_and]
    clear hnn d2
    go_enter Try.func130, Try.ntmps130
    go_wp2_with fail
    go_ret
    exact ⟨rfl, Below.refl _ _⟩
  subst hnn
  have HV : Hid (((n == n) && (List.range n).all fun i => sameC (rowTy .names) (f i) (f' i)) = (List.range n).all fun i => sameC [.str] (f i) (f' i)) := by show _ = _; simp [rowTy]
  rw [HV.out]
  clear HV
  go_enter Try.func130, Try.ntmps130
  go_wp2_with fail
  go_loopw [13] (fun i wr => ∃ j : Nat, j ≤ n ∧ i = .int .i64 (j : Int) ∧ Hid (((List.range j).all fun i => sameC [.str] (f i) (f' i)) = true) ∧ Below w.heap.size w wr) (fun i _ => n - (intOf i).toNat)
  case atStart => exact ⟨0, by omega, rfl, rfl, Below.refl _ _⟩
  case round =>
    obtain ⟨j, hj, rfl, HA, hB⟩ := hrel
    by_cases hlt : j < n
    · have hlt2 : (j : Int) < (n : Int) := by omega
      obtain ⟨g, o, rfl, -, hg, s, z0, e0, -⟩ := row_names (hr.later hB) hf hlt
      obtain ⟨g2, o2, rfl, -, hg2, t, k0, l0, -⟩ := row_names (hs.later hB) hf' hlt
      have hV : sameC [.str] (f j) (f' j) = decide (s = t) := by
        unfold sameC
        simp [e0, l0, same_str]
      replace z0 := lat_cell z0
      replace k0 := lat_cell k0
      clear e0 l0
      by_cases hst : s = t
      · have HV2 : Hid (sameC [.str] (f j) (f' j) = true) := by show _ = true; rw [hV]; simpa using hst
        have HA2 : Hid (((List.range (j + 1)).all fun i => sameC [.str] (f i) (f' i)) = true) := by show _ = true; rw [all_succ, HA.out, HV2.out]; rfl
        subst hst
        clear hV HV2
        have hss : (s.toList != s.toList) = false := by simp
        go_wp2_with fail
        refine region_lat (by kernel_rfl) (by kernel_rfl) ?_
        iterate 9 go_big_quiet_step (fail)
        refine wpQuiet_nil ?_
        rintro _ ⟨nq, rfl⟩
        have hbq := hB.trans ((lat_below wr nq).mono hB.size)
        clear z0 k0
        generalize lat wr nq = wq at hbq ⊢
        go_wp2_with fail
        go_roundw
        case rel => exact ⟨j + 1, by omega, by go_num, HA2, hbq⟩
        case measure => simp [intOf]; omega
      · have h : Hid (((List.range n).all fun i => sameC [.str] (f i) (f' i)) = false) := by
          show _ = false
          rw [List.all_eq_false]
          exact ⟨j, List.mem_range.2 hlt, by rw [hV]; simpa using hst⟩
        have hss := (toList_ne hst).1
        have hse := (toList_ne hst).2
        clear hV hst
        go_wp2_with fail
        refine region_lat (by kernel_rfl) (by kernel_rfl) ?_
        iterate 9 go_big_quiet_step (fail)
        refine wpQuiet_nil ?_
        rintro _ ⟨nq, rfl⟩
        have hbq := hB.trans ((lat_below wr nq).mono hB.size)
        clear z0 k0
        generalize lat wr nq = wq at hbq ⊢
        go_wp2_with fail
        go_ret
        exact ⟨by rw [h.out]; rfl, hbq⟩
    · obtain rfl : n = j := by omega
      go_wp2_with fail
      go_ret
      exact ⟨by rw [HA.out]; rfl, hB⟩
end Go.Proofs.Ytfmgkinindkedaa

/- The model's comparison of trees. -/
namespace Go.Proofs.Ytfmgkinindkedaa
open Go.RowKit

/-- what the model's SameExpr and l7Same are known to give -/
def SameExprP (c c' : Nat → Dat) : Prop := ∀ (x0 x1 : Int) (x2 : Bool) (x3 x4 : Int) (x5 x6 x7 : ByteArray) (x8 x9 : Value) (y0 y1 : Int) (y2 : Bool) (y3 y4 : Int) (y5 y6 y7 : ByteArray) (y8 y9 : Value) (w : World),
  Rd w 0 x8 (c 8) → Fits (c 8) .exprs → Rd w 0 x9 (c 9) → Fits (c 9) .queries → Rd w 0 y8 (c' 8) → Fits (c' 8) .exprs → Rd w 0 y9 (c' 9) → Fits (c' 9) .queries →
  Calls Try.prog 129 #[.agg #[.int .i64 x0, .int .i64 x1, .bool x2, .int .i64 x3, .int .i64 x4, .string x5, .string x6, .string x7, x8, x9], .agg #[.int .i64 y0, .int .i64 y1, .bool y2, .int .i64 y3, .int .i64 y4, .string y5, .string y6, .string y7, y8, y9]] w (BoolE (sameFields x0 y0 x1 y1 x2 y2 x3 y3 x4 y4 x5 y5 x6 y6 x7 y7 (same (c 8) (c' 8) .exprs) (same (c 9) (c' 9) .queries)) w)
def SameSP (d d' : Dat) : Prop := ∀ (x y : Value) (w : World), Rd w 0 x d → Fits d .exprs → Rd w 0 y d' → Fits d' .exprs → Calls Try.prog 86 #[x, y] w (BoolE (same d d' .exprs) w)
set_option maxRecDepth 100000 in
set_option maxHeartbeats 4000000 in
theorem l7Same_step (n n' : Nat) (f f' : Nat → Nat → Dat) (IH : ∀ i, i < n → SameExprP (f i) (f' i)) : SameSP (.sl n 10 f) (.sl n' 10 f') := by
  intro x y w hr hf hs hf'
  obtain ⟨a, cap, rfl⟩ := hr.slice
  obtain ⟨a2, cap2, rfl⟩ := hs.slice
  have hn := hf.2.1
  have hn' := hf'.2.1
  rw [same_sl]
  by_cases hnn : n = n'
  case neg =>
    have d : ((n : Int) != (n' : Int)) = true := by simp; omega
    have d2 : (n == n') = false := by simpa using hnn
    rw [d2, Bool.false_and]
    clear hnn d2
    go_enter Try.func86, Try.ntmps86
    go_wp2_with fail
    go_ret
    exact ⟨rfl, Below.refl _ _⟩
  subst hnn
  have HV : Hid (((n == n) && (List.range n).all fun i => sameC (rowTy .exprs) (f i) (f' i)) = (List.range n).all fun i => sameC exprTy (f i) (f' i)) := by show _ = _; simp [rowTy]
  rw [HV.out]
  clear HV
  go_enter Try.func86, Try.ntmps86
  go_wp2_with fail
  go_loopw [5] (fun i wr => ∃ j : Nat, j ≤ n ∧ i = .int .i64 (j : Int) ∧ Hid (((List.range j).all fun i => sameC exprTy (f i) (f' i)) = true) ∧ Below w.heap.size w wr) (fun i _ => n - (intOf i).toNat)
  case atStart => exact ⟨0, by omega, rfl, rfl, Below.refl _ _⟩
  case round =>
    obtain ⟨j, hj, rfl, HA, hB⟩ := hrel
    by_cases hlt : j < n
    · have hlt2 : (j : Int) < (n : Int) := by omega
      obtain ⟨g, o, rfl, -, hg, x0, x1, x2, x3, x4, x5, x6, x7, x8, x9, ⟨z0, z1, z2, z3, z4, z5, z6, z7, z8, z9⟩, ⟨⟨e0, b0⟩, ⟨e1, b1⟩, e2, ⟨e3, b3⟩, ⟨e4, b4⟩, ⟨e5, b5⟩, ⟨e6, b6⟩, ⟨e7, b7⟩, ⟨r8, q8⟩, ⟨r9, q9⟩⟩⟩ := row_exprs (hr.later hB) hf hlt
      obtain ⟨g2, o2, rfl, -, hg2, y0, y1, y2, y3, y4, y5, y6, y7, y8, y9, ⟨k0, k1, k2, k3, k4, k5, k6, k7, k8, k9⟩, ⟨⟨l0, m0⟩, ⟨l1, m1⟩, l2, ⟨l3, m3⟩, ⟨l4, m4⟩, ⟨l5, m5⟩, ⟨l6, m6⟩, ⟨l7, m7⟩, ⟨s8, t8⟩, ⟨s9, t9⟩⟩⟩ := row_exprs (hs.later hB) hf' hlt
      have hE := fun (v : World) (h : Below wr.heap.size wr v) => IH j hlt x0 x1 x2 x3 x4 x5 x6 x7 x8 x9 y0 y1 y2 y3 y4 y5 y6 y7 y8 y9 v (Rd.later r8 h) q8 (Rd.later r9 h) q9 (Rd.later s8 h) t8 (Rd.later s9 h) t9
      simp only [← sameC_expr e0 l0 e1 l1 e2 l2 e3 l3 e4 l4 e5 l5 e6 l6 e7 l7] at hE
      clear e0 l0 e1 l1 e2 l2 e3 l3 e4 l4 e5 l5 e6 l6 e7 l7
      replace z0 := lat_cell z0
      replace k0 := lat_cell k0
      replace z1 := lat_cell z1
      replace k1 := lat_cell k1
      replace z2 := lat_cell z2
      replace k2 := lat_cell k2
      replace z3 := lat_cell z3
      replace k3 := lat_cell k3
      replace z4 := lat_cell z4
      replace k4 := lat_cell k4
      replace z5 := lat_cell z5
      replace k5 := lat_cell k5
      replace z6 := lat_cell z6
      replace k6 := lat_cell k6
      replace z7 := lat_cell z7
      replace k7 := lat_cell k7
      replace z8 := lat_cell z8
      replace k8 := lat_cell k8
      replace z9 := lat_cell z9
      replace k9 := lat_cell k9
      cases hV : sameC exprTy (f j) (f' j)
      all_goals
        rw [hV] at hE
        have HV2 := Lib.hid hV
        clear hV
        go_wp2_with fail
        refine region_lat (by kernel_rfl) (by kernel_rfl) ?_
        iterate 10 (go_big_quiet_step ((refine (hE _ (lat_below wr _)).mono ?_; rintro e w'' ⟨rfl, hb''⟩; exact ⟨rfl, lat_to hb''⟩)))
        refine wpQuiet_nil ?_
        rintro _ ⟨nq, rfl⟩
        have hbq := hB.trans ((lat_below wr nq).mono hB.size)
        clear hE z0 k0 z1 k1 z2 k2 z3 k3 z4 k4 z5 k5 z6 k6 z7 k7 z8 k8 z9 k9
        generalize lat wr nq = wq at hbq ⊢
      · go_wp2_with fail
        go_ret
        refine ⟨?_, hbq⟩
        have h : ((List.range n).all fun i => sameC exprTy (f i) (f' i)) = false := by
          rw [List.all_eq_false]
          exact ⟨j, List.mem_range.2 hlt, by rw [HV2.out]; simp⟩
        rw [h]
        rfl
      · have HA2 : Hid (((List.range (j + 1)).all fun i => sameC exprTy (f i) (f' i)) = true) := by show _ = true; rw [all_succ, HA.out, HV2.out]; rfl
        go_wp2_with fail
        go_roundw
        case rel => exact ⟨j + 1, by omega, by go_num, HA2, hbq⟩
        case measure => simp [intOf]; omega
    · obtain rfl : n = j := by omega
      go_wp2_with fail
      go_ret
      exact ⟨by rw [HA.out]; rfl, hB⟩
end Go.Proofs.Ytfmgkinindkedaa
