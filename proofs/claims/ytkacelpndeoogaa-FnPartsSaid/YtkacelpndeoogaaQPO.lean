/- Joined texts: DrawAll BentT BentA DrawAny DrawVBent DrawVBentK. -/
import Derived.Test.YtkacelpndeoogaaQHDrawQuery
import Derived.Test.YtkacelpndeoogaaQPF
import Derived.Test.YtkacelpndeoogaaQPL
import Derived.Test.YtkacelpndeoogaaQPM
import Derived.Laws.Tables
/- Drawing expressions of any depth. -/
namespace Go.Proofs.Ytkacelpndeoogaa
open Go.RowKit
attribute [local go_sem ↓] execOp_ldE execOp_stE

theorem expr_all : ∀ d : Nat, d ≤ 50 → ExprD d := by
  intro d
  induction d using Nat.strongRecOn with
  | _ d IH =>
    intro hd
    cases d with
    | zero => exact expr_zero
    | succ d => exact expr_step d (by omega) (fun n h1 h3 => kids_step d n (by omega) h1 (by omega) (IH d (by omega) (by omega))) (fun d' e => query_step d' (by omega) (IH d' (by omega) (by omega)))
set_option maxRecDepth 100000 in
set_option maxHeartbeats 8000000 in
theorem deep_any (L : Nat) (c : Cu) (τ : Tau) (W : World) (H : DS L c τ τ W W) :
    Calls Try.prog 84 #[.pointer (some ⟨c.C, 0, none⟩)] W (RowD .exprs 25 L c τ W) := by
  have hWC := H.ltC
  have R0 := Bx.new H 29 zeroE.toArray
  replace H := H.alloc (.cells zeroE.toArray 29)
  go_enter Try.func84, Try.ntmps84
  go_wp2_with fail
  generalize hW1 : W.alloc (.cells zeroE.toArray 29) = W1 at R0 H
  replace hW1 : W.alloc (.cells #[.int .i64 0, .int .i64 0, .bool false, .int .i64 0, .int .i64 0, .string ⟨#[]⟩, .string ⟨#[]⟩, .string ⟨#[]⟩, .slice none 0 0, .slice none 0 0] 29) = W1 := hW1
  rw [hW1]
  clear hW1
  refine (col_any c.B c.C c.a c.len c.cap _ H.cur).mono ?_
  rintro e W2 ⟨s6, s7, h6, h7, rfl, hc, hg⟩
  replace R0 := R0.drawC H hg
  replace H := H.draw hc hg
  clear hc hg
  have hb01 := R0.row.lt
  have st1 := stE_new (w := W2) (ys := [.int .i64 2, .int .i64 0, .bool false, .int .i64 0, .int .i64 0, .string ⟨#[]⟩, .string s6, .string s7, .slice none 0 0, .slice none 0 0]) rfl rfl
  have R1 := Bx.new H 29 #[.int .i64 2, .int .i64 0, .bool false, .int .i64 0, .int .i64 0, .string ⟨#[]⟩, .string s6, .string s7, .slice none 0 0, .slice none 0 0]
  have hy0 : GoodRow τ 1000 .exprs [.int .i64 2, .int .i64 0, .bool false, .int .i64 0, .int .i64 0, .string ⟨#[]⟩, .string s6, .string s7, .slice none 0 0, .slice none 0 0] (0 + 1) := GoodRow.mk10 (by decide) (by decide) (by decide) (by decide) (Nat.zero_le _) (by omega) (by omega) (GoodV.nil _ _ rfl) (GoodV.nil _ _ rfl) (Nat.le_refl _)
  replace R0 := R0.alloc (.cells #[.int .i64 2, .int .i64 0, .bool false, .int .i64 0, .int .i64 0, .string ⟨#[]⟩, .string s6, .string s7, .slice none 0 0, .slice none 0 0] 29)
  replace H := H.alloc (.cells #[.int .i64 2, .int .i64 0, .bool false, .int .i64 0, .int .i64 0, .string ⟨#[]⟩, .string s6, .string s7, .slice none 0 0, .slice none 0 0] 29)
  go_wp2_with fail
  clear st1
  generalize W2.alloc (.cells #[.int .i64 2, .int .i64 0, .bool false, .int .i64 0, .int .i64 0, .string ⟨#[]⟩, .string s6, .string s7, .slice none 0 0, .slice none 0 0] 29) = W3 at R0 R1 H ⊢
  generalize W2.heap.size = b1 at R1 hb01 ⊢
  refine (below_any 3 c.B c.C c.a c.len c.cap _ H.cur (by omega) (by omega)).mono ?_
  rintro e W4 ⟨m, hm0, hm1, rfl, hc, hg⟩
  replace R0 := R0.drawC H hg
  replace R1 := R1.drawC H hg
  replace H := H.draw hc hg
  clear hc hg
  obtain ⟨k, rfl⟩ : ∃ k : Nat, m = (k : Int) := Int.eq_ofNat_of_zero_le hm0
  have hk : k ≤ 2 := by omega
  go_wp2_with fail
  go_loopw [5] (fun i wr => ∃ (j : Nat) (τj : Tau) (es : List Value), j ≤ 22 + k ∧ i = .int .i64 (j : Int) ∧ GoodRow τj 1000 .exprs es (j + 1) ∧ DS L c τ τj W wr ∧ Bx τj W wr W.heap.size 29 zeroE.toArray ∧ Bx τj W wr b1 29 es.toArray) (fun i _ => 22 + k - (intOf i).toNat)
  case atStart => exact ⟨0, τ, _, Nat.zero_le _, rfl, hy0, H, R0, R1⟩
  case round =>
    obtain ⟨j, τj, es, hj, rfl, he, H, R0, R1⟩ := hrel
    clear hy0
    obtain ⟨c0, c1, c2, c3, c4, c5, c6, c7, a8, n8, p8, a9, n9, p9, rfl⟩ := he.tenS
    have ld := ldE_row (ys := [.int .i64 c0, .int .i64 c1, .bool c2, .int .i64 c3, .int .i64 c4, .string c5, .string c6, .string c7, .slice a8 n8 p8, .slice a9 n9 p9]) R1.row rfl
    by_cases hlt : j < 22 + k
    · have hlt2 : (j : Int) < 22 + (k : Int) := by omega
      obtain ⟨H', g9, w9, le9⟩ := H.adopt1 rfl he
      have hy : GoodRow (tupd τj wr.heap.size (.exprs, 1, [j + 1])) 1000 .exprs [.int .i64 3, .int .i64 16, .bool false, .int .i64 0, .int .i64 0, .string ⟨#[]⟩, .string ⟨#[]⟩, .string ⟨#[]⟩, .slice (some ⟨wr.heap.size, 0, none⟩) 1 1, .slice none 0 0] (j + 1 + 1) := GoodRow.mk10 (by decide) (by decide) (by decide) (by decide) (by decide) (by decide) (by decide) g9 (GoodV.nil _ _ rfl) (by rw [w9]; show 1 + (_ + 0) ≤ _; omega)
      replace R0 : Bx _ W (wr.alloc (.cells #[.int .i64 c0, .int .i64 c1, .bool c2, .int .i64 c3, .int .i64 c4, .string c5, .string c6, .string c7, .slice a8 n8 p8, .slice a9 n9 p9] 29)) W.heap.size _ _ := R0.adopt (.exprs, 1, [j + 1]) _
      replace R1 : Bx _ W (wr.alloc (.cells #[.int .i64 c0, .int .i64 c1, .bool c2, .int .i64 c3, .int .i64 c4, .string c5, .string c6, .string c7, .slice a8 n8 p8, .slice a9 n9 p9] 29)) b1 _ _ := R1.adopt (.exprs, 1, [j + 1]) _
      have st := stE_row (ys := [.int .i64 3, .int .i64 16, .bool false, .int .i64 0, .int .i64 0, .string ⟨#[]⟩, .string ⟨#[]⟩, .string ⟨#[]⟩, .slice (some ⟨wr.heap.size, 0, none⟩) 1 1, .slice none 0 0]) R1.row rfl rfl rfl
      clear H
      have H : DS L c τ _ W (wr.alloc (.cells #[.int .i64 c0, .int .i64 c1, .bool c2, .int .i64 c3, .int .i64 c4, .string c5, .string c6, .string c7, .slice a8 n8 p8, .slice a9 n9 p9] 29)) := H'
      clear H' he
      have H5 := H.own (setRow_grown _ b1 [.int .i64 3, .int .i64 16, .bool false, .int .i64 0, .int .i64 0, .string ⟨#[]⟩, .string ⟨#[]⟩, .string ⟨#[]⟩, .slice (some ⟨wr.heap.size, 0, none⟩) 1 1, .slice none 0 0].toArray) (fun k e => by injection e with e; subst e; exact ⟨R1.hi, R1.free⟩)
      have R05 := R0.draw (setRow_grown _ b1 [.int .i64 3, .int .i64 16, .bool false, .int .i64 0, .int .i64 0, .string ⟨#[]⟩, .string ⟨#[]⟩, .string ⟨#[]⟩, .slice (some ⟨wr.heap.size, 0, none⟩) 1 1, .slice none 0 0].toArray) (by intro e; injection e; omega)
      have R15 : Bx _ W _ b1 _ _ := ⟨R1.row.setRow [.int .i64 3, .int .i64 16, .bool false, .int .i64 0, .int .i64 0, .string ⟨#[]⟩, .string ⟨#[]⟩, .string ⟨#[]⟩, .slice (some ⟨wr.heap.size, 0, none⟩) 1 1, .slice none 0 0].toArray, R1.free, R1.hi⟩
      clear R0 R1 H
      go_wp2_with fail
      go_roundw
      case rel => exact ⟨j + 1, _, _, by omega, by go_num, hy, H5, R05, R15⟩
      case measure => simp [intOf]; omega
    · have hge : ¬ ((j : Int) < 22 + (k : Int)) := by omega
      have HF := finE H R0 (ys := [.int .i64 c0, .int .i64 c1, .bool c2, .int .i64 c3, .int .i64 c4, .string c5, .string c6, .string c7, .slice a8 n8 p8, .slice a9 n9 p9]) (N := 25) (he.le (TLe.refl _) (by omega))
      have hb := R0.row.setRow [.int .i64 c0, .int .i64 c1, .bool c2, .int .i64 c3, .int .i64 c4, .string c5, .string c6, .string c7, .slice a8 n8 p8, .slice a9 n9 p9].toArray
      have st := stE_row (ys := [.int .i64 c0, .int .i64 c1, .bool c2, .int .i64 c3, .int .i64 c4, .string c5, .string c6, .string c7, .slice a8 n8 p8, .slice a9 n9 p9]) R0.row rfl rfl rfl
      clear hj hlt
      go_wp2_with fail
      generalize wr.setRow W.heap.size [.int .i64 c0, .int .i64 c1, .bool c2, .int .i64 c3, .int .i64 c4, .string c5, .string c6, .string c7, .slice a8 n8 p8, .slice a9 n9 p9].toArray = wf at hb HF ⊢
      have f0 := hb.cell (i := 0) (v := .int .i64 c0) rfl
      have f1 := hb.cell (i := 1) (v := .int .i64 c1) rfl
      have f2 := hb.cell (i := 2) (v := .bool c2) rfl
      have f3 := hb.cell (i := 3) (v := .int .i64 c3) rfl
      have f4 := hb.cell (i := 4) (v := .int .i64 c4) rfl
      have f5 := hb.cell (i := 5) (v := .string c5) rfl
      have f6 := hb.cell (i := 6) (v := .string c6) rfl
      have f7 := hb.cell (i := 7) (v := .string c7) rfl
      have f8 := hb.cell (i := 8) (v := .slice a8 n8 p8) rfl
      have f9 := hb.cell (i := 9) (v := .slice a9 n9 p9) rfl
      refine bodyPost_ret (v := .agg #[.int .i64 c0, .int .i64 c1, .bool c2, .int .i64 c3, .int .i64 c4, .string c5, .string c6, .string c7, .slice a8 n8 p8, .slice a9 n9 p9]) (by simp [results, Try.results84, go_sem, f0, f1, f2, f3, f4, f5, f6, f7, f8, f9]) rfl ?_
      exact HF
end Go.Proofs.Ytkacelpndeoogaa

/- Typed blocks in which one row is turned, or to which one row comes. No program. -/
namespace Go.Proofs.Ytkacelpndeoogaa
open Go.RowKit

/-- all weights twice as great -/
def dbl (τ : Tau) : Tau := fun g => (τ g).map fun b => (b.1, b.2.1, b.2.2.map (2 * ·))
theorem sum_dbl : ∀ l : List Nat, (l.map (2 * ·)).sum = 2 * l.sum
  | [] => rfl
  | a :: l => by rw [List.map_cons, List.sum_cons, List.sum_cons, sum_dbl l]; omega
theorem slw_dbl (τ : Tau) (v : Value) : slw (dbl τ) v = 2 * slw τ v := by
  unfold slw
  cases v
  case slice a n c =>
    cases a with
    | none => rfl
    | some a =>
      simp only [dbl]
      cases h : τ a.block with
      | none => rfl
      | some b => exact sum_dbl _
  all_goals rfl
theorem sums_dbl (τ : Tau) : ∀ ys : List Value, (ys.map (slw (dbl τ))).sum = 2 * (ys.map (slw τ)).sum
  | [] => rfl
  | y :: ys => by rw [List.map_cons, List.map_cons, List.sum_cons, List.sum_cons, sums_dbl τ ys, slw_dbl]; omega
theorem GoodV.dbl {τ : Tau} {S : Nat} {ty : Ty} {v : Value} (h : GoodV τ S ty v) : GoodV (Go.Proofs.Ytkacelpndeoogaa.dbl τ) S ty v := by
  cases ty
  case int => exact h
  case bool => exact h
  case str => exact h
  all_goals
    rcases h with rfl | ⟨g, n, cap, l, rfl, hg, hn, hc⟩
    · exact .inl rfl
    · exact .inr ⟨g, n, cap, l.map (2 * ·), rfl, by unfold Go.Proofs.Ytkacelpndeoogaa.dbl; rw [hg]; rfl, by rw [List.length_map]; exact hn, by rw [List.length_map]; exact hc⟩
/-- a row that bears one weight more -/
structure Slack (τ : Tau) (S : Nat) (ty : Ty) (ys : List Value) (N : Nat) : Prop where
  good : GoodRow τ S ty ys N
  more : 2 + (ys.map (slw τ)).sum ≤ N
theorem GoodRow.slack {τ : Tau} {S : Nat} {ty : Ty} {ys : List Value} {N : Nat} (h : GoodRow τ S ty ys N) : Slack (dbl τ) S ty ys (2 * N) := by
  have hs := h.sum
  refine ⟨⟨h.len, fun j hj => ?_, ?_⟩, ?_⟩
  · obtain ⟨v, hv, hg⟩ := h.cell j hj
    exact ⟨v, hv, hg.dbl⟩
  · rw [sums_dbl]; omega
  · rw [sums_dbl]; omega
/-- typed blocks of which each row bears one weight more -/
structure InvS (L : Nat) (τ : Tau) (S : Nat) (w : World) : Prop where
  inv : Inv L τ S w
  more : ∀ g ty cap l, τ g = some (ty, cap, l) → ∀ cs : List Value, w.heap[g]? = some (.cells cs.toArray (elemT ty) (0, 0)) → ∀ i (hi : i < l.length), Slack τ S ty (rowAt (rowTy ty).length cs i) l[i]
theorem cells_inj {w : World} {g : Nat} {a b : List Value} {t t' : TypeId} (h : w.heap[g]? = some (.cells a.toArray t (0, 0))) (h' : w.heap[g]? = some (.cells b.toArray t' (0, 0))) : a = b := by
  rw [h] at h'
  injection h' with h'
  injection h' with h'
  exact List.toArray_inj h'
theorem dbl_some {τ : Tau} {g : Nat} {ty : Ty} {cap : Nat} {l : List Nat} (h : dbl τ g = some (ty, cap, l)) : ∃ l0, τ g = some (ty, cap, l0) ∧ l = l0.map (2 * ·) := by
  unfold dbl at h
  cases e : τ g with
  | none => rw [e] at h; cases h
  | some b =>
    rw [e] at h
    injection h with h
    obtain ⟨t, c, l0⟩ := b
    injection h with h1 h2
    injection h2 with h2 h3
    subst h1; subst h2
    exact ⟨l0, rfl, h3.symm⟩
theorem Inv.dbl {L : Nat} {τ : Tau} {S : Nat} {w : World} (H : Inv L τ S w) : InvS L (Go.Proofs.Ytkacelpndeoogaa.dbl τ) S w := by
  have key : ∀ g ty cap l, Go.Proofs.Ytkacelpndeoogaa.dbl τ g = some (ty, cap, l) → L ≤ g ∧ tree ty = true ∧ l.length ≤ cap ∧ cap ≤ maxLen ∧ ∃ cs : List Value, w.heap[g]? = some (.cells cs.toArray (elemT ty) (0, 0)) ∧ cs.length = cap * (rowTy ty).length ∧
      ∀ i (hi : i < l.length), Slack (Go.Proofs.Ytkacelpndeoogaa.dbl τ) S ty (rowAt (rowTy ty).length cs i) l[i] := fun g ty cap l hg => by
    obtain ⟨l0, h0, rfl⟩ := dbl_some hg
    obtain ⟨a, b, c, d, cs, h1, h2, h3⟩ := H.blk g ty cap l0 h0
    refine ⟨a, b, by rw [List.length_map]; exact c, d, cs, h1, h2, fun i hi => ?_⟩
    rw [List.getElem_map]
    exact (h3 i (by simpa using hi)).slack
  refine ⟨⟨fun g ty cap l hg => ?_⟩, fun g ty cap l hg cs hcs i hi => ?_⟩
  · obtain ⟨a, b, c, d, cs, h1, h2, h3⟩ := key g ty cap l hg
    exact ⟨a, b, c, d, cs, h1, h2, fun i hi => (h3 i hi).good⟩
  · obtain ⟨_, _, _, _, cs', h1, _, h3⟩ := key g ty cap l hg
    obtain rfl := cells_inj hcs h1
    exact h3 i hi
theorem InvS.keep {L : Nat} {τ : Tau} {S : Nat} {w w' : World} (H : InvS L τ S w) (h : ∀ g b, τ g = some b → w'.heap[g]? = w.heap[g]?) : InvS L τ S w' :=
  ⟨H.inv.keep h, fun g ty cap l hg cs hcs i hi => H.more g ty cap l hg cs ((h g _ hg).symm.trans hcs) i hi⟩
/-- row i of some cells is another -/
def splice (k : Nat) (cs : List Value) (i : Nat) (ys : List Value) : List Value := cs.take (i * k) ++ ys ++ cs.drop (i * k + k)
theorem splice_len {k i : Nat} {cs ys : List Value} (hy : ys.length = k) (hi : i * k + k ≤ cs.length) : (splice k cs i ys).length = cs.length := by
  unfold splice
  rw [List.length_append, List.length_append, List.length_take, List.length_drop, hy]
  omega
theorem splice_row {k i : Nat} {cs ys : List Value} (hy : ys.length = k) (hi : i * k + k ≤ cs.length) (j : Nat) : rowAt k (splice k cs i ys) j = if j = i then ys else rowAt k cs j := by
  refine List.ext_getElem? fun p => ?_
  by_cases hp : p < k
  · rw [rowAt_get hp]
    unfold splice
    by_cases e : j = i
    · subst e
      rw [if_pos rfl, List.append_assoc, List.getElem?_append_right (by rw [List.length_take]; omega), List.length_take, List.getElem?_append_left (by rw [hy]; omega)]
      congr 1
      omega
    · rw [if_neg e, rowAt_get hp]
      rcases Nat.lt_or_ge j i with h | h
      · have h1 : j * k + k ≤ i * k := by have := Nat.mul_le_mul_right k (show j + 1 ≤ i from h); rw [Nat.add_mul, Nat.one_mul] at this; exact this
        rw [List.append_assoc, List.getElem?_append_left (by rw [List.length_take]; omega), List.getElem?_take, if_pos (by omega)]
      · have h1 : i * k + k ≤ j * k := by have := Nat.mul_le_mul_right k (show i + 1 ≤ j by omega); rw [Nat.add_mul, Nat.one_mul] at this; exact this
        rw [List.getElem?_append_right (by rw [List.length_append, List.length_take, hy]; omega), List.length_append, List.length_take, hy, List.getElem?_drop]
        congr 1
        omega
  · have h1 : (rowAt k (splice k cs i ys) j)[p]? = none := List.getElem?_eq_none (by unfold rowAt; rw [List.length_take]; omega)
    rw [h1]
    by_cases e : j = i
    · rw [if_pos e]; exact (List.getElem?_eq_none (by omega)).symm
    · rw [if_neg e]; exact (List.getElem?_eq_none (by unfold rowAt; rw [List.length_take]; omega)).symm
theorem row_fits {cap k i : Nat} {cs : List Value} (hlen : cs.length = cap * k) (hi : i < cap) : i * k + k ≤ cs.length := by
  have := Nat.mul_le_mul_right k (show i + 1 ≤ cap from hi)
  rw [Nat.add_mul, Nat.one_mul] at this
  omega
/-- one row of a typed block is another -/
theorem Inv.setRow {L : Nat} {τ : Tau} {S : Nat} {w w' : World} (H : Inv L τ S w) {g : Nat} {ty : Ty} {cap : Nat} {l : List Nat} (hg : τ g = some (ty, cap, l)) {cs : List Value} (hcs : w.heap[g]? = some (.cells cs.toArray (elemT ty) (0, 0)))
    (hlen : cs.length = cap * (rowTy ty).length) {i : Nat} (hi : i < cap) {ys : List Value} (hy : ys.length = (rowTy ty).length) (hrow : ∀ h : i < l.length, GoodRow τ S ty ys l[i])
    (hw : w'.heap[g]? = some (.cells (splice (rowTy ty).length cs i ys).toArray (elemT ty) (0, 0))) (ho : ∀ k b, τ k = some b → k ≠ g → w'.heap[k]? = w.heap[k]?) : Inv L τ S w' := ⟨fun k ty' cap' l' hk => by
  obtain ⟨a, b, c, d, cs', h1, h2, h3⟩ := H.blk k ty' cap' l' hk
  by_cases e : k = g
  · subst e
    rw [hg] at hk
    injection hk with hk
    injection hk with e1 e2
    injection e2 with e2 e3
    subst e1; subst e2; subst e3
    obtain rfl := cells_inj hcs h1
    refine ⟨a, b, c, d, _, hw, by rw [splice_len hy (row_fits hlen hi)]; exact hlen, fun j hj => ?_⟩
    rw [splice_row hy (row_fits hlen hi)]
    by_cases e : j = i
    · subst e; rw [if_pos rfl]; exact hrow hj
    · rw [if_neg e]; exact h3 j hj
  · exact ⟨a, b, c, d, cs', (ho k _ hk e).trans h1, h2, h3⟩⟩
def tyB (a b : Ty) : Nat := if a.ctorIdx = b.ctorIdx then 1 else 0
theorem tyB_one (a b : Ty) (h : tree a = true) : ((rowTy b).map (tyB a)).sum ≤ 1 := by
  cases a <;> first | (cases h; done) | (cases b <;> decide)
theorem bump_sum {τ : Tau} {S g : Nat} {ty : Ty} {cap : Nat} {l l' : List Nat} (hg : τ g = some (ty, cap, l)) (hs : l'.sum ≤ l.sum + 1) : ∀ (tys : List Ty) (ys : List Value), ys.length = tys.length → (∀ j (hj : j < tys.length), ∃ v, ys[j]? = some v ∧ GoodV τ S tys[j] v) →
    (ys.map (slw (tupd τ g (ty, cap, l')))).sum ≤ (ys.map (slw τ)).sum + (tys.map (tyB ty)).sum
  | [], [], _, _ => Nat.le_refl _
  | [], y :: ys, h, _ => by simp at h
  | t :: tys, [], h, _ => by simp at h
  | t :: tys, y :: ys, h, H => by
    have ih := bump_sum hg hs tys ys (by simpa using h) fun j hj => by
      obtain ⟨v, hv, hgv⟩ := H (j + 1) (by simpa using hj)
      exact ⟨v, by simpa using hv, by simpa using hgv⟩
    obtain ⟨v, hv, hgv⟩ := H 0 (by simp)
    obtain rfl : y = v := by simpa using hv
    have h0 : slw (tupd τ g (ty, cap, l')) y ≤ slw τ y + tyB ty t := by
      have sl : (y = .slice none 0 0 ∨ ∃ (g' n cap' : Nat) (l0 : List Nat), y = .slice (some ⟨g', 0, none⟩) n cap' ∧ τ g' = some (t, cap', l0) ∧ n ≤ l0.length ∧ l0.length ≤ cap') → slw (tupd τ g (ty, cap, l')) y ≤ slw τ y + tyB ty t := fun h => by
        rcases h with rfl | ⟨g', n, cap', l0, rfl, hg', _, _⟩
        · exact Nat.zero_le _
        · by_cases e : g' = g
          · subst e
            rw [hg] at hg'
            injection hg' with hg'
            injection hg' with e1 e2
            injection e2 with e2 e3
            subst e1; subst e2; subst e3
            rw [slw_block (tupd_same _ _ _), slw_block hg]
            unfold tyB
            rw [if_pos rfl]
            exact hs
          · rw [slw_block ((tupd_other e).trans hg'), slw_block hg']
            exact Nat.le_add_right _ _
      cases t
      case int => obtain ⟨n, rfl, _⟩ := hgv; exact Nat.zero_le _
      case bool => obtain ⟨n, rfl⟩ := hgv; exact Nat.zero_le _
      case str => obtain ⟨n, rfl, _⟩ := hgv; exact Nat.zero_le _
      all_goals exact sl hgv
    rw [List.map_cons, List.map_cons, List.map_cons, List.sum_cons, List.sum_cons, List.sum_cons]
    omega
theorem GoodV.bump {τ : Tau} {S g : Nat} {ty t : Ty} {cap : Nat} {l l' : List Nat} {v : Value} (h : GoodV τ S t v) (hg : τ g = some (ty, cap, l)) (hl : l.length ≤ l'.length) (hc : l'.length ≤ cap) : GoodV (tupd τ g (ty, cap, l')) S t v := by
  have sl : (v = .slice none 0 0 ∨ ∃ (g' n cap' : Nat) (l0 : List Nat), v = .slice (some ⟨g', 0, none⟩) n cap' ∧ τ g' = some (t, cap', l0) ∧ n ≤ l0.length ∧ l0.length ≤ cap') →
      (v = .slice none 0 0 ∨ ∃ (g' n cap' : Nat) (l0 : List Nat), v = .slice (some ⟨g', 0, none⟩) n cap' ∧ tupd τ g (ty, cap, l') g' = some (t, cap', l0) ∧ n ≤ l0.length ∧ l0.length ≤ cap') := fun h => by
    rcases h with rfl | ⟨g', n, cap', l0, rfl, hg', h1, h2⟩
    · exact .inl rfl
    · by_cases e : g' = g
      · subst e
        rw [hg] at hg'
        injection hg' with hg'
        injection hg' with e1 e2
        injection e2 with e2 e3
        subst e1; subst e2; subst e3
        exact .inr ⟨g', n, cap, l', rfl, tupd_same _ _ _, by omega, hc⟩
      · exact .inr ⟨g', n, cap', l0, rfl, (tupd_other e).trans hg', h1, h2⟩
  cases t
  case int => exact h
  case bool => exact h
  case str => exact h
  all_goals exact sl h
theorem Slack.bump {τ : Tau} {S g : Nat} {ty t : Ty} {cap N : Nat} {l l' : List Nat} {ys : List Value} (h : Slack τ S t ys N) (hg : τ g = some (ty, cap, l)) (ht : tree ty = true) (hl : l.length ≤ l'.length) (hc : l'.length ≤ cap) (hs : l'.sum ≤ l.sum + 1) : GoodRow (tupd τ g (ty, cap, l')) S t ys N := by
  refine ⟨h.good.len, fun j hj => ?_, ?_⟩
  · obtain ⟨v, hv, hgv⟩ := h.good.cell j hj
    exact ⟨v, hv, hgv.bump hg hl hc⟩
  · have h1 := bump_sum hg hs (rowTy t) ys h.good.len h.good.cell
    have h2 := tyB_one ty t ht
    have h3 := h.more
    omega
/-- one more row of a typed block -/
theorem InvS.bump {L : Nat} {τ : Tau} {S : Nat} {w w' : World} (H : InvS L τ S w) {g : Nat} {ty : Ty} {cap : Nat} {l : List Nat} (hg : τ g = some (ty, cap, l)) {cs : List Value} (hcs : w.heap[g]? = some (.cells cs.toArray (elemT ty) (0, 0)))
    (hlen : cs.length = cap * (rowTy ty).length) (hc : l.length < cap) {ys : List Value} (hy : ys.length = (rowTy ty).length) (hrow : GoodRow (tupd τ g (ty, cap, l ++ [1])) S ty ys 1)
    (hw : w'.heap[g]? = some (.cells (splice (rowTy ty).length cs l.length ys).toArray (elemT ty) (0, 0))) (ho : ∀ k b, τ k = some b → k ≠ g → w'.heap[k]? = w.heap[k]?) : Inv L (tupd τ g (ty, cap, l ++ [1])) S w' := ⟨fun k ty' cap' l' hk => by
  by_cases e : k = g
  · subst e
    rw [tupd_same] at hk
    injection hk with hk
    injection hk with e1 e2
    injection e2 with e2 e3
    subst e1; subst e2; subst e3
    obtain ⟨a, b, c, d, cs', h1, h2, h3⟩ := H.inv.blk k ty cap l hg
    obtain rfl := cells_inj hcs h1
    refine ⟨a, b, by rw [List.length_append, List.length_singleton]; omega, d, _, hw, by rw [splice_len hy (row_fits hlen hc)]; exact hlen, fun i hi => ?_⟩
    rw [List.length_append, List.length_singleton] at hi
    rw [splice_row hy (row_fits hlen hc)]
    by_cases e : i < l.length
    · rw [if_neg (by omega), List.getElem_append_left e]
      exact (H.more k ty cap l hg cs hcs i e).bump hg b (by simp) (by simp; omega) (by simp)
    · obtain rfl : i = l.length := by omega
      rw [if_pos rfl, List.getElem_append_right (Nat.le_refl _)]
      simpa using hrow
  · rw [tupd_other e] at hk
    obtain ⟨a, b, c, d, cs', h1, h2, h3⟩ := H.inv.blk k ty' cap' l' hk
    obtain ⟨_, ht, _⟩ := H.inv.blk g ty cap l hg
    exact ⟨a, b, c, d, cs', (ho k _ hk e).trans h1, h2, fun i hi => (H.more k ty' cap' l' hk cs' h1 i hi).bump hg ht (by simp) (by simp; omega) (by simp)⟩⟩
end Go.Proofs.Ytkacelpndeoogaa

/- An element more in a typed slice. -/
namespace Go.Proofs.Ytkacelpndeoogaa
open Go.RowKit

/-- what a step that writes in typed blocks leaves -/
structure Kept (C : Nat) (τ τ' : Tau) (W W' : World) : Prop where
  os : W'.os = W.os
  tape : W'.tape = W.tape
  output : W'.output = W.output
  size : W.heap.size ≤ W'.heap.size
  blk : ∀ k, k < W.heap.size → τ k = none → k ≠ C → W'.heap[k]? = W.heap[k]?
  free : ∀ k, k < W.heap.size → τ k = none → τ' k = none
theorem Kept.trans {C : Nat} {τ τ1 τ2 : Tau} {a b c : World} (h : Kept C τ τ1 a b) (k : Kept C τ1 τ2 b c) : Kept C τ τ2 a c :=
  ⟨k.os.trans h.os, k.tape.trans h.tape, k.output.trans h.output, Nat.le_trans h.size k.size, fun n hn h0 hC => (k.blk n (Nat.lt_of_lt_of_le hn h.size) (h.free n hn h0) hC).trans (h.blk n hn h0 hC),
    fun n hn h0 => k.free n (Nat.lt_of_lt_of_le hn h.size) (h.free n hn h0)⟩
theorem Kept.grown {C : Nat} {τ : Tau} {W W' : World} (g : W.grownBy W' (some C)) : Kept C τ τ W W' :=
  ⟨g.os, g.tape, g.output, g.size, fun k hk _ hC => g.block k hk (fun e => hC (by injection e)), fun _ _ h => h⟩
theorem Kept.own {C : Nat} {τ0 τ : Tau} {W0 W W' : World} {r : Nat} (h : Kept C τ0 τ W0 W) (g : W.grownBy W' (some r)) (hr : W0.heap.size ≤ r) : Kept C τ0 τ W0 W' :=
  ⟨g.os.trans h.os, g.tape.trans h.tape, g.output.trans h.output, Nat.le_trans h.size g.size, fun k hk h0 hC => (g.block k (Nat.lt_of_lt_of_le hk h.size) (fun e => by injection e; omega)).trans (h.blk k hk h0 hC), h.free⟩
theorem Cur.keptIn {B C L : Nat} {a : Option Addr} {len cap : Nat} {W W' : World} (H : Cur B C a len cap W) (hC : C < L) (g : ∀ k, k < L → W'.heap[k]? = W.heap[k]?) : Cur B C a len cap W' := by
  obtain ⟨h1, ⟨i, h, h2, h3⟩, h4, h5⟩ := H
  refine ⟨h1, ⟨i, h, h2, (g C hC).trans h3⟩, h4, fun j hj => ?_⟩
  obtain ⟨b, off, n, e1, e2, e3, e4, e5⟩ := h5 j hj
  refine ⟨b, off, n, e1, e2, e3, e4, ?_⟩
  rw [← e5]
  exact World.cell?_of_block (g b (by omega))
/-- one typed block has a row more, of which those below N alone -/
def Bump (N : Nat) (τ τ1 : Tau) : Prop := τ1 = τ ∨ ∃ g ty cap l, τ g = some (ty, cap, l) ∧ tree ty = true ∧ l.sum < N ∧ l.length < cap ∧ τ1 = tupd τ g (ty, cap, l ++ [1])
theorem Bump.mono {N N' : Nat} {τ τ1 : Tau} (h : Bump N τ τ1) (hN : N ≤ N') : Bump N' τ τ1 := by
  rcases h with h | ⟨g, ty, cap, l, h1, h2, h3, h4, h5⟩
  · exact .inl h
  · exact .inr ⟨g, ty, cap, l, h1, h2, by omega, h4, h5⟩
theorem Bump.slack {N M : Nat} {τ τ1 : Tau} {S : Nat} {t : Ty} {ys : List Value} (h : Bump N τ τ1) (H : Slack τ S t ys M) : GoodRow τ1 S t ys M := by
  rcases h with rfl | ⟨g, ty, cap, l, h1, h2, h3, h4, rfl⟩
  · exact H.good
  · exact H.bump h1 h2 (by simp) (by simp; omega) (by simp)
theorem Bump.big {N : Nat} {τ τ1 : Tau} (h : Bump N τ τ1) {g : Nat} {b : Blk} (hb : τ g = some b) (hN : N ≤ b.2.2.sum) : τ1 g = some b := by
  rcases h with rfl | ⟨k, ty, cap, l, h1, h2, h3, h4, rfl⟩
  · exact hb
  · by_cases e : g = k
    · subst e
      rw [h1] at hb
      injection hb with hb
      rw [← hb] at hN
      have : l.sum < N := h3
      exact absurd hN (by show ¬ (N ≤ l.sum); omega)
    · rw [tupd_other e]; exact hb
theorem sum_ge_len : ∀ l : List Nat, (∀ i (h : i < l.length), 1 ≤ l[i]) → l.length ≤ l.sum
  | [], _ => Nat.le_refl _
  | a :: l, h => by
    have h0 := h 0 (by simp)
    have ih := sum_ge_len l fun i hi => by have := h (i + 1) (by simpa using hi); simpa using this
    simp at h0 ⊢
    omega
theorem sum_take_le : ∀ (l : List Nat) (n : Nat), (l.take n).sum ≤ l.sum
  | [], n => by simp
  | a :: l, 0 => by simp
  | a :: l, n + 1 => by have := sum_take_le l n; simp; omega
theorem Inv.len_sum {L : Nat} {τ : Tau} {S : Nat} {w : World} (H : Inv L τ S w) {g : Nat} {ty : Ty} {cap : Nat} {l : List Nat} (hg : τ g = some (ty, cap, l)) : l.length ≤ l.sum := by
  obtain ⟨_, _, _, _, cs, _, _, h⟩ := H.blk g ty cap l hg
  exact sum_ge_len l fun i hi => by have := (h i hi).sum; omega
theorem app_typed (tS tr : TypeId) {ty : Ty} (ht : tree ty = true) (i : TypeInfo) (z : Value) (hU : Try.prog.underlying tS = some (.slice (elemT ty))) (hi : Try.prog.info? (elemT ty) = some i) (hz : i.zero = some z)
    (hsize : i.size = (rowTy ty).length) (hzs : z.cells.size = (rowTy ty).length) (hby : i.bytes ≤ 1000)
    {L C N : Nat} {τ : Tau} {W : World} (H : InvS L τ 1000 W) (hL : L ≤ W.heap.size) (v : Value) (hv : GoodV τ 1000 ty v) (hN : slw τ v < N) (hN2 : N ≤ 1000)
    (a : Addr) (c : Nat) (ys : List Value) (hy : ∀ τ, GoodRow τ 1000 ty ys 1) (hone : ∀ u ∈ ys, u.oneCell' = true) (hnews : ∀ j u, ys[j]? = some u → W.cell? (a.add j) = some u) :
    ∃ (τ1 τ' : Tau) (g n cp : Nat) (W' : World), (Builtin.append_ #[tS, tS] tr #[v, .slice (some a) 1 c]).run Try.prog W = .ok (.slice (some ⟨g, 0, none⟩) n cp) W' ∧ Bump N τ τ1 ∧ TLe τ1 τ' ∧ Inv L τ' 1000 W' ∧
      GoodV τ' 1000 ty (.slice (some ⟨g, 0, none⟩) n cp) ∧ slw τ' (.slice (some ⟨g, 0, none⟩) n cp) ≤ slw τ v + 1 ∧ (∀ t u, t.ctorIdx ≠ ty.ctorIdx → GoodV τ 1000 t u → GoodV τ' 1000 t u ∧ slw τ' u = slw τ u) ∧ Kept C τ τ' W W' ∧ (∀ k, k < W.heap.size → τ k = none → W'.heap[k]? = W.heap[k]?) := by
  have hk : 0 < (rowTy ty).length := by cases ty <;> first | decide | cases ht
  have hyl : ys.length = (rowTy ty).length := (hy τ).len
  have sl : v = .slice none 0 0 ∨ ∃ (g n cap : Nat) (l : List Nat), v = .slice (some ⟨g, 0, none⟩) n cap ∧ τ g = some (ty, cap, l) ∧ n ≤ l.length ∧ l.length ≤ cap := by
    cases ty <;> first | exact hv | cases ht
  have hfresh : τ W.heap.size = none := H.inv.fresh (Nat.le_refl _)
  have mkV : ∀ (τ' : Tau) (g n cap : Nat) (l : List Nat), τ' g = some (ty, cap, l) → n ≤ l.length → l.length ≤ cap → GoodV τ' 1000 ty (.slice (some ⟨g, 0, none⟩) n cap) := fun τ' g n cap l h1 h2 h3 => by
    cases ty <;> first | exact .inr ⟨g, n, cap, l, rfl, h1, h2, h3⟩ | cases ht
  -- a block that is new
  have new : ∀ (olds : List Value) (l : List Nat) (cp : Nat), olds.length = l.length * (rowTy ty).length → (∀ i (hi : i < l.length), GoodRow τ 1000 ty (rowAt (rowTy ty).length olds i) l[i]) → l.length + 1 ≤ cp → cp ≤ maxLen →
      ∀ zs : Array Value, zs.size = (cp - (l.length + 1)) * (rowTy ty).length → ∀ W', W' = W.drew.alloc (.cells (olds.toArray ++ ys.toArray ++ zs) (elemT ty)) → l.sum ≤ slw τ v →
      ∃ τ', TLe τ τ' ∧ Inv L τ' 1000 W' ∧ GoodV τ' 1000 ty (.slice (some ⟨W.heap.size, 0, none⟩) (l.length + 1) cp) ∧ slw τ' (.slice (some ⟨W.heap.size, 0, none⟩) (l.length + 1) cp) ≤ slw τ v + 1 ∧
        (∀ t u, t.ctorIdx ≠ ty.ctorIdx → GoodV τ 1000 t u → GoodV τ' 1000 t u ∧ slw τ' u = slw τ u) ∧ Kept C τ τ' W W' ∧ (∀ k, k < W.heap.size → τ k = none → W'.heap[k]? = W.heap[k]?) := fun olds l cp ho hr h1 h2 zs hzl W' hW hs => by
    have hold : ∀ k, k < W.heap.size → W'.heap[k]? = W.heap[k]? := fun k hk => by rw [hW]; exact Below.heap_alloc W.drew _ k hk
    have hI : Inv L τ 1000 W' := H.inv.keep fun k b hb => hold k (H.inv.lt hb)
    have hnew : W'.heap[W.heap.size]? = some (.cells (olds ++ ys ++ zs.toList).toArray (elemT ty) (0, 0)) := by
      rw [hW]
      have h := heap_alloc_new W.drew (.cells (olds.toArray ++ ys.toArray ++ zs) (elemT ty))
      have e : (olds ++ ys ++ zs.toList).toArray = olds.toArray ++ ys.toArray ++ zs := by apply Array.ext'; simp
      rw [e]
      exact h
    have hA := hI.adopt (g := W.heap.size) (ty := ty) (cap := cp) (l := l ++ [1]) hfresh hL ht (by simp; omega) h2 _ hnew (by
      have hz2 : zs.toList.length = (cp - (l.length + 1)) * (rowTy ty).length := by rw [← hzl]; simp
      rw [List.length_append, List.length_append, ho, hyl, hz2]
      have e : cp = l.length + 1 + (cp - (l.length + 1)) := by omega
      generalize cp - (l.length + 1) = m at e ⊢
      subst e
      rw [Nat.add_mul, Nat.add_mul, Nat.one_mul]) (fun i hi => by
      rw [List.length_append, List.length_singleton] at hi
      by_cases e : i < l.length
      · have hle : (i + 1) * (rowTy ty).length ≤ olds.length := by rw [ho]; exact Nat.mul_le_mul_right _ e
        rw [List.append_assoc, rowAt_left hle, List.getElem_append_left e]
        exact hr i e
      · obtain rfl : i = l.length := by omega
        have hle : (l.length + 1) * (rowTy ty).length ≤ (olds ++ ys).length := by rw [List.length_append, ho, hyl, Nat.add_mul, Nat.one_mul]; exact Nat.le_refl _
        rw [rowAt_left hle, rowAt_last ho hyl, List.getElem_append_right (Nat.le_refl _)]
        simpa using hy τ)
    refine ⟨_, TLe.tupd hfresh, hA, mkV _ _ _ _ _ (tupd_same _ _ _) (by simp) (by simp; omega), ?_, fun t u _ hu => hu.le (TLe.tupd hfresh), ⟨by rw [hW]; rfl, by rw [hW]; rfl, by rw [hW]; rfl, by rw [hW]; simp, fun k hk _ _ => hold k hk, fun k hk h0 => (tupd_other (by omega)).trans h0⟩, fun k hk _ => hold k hk⟩
    rw [slw_block (tupd_same _ _ _)]
    show (l ++ [1]).sum ≤ _
    rw [List.sum_append]
    simp
    omega
  rcases sl with rfl | ⟨g, n, cap, l, rfl, hg, hn, hlc⟩
  · have hr := run_append_nil (P := Try.prog) W tS tr (elemT ty) i z hU hi hz a 1 c ys (by rw [hyl, hsize, Nat.one_mul]) hnews (by omega) (by omega) (by omega)
    obtain ⟨τ', h1, h2, h3, h4, h5, h6, h7⟩ := new [] [] (grownCap W 1 0 (elemT ty)) (by simp) (fun i hi => absurd hi (by simp)) (grownCap_ge W 1 0 _) (grownCap_le_maxLen W 1 0 _ (by unfold maxLen; omega)) (Builtin.zeroCells z.cells (grownCap W 1 0 (elemT ty) - 1)) (by rw [size_zeroCells, hzs]; rfl) _ rfl (Nat.zero_le _)
    refine ⟨τ, τ', W.heap.size, 1, _, _, hr, .inl rfl, h1, ?_, h3, h4, h5, ?_, ?_⟩
    · simpa using h2
    · simpa using h6
    · simpa using h7
  · obtain ⟨hLg, _, _, hcm, cs, hcs, hlen, hrow⟩ := H.inv.blk g ty cap l hg
    rw [slw_block hg] at hN
    replace hN : l.sum < N := hN
    have hll := H.inv.len_sum hg
    by_cases hroom : n + 1 ≤ cap
    · have hfit := row_fits hlen (show n < cap from hroom)
      have hr := run_append_room (P := Try.prog) W tS tr (elemT ty) i hU hi g n cap cs.toArray hcs a 1 c ys (by rw [hyl, hsize, Nat.one_mul]) hnews hone hroom (by rw [hsize, hyl]; simpa using hfit)
      have e : (cs.toArray.toList.take (n * i.size) ++ ys ++ cs.toArray.toList.drop (n * i.size + ys.length)).toArray = (splice (rowTy ty).length cs n ys).toArray := by
        unfold splice; rw [hsize, hyl]
      rw [e] at hr
      have hw : (W.setRow g (splice (rowTy ty).length cs n ys).toArray).heap[g]? = some (.cells (splice (rowTy ty).length cs n ys).toArray (elemT ty) (0, 0)) := setRow_heap W g _ _ (elemT ty) (0, 0) hcs
      have hoth : ∀ k, k ≠ g → (W.setRow g (splice (rowTy ty).length cs n ys).toArray).heap[k]? = W.heap[k]? := fun k hk => setRow_other W g k _ hk
      have hkept : ∀ τ', (∀ k, k ≠ g → τ' k = τ k) → Kept C τ τ' W (W.setRow g (splice (rowTy ty).length cs n ys).toArray) := fun τ' hτ => by
        have hgr := setRow_grown W g (splice (rowTy ty).length cs n ys).toArray
        have hne : ∀ k, τ k = none → k ≠ g := fun k h0 e => by subst e; rw [hg] at h0; cases h0
        exact ⟨hgr.os, hgr.tape, hgr.output, hgr.size, fun k _ h0 _ => hoth k (hne k h0), fun k _ h0 => (hτ k (hne k h0)).trans h0⟩
      have hlow : ∀ k, k < W.heap.size → τ k = none → (W.setRow g (splice (rowTy ty).length cs n ys).toArray).heap[k]? = W.heap[k]? := fun k _ h0 => hoth k fun e => by subst e; rw [hg] at h0; cases h0
      by_cases hin : n < l.length
      · refine ⟨τ, τ, g, n + 1, cap, _, hr, .inl rfl, TLe.refl _, H.inv.setRow hg hcs hlen (show n < cap from hroom) hyl (fun h => (hy τ).le (TLe.refl _) (by have := (hrow n h).sum; omega)) hw (fun k b _ hk => hoth k hk), mkV _ _ _ _ _ hg hin hlc, Nat.le_succ _, fun t u _ hu => ⟨hu, rfl⟩, hkept τ (fun _ _ => rfl), hlow⟩
      · obtain rfl : n = l.length := by omega
        refine ⟨_, tupd τ g (ty, cap, l ++ [1]), g, l.length + 1, cap, _, hr, .inr ⟨g, ty, cap, l, hg, ht, hN, hroom, rfl⟩, TLe.refl _, H.bump hg hcs hlen hroom hyl (hy _) hw (fun k b _ hk => hoth k hk), mkV _ _ _ _ _ (tupd_same _ _ _) (by simp) (by simp; omega), ?_, fun t u htu hu => ⟨hu.bump hg (by simp) (by simp; omega), ?_⟩, hkept _ (fun k hk => tupd_other hk), hlow⟩
        · rw [slw_block (tupd_same _ _ _), slw_block hg]
          show (l ++ [1]).sum ≤ l.sum + 1
          rw [List.sum_append]; simp
        · have sl : (u = .slice none 0 0 ∨ ∃ (g' n' cap' : Nat) (l0 : List Nat), u = .slice (some ⟨g', 0, none⟩) n' cap' ∧ τ g' = some (t, cap', l0) ∧ n' ≤ l0.length ∧ l0.length ≤ cap') → slw (tupd τ g (ty, cap, l ++ [1])) u = slw τ u := fun h => by
            rcases h with rfl | ⟨g', n', cap', l0, rfl, hg', _, _⟩
            · rfl
            · have hne : g' ≠ g := fun e => by
                subst e
                rw [hg] at hg'
                injection hg' with hg'
                injection hg' with e1 e2
                exact htu (by rw [e1])
              rw [slw_block ((tupd_other hne).trans hg'), slw_block hg']
          cases t
          case int => obtain ⟨_, rfl, _⟩ := hu; rfl
          case bool => obtain ⟨_, rfl⟩ := hu; rfl
          case str => obtain ⟨_, rfl, _⟩ := hu; rfl
          all_goals exact sl hu
    · have hnl : (cs.take (n * (rowTy ty).length)).length = n * (rowTy ty).length := by
        rw [List.length_take, hlen, Nat.min_eq_left (Nat.mul_le_mul_right _ (by omega))]
      have hr := run_append_grow (P := Try.prog) W tS tr (elemT ty) i z hU hi hz ⟨g, 0, none⟩ n cap (cs.take (n * (rowTy ty).length)) (by rw [hnl, hsize]) (fun j u hj => by
        have hp : (⟨g, 0, none⟩ : Addr).add j = ⟨g, j, none⟩ := by unfold Addr.add; split <;> simp_all
        have hjl : j < n * (rowTy ty).length := by rw [← hnl]; exact (List.getElem?_eq_some_iff.1 hj).1
        rw [List.getElem?_take, if_pos hjl] at hj
        rw [hp, cell_of_row W g j cs.toArray (elemT ty) (0, 0) hcs]
        simpa using hj) a 1 c ys (by rw [hyl, hsize, Nat.one_mul]) hnews (by omega) (by omega) (by
          have h1 := nextslicecap_le (show cap < n + 1 by omega)
          have h2 := Nat.mul_le_mul h1 hby
          omega)
      have hnn : (l.take n).length = n := by rw [List.length_take]; omega
      obtain ⟨τ', h1, h2, h3, h4, h5, h6, h7⟩ := new (cs.take (n * (rowTy ty).length)) (l.take n) (grownCap W (n + 1) cap (elemT ty)) (by rw [hnl, hnn]) (fun j hj => by
        rw [hnn] at hj
        have hle : (j + 1) * (rowTy ty).length ≤ (cs.take (n * (rowTy ty).length)).length := by rw [hnl]; exact Nat.mul_le_mul_right _ hj
        have e : rowAt (rowTy ty).length (cs.take (n * (rowTy ty).length)) j = rowAt (rowTy ty).length cs j := by
          conv => rhs; rw [← List.take_append_drop (n * (rowTy ty).length) cs]
          exact (rowAt_left hle).symm
        rw [e, List.getElem_take]
        exact hrow j (by omega)) (by rw [hnn]; exact grownCap_ge W _ _ _) (grownCap_le_maxLen W _ _ _ (by unfold maxLen; omega)) (Builtin.zeroCells z.cells (grownCap W (n + 1) cap (elemT ty) - (n + 1))) (by rw [size_zeroCells, hzs, hnn]) _ rfl (by rw [slw_block hg]; exact sum_take_le l n)
      rw [hnn] at h3 h4
      exact ⟨τ, τ', W.heap.size, n + 1, _, _, hr, .inl rfl, h1, h2, h3, h4, h5, h6, h7⟩
end Go.Proofs.Ytkacelpndeoogaa

/- The contract of the function that draws any string as a name. -/
namespace Go.Proofs.Ytkacelpndeoogaa
open Go.RowKit

set_option maxRecDepth 100000 in
set_option maxHeartbeats 1200000 in
theorem anyName_any (B C : Nat) (a : Option Addr) (len cap : Nat) (W : World) (H : Cur B C a len cap W) :
    Calls Try.prog 109 #[.pointer (some ⟨C, 0, none⟩)] W (TextE 24 B C a len cap W) := by
  go_enter Try.func109, Try.ntmps109
  go_wp2_with fail
  refine (below_any 6 B C a len cap _ H (by omega) (by omega)).mono ?_
  rintro e W1 ⟨x, hx0, hx1, rfl, hc, hg⟩
  have hlt := hc.lt
  by_cases h0 : x = 0
  · subst h0
    go_wp2_with fail
    refine (pick_any 24 W1.heap.size 9 B C a len cap _ (hc.alloc _) (by omega) (by omega) (by simp) (by omega) ?_).mono ?_
    · intro j hj
      rw [cell_of_row _ W1.heap.size j _ 9 (0, 0) (heap_alloc_new W1 _)]
      rcases (show j = 0 ∨ j = 1 ∨ j = 2 ∨ j = 3 ∨ j = 4 ∨ j = 5 ∨ j = 6 ∨ j = 7 ∨ j = 8 by omega) with rfl | rfl | rfl | rfl | rfl | rfl | rfl | rfl | rfl <;> exact ⟨_, by decide, rfl⟩
    · rintro e W2 ⟨S, hS, rfl, hc2, hg2⟩
      have hg3 := grown_tr hg (grown_tr (grown_alloc W1 _ (some C)) hg2)
      go_wp2_with fail
      go_ret
      exact ⟨S, hS, rfl, hc2, hg3⟩
  · have q0 : (x == 0) = false := by simpa using h0
    by_cases h1 : x = 1
    · subst h1
      go_wp2_with fail
      refine (words_spec _).mono ?_
      rintro e W2 ⟨rfl, hrow, hb⟩
      have hc2 := hc.later hb
      have hg2 := grown_below hg (hb.mono hg.size)
      go_wp2_with fail
      refine (below_any 29 B C a len cap _ hc2 (by omega) (by omega)).mono ?_
      rintro e W3 ⟨y, hy0, hy1, rfl, hc3, hg3⟩
      obtain ⟨j, rfl⟩ := Int.eq_ofNat_of_zero_le hy0
      have hj : j < 29 := by omega
      have hrow3 := hrow.keep (w' := W3) (hg3.block W1.heap.size hrow.1 (by simp; omega)) hg3.size
      obtain ⟨hcell, _⟩ := hrow3.2 j hj
      have hj2 : (j : Int) < 29 := by omega
      go_wp2_with fail
      go_ret
      exact ⟨wordB j, by have := word_len (k := j) (by omega); show (word j).length ≤ 24; omega, rfl, hc3, grown_tr hg2 hg3⟩
    · have q1 : (x == 1) = false := by simpa using h1
      by_cases h2 : x = 2
      · subst h2
        go_wp2_with fail
        refine (below_any 5 B C a len cap _ hc (by omega) (by omega)).mono ?_
        rintro e W2 ⟨y, hy0, hy1, rfl, hc2, hg2⟩
        go_wp2_with fail
        refine (bytes_anyI y B C a len cap _ hc2 (by omega) (by omega)).mono ?_
        rintro e W3 ⟨l, g, c, hl, rfl, hown, hc3, hg3⟩
        have hcv := OwnB.string (src := 22) (dst := 9) hown hl.symm Try.underlying22 Try.underlying5 Try.underlying9
        have hS : (⟨l.toArray⟩ : ByteArray).size ≤ 24 := by show l.length ≤ 24; rw [hl]; omega
        clear hown hl
        generalize (⟨l.toArray⟩ : ByteArray) = S at hcv hS
        go_wp2_with fail
        go_ret
        exact ⟨S, hS, rfl, hc3, grown_tr (grown_tr hg hg2) hg3⟩
      · have q2 : (x == 2) = false := by simpa using h2
        clear h0 h1 h2
        go_wp2_with fail
        refine (name_any B C a len cap _ hc).mono ?_
        rintro e W2 ⟨S, hS, rfl, hc2, hg2⟩
        go_wp2_with fail
        go_ret
        exact ⟨S, hS, rfl, hc2, grown_tr hg hg2⟩
end Go.Proofs.Ytkacelpndeoogaa

/- The contract of the function that draws a value that may be bent. -/
namespace Go.Proofs.Ytkacelpndeoogaa
open Go.RowKit

theorem ValAt.set_other5 {W : World} {B : Nat} {k a : Int} {t : ByteArray} (H : ValAt W B k a t) {C o : Nat} {v : Value} (h : B ≠ C) : ValAt (W.setCell ⟨C, o, none⟩ v) B k a t := (heap_setCell_other W ⟨C, o, none⟩ B v h).trans H
/-- how long the text of the value in block R is -/
def txtAt (w : World) (R : Nat) : Nat := match w.cell? ⟨R, 2, none⟩ with
  | some (.string s) => s.size
  | _ => 0
theorem txtAt_of {w : World} {R : Nat} {k n : Int} {t : ByteArray} (h : ValAt w R k n t) : txtAt w R = t.size := by
  have := cell_of_row w R 2 _ 25 (0, 0) h
  unfold txtAt
  rw [this]; rfl

set_option maxRecDepth 100000 in
set_option maxHeartbeats 8000000 in
theorem vbent_any (B C : Nat) (a : Option Addr) (len cap : Nat) (W : World) (H : Cur B C a len cap W) :
    Calls Try.prog 155 #[.pointer (some ⟨C, 0, none⟩)] W (ValDrawE 1000 B C a len cap W) := by
  have hWC := H.lt
  have hg0 : ValAt (W.alloc (.cells #[.int .i64 0, .int .i64 0, .string ⟨#[]⟩] 25)) W.heap.size 0 0 ⟨#[]⟩ := heap_alloc_new W _
  go_enter Try.func155, Try.ntmps155
  go_wp2_with fail
  refine (rightV_any B C a len cap _ (H.alloc _)).mono ?_
  rintro e W1 ⟨K, N, S0, hT, rfl, hc1, hg1⟩
  have hW1 := hg1.size
  have hW1' : W.heap.size + 1 ≤ W1.heap.size := by simpa using hW1
  have r0 := hg0.turn hg1 (by omega)
  have r0a : ValAt (W1.alloc (.cells #[.int .i64 K, .int .i64 N, .string S0] 25)) W.heap.size 0 0 ⟨#[]⟩ := (Below.heap_alloc W1 _ W.heap.size (by omega)).trans r0
  have r1a : ValAt (W1.alloc (.cells #[.int .i64 K, .int .i64 N, .string S0] 25)) W1.heap.size K N S0 := heap_alloc_new W1 _
  have hgA := grown_tr (grown_tr (grown_alloc W (.cells #[.int .i64 0, .int .i64 0, .string ⟨#[]⟩] 25) (some C)) hg1) (grown_alloc W1 (.cells #[.int .i64 K, .int .i64 N, .string S0] 25) (some C))
  have hcA := hc1.alloc (.cells #[.int .i64 K, .int .i64 N, .string S0] 25)
  go_wp2_with fail
  refine (below_any 14 B C a len cap _ hcA (by omega) (by omega)).mono ?_
  rintro e W2 ⟨x, hx0, hx1, rfl, hc2, hg2⟩
  replace r0a := r0a.turn hg2 (by omega)
  replace r1a := r1a.turn hg2 (by omega)
  replace hgA := grown_tr hgA hg2
  have hz1 := (Array.getElem?_eq_some_iff.1 r1a).1
  clear hg0 r0 hg1 hg2 hcA hc1 hW1
  by_cases h0 : x = 0
  · subst h0
    go_wp2_with fail
    refine (below_any 6 B C a len cap _ hc2 (by omega) (by omega)).mono ?_
    rintro e W3 ⟨m, hm0, hm1, rfl, hc3, hg3⟩
    replace r0a := r0a.turn hg3 (by omega)
    replace r1a := r1a.turn hg3 (by omega)
    replace hgA := grown_tr hgA hg3
    have hz1 := (Array.getElem?_eq_some_iff.1 r1a).1
    have hcX := hc3.setNew5 (R := W1.heap.size) (by omega) 0 (.int .i64 (m - 1))
    have hgX := grown_set5 (R := W1.heap.size) (o := 0) (v := .int .i64 (m - 1)) hgA (by omega)
    have r0x : ValAt (W3.setCell ⟨W1.heap.size, 0, none⟩ (.int .i64 (m - 1))) W.heap.size 0 0 ⟨#[]⟩ := r0a.set_other5 (by omega)
    have za0 := frozen_of_row W3 (W.heap.size) 0 _ 25 r0a
    have ga0 := cell_of_row W3 (W.heap.size) 0 _ 25 (0, 0) r0a
    have za1 := frozen_of_row W3 (W.heap.size) 1 _ 25 r0a
    have ga1 := cell_of_row W3 (W.heap.size) 1 _ 25 (0, 0) r0a
    have za2 := frozen_of_row W3 (W.heap.size) 2 _ 25 r0a
    have ga2 := cell_of_row W3 (W.heap.size) 2 _ 25 (0, 0) r0a
    have zb0 := frozen_of_row W3 (W1.heap.size) 0 _ 25 r1a
    have gb0 := cell_of_row W3 (W1.heap.size) 0 _ 25 (0, 0) r1a
    have zb1 := frozen_of_row W3 (W1.heap.size) 1 _ 25 r1a
    have gb1 := cell_of_row W3 (W1.heap.size) 1 _ 25 (0, 0) r1a
    have zb2 := frozen_of_row W3 (W1.heap.size) 2 _ 25 r1a
    have gb2 := cell_of_row W3 (W1.heap.size) 2 _ 25 (0, 0) r1a
    have hF := ((r0x.set0 (m - 1)).set1 N).set2 S0
    have f0 := cell_of_row _ W.heap.size 0 _ 25 (0, 0) hF
    have f1 := cell_of_row _ W.heap.size 1 _ 25 (0, 0) hF
    have f2 := cell_of_row _ W.heap.size 2 _ 25 (0, 0) hF
    have hcF := ((hcX.setNew5 (R := W.heap.size) hWC 0 (.int .i64 (m - 1))).setNew5 (R := W.heap.size) hWC 1 (.int .i64 N)).setNew5 (R := W.heap.size) hWC 2 (.string S0)
    have hgF := grown_set5 (R := W.heap.size) (o := 2) (v := .string S0) (grown_set5 (R := W.heap.size) (o := 1) (v := .int .i64 N) (grown_set5 (R := W.heap.size) (o := 0) (v := .int .i64 (m - 1)) hgX (Nat.le_refl _)) (Nat.le_refl _)) (Nat.le_refl _)
    go_wp2_with fail
    generalize (((W3.setCell ⟨W1.heap.size, 0, none⟩ (.int .i64 (m - 1))).setCell ⟨W.heap.size, 0, none⟩ (.int .i64 (m - 1))).setCell ⟨W.heap.size, 1, none⟩ (.int .i64 N)).setCell ⟨W.heap.size, 2, none⟩ (.string S0) = wf at f0 f1 f2 hcF hgF ⊢
    refine bodyPost_ret (v := .agg #[.int .i64 (m - 1), .int .i64 N, .string S0]) (by simp [results, Try.results155, go_sem, f0, f1, f2]) rfl ?_
    exact ⟨(m - 1), N, S0, by omega, rfl, hcF, hgF⟩
  have q0 : (x == 0) = false := by simpa using h0
  by_cases h1 : x = 1
  · subst h1
    go_wp2_with fail
    refine (whole_any B C a len cap _ hc2).mono ?_
    rintro e W3 ⟨m, hm0, hm1, rfl, hc3, hg3⟩
    replace r0a := r0a.turn hg3 (by omega)
    replace r1a := r1a.turn hg3 (by omega)
    replace hgA := grown_tr hgA hg3
    have hz1 := (Array.getElem?_eq_some_iff.1 r1a).1
    have hcX := hc3.setNew5 (R := W1.heap.size) (by omega) 1 (.int .i64 m)
    have hgX := grown_set5 (R := W1.heap.size) (o := 1) (v := .int .i64 m) hgA (by omega)
    have r0x : ValAt (W3.setCell ⟨W1.heap.size, 1, none⟩ (.int .i64 m)) W.heap.size 0 0 ⟨#[]⟩ := r0a.set_other5 (by omega)
    have za0 := frozen_of_row W3 (W.heap.size) 0 _ 25 r0a
    have ga0 := cell_of_row W3 (W.heap.size) 0 _ 25 (0, 0) r0a
    have za1 := frozen_of_row W3 (W.heap.size) 1 _ 25 r0a
    have ga1 := cell_of_row W3 (W.heap.size) 1 _ 25 (0, 0) r0a
    have za2 := frozen_of_row W3 (W.heap.size) 2 _ 25 r0a
    have ga2 := cell_of_row W3 (W.heap.size) 2 _ 25 (0, 0) r0a
    have zb0 := frozen_of_row W3 (W1.heap.size) 0 _ 25 r1a
    have gb0 := cell_of_row W3 (W1.heap.size) 0 _ 25 (0, 0) r1a
    have zb1 := frozen_of_row W3 (W1.heap.size) 1 _ 25 r1a
    have gb1 := cell_of_row W3 (W1.heap.size) 1 _ 25 (0, 0) r1a
    have zb2 := frozen_of_row W3 (W1.heap.size) 2 _ 25 r1a
    have gb2 := cell_of_row W3 (W1.heap.size) 2 _ 25 (0, 0) r1a
    have hF := ((r0x.set0 K).set1 m).set2 S0
    have f0 := cell_of_row _ W.heap.size 0 _ 25 (0, 0) hF
    have f1 := cell_of_row _ W.heap.size 1 _ 25 (0, 0) hF
    have f2 := cell_of_row _ W.heap.size 2 _ 25 (0, 0) hF
    have hcF := ((hcX.setNew5 (R := W.heap.size) hWC 0 (.int .i64 K)).setNew5 (R := W.heap.size) hWC 1 (.int .i64 m)).setNew5 (R := W.heap.size) hWC 2 (.string S0)
    have hgF := grown_set5 (R := W.heap.size) (o := 2) (v := .string S0) (grown_set5 (R := W.heap.size) (o := 1) (v := .int .i64 m) (grown_set5 (R := W.heap.size) (o := 0) (v := .int .i64 K) hgX (Nat.le_refl _)) (Nat.le_refl _)) (Nat.le_refl _)
    go_wp2_with fail
    generalize (((W3.setCell ⟨W1.heap.size, 1, none⟩ (.int .i64 m)).setCell ⟨W.heap.size, 0, none⟩ (.int .i64 K)).setCell ⟨W.heap.size, 1, none⟩ (.int .i64 m)).setCell ⟨W.heap.size, 2, none⟩ (.string S0) = wf at f0 f1 f2 hcF hgF ⊢
    refine bodyPost_ret (v := .agg #[.int .i64 K, .int .i64 m, .string S0]) (by simp [results, Try.results155, go_sem, f0, f1, f2]) rfl ?_
    exact ⟨K, m, S0, by omega, rfl, hcF, hgF⟩
  have q1 : (x == 1) = false := by simpa using h1
  by_cases h2 : x = 2
  · subst h2
    go_wp2_with fail
    refine (pick_any 4 W2.heap.size 3 B C a len cap _ (hc2.alloc _) (by omega) (by omega) (by simp) (by have := hc2.lt; omega) ?_).mono ?_
    · intro j hj
      rw [cell_of_row _ W2.heap.size j _ 9 (0, 0) (heap_alloc_new W2 _)]
      rcases (show j = 0 ∨ j = 1 ∨ j = 2 by omega) with rfl | rfl | rfl <;> exact ⟨_, by decide, rfl⟩
    · rintro e W3 ⟨S, hS, rfl, hc3, hg3'⟩
      have hg3 := grown_tr (grown_alloc W2 _ (some C)) hg3'
      clear hg3'
      replace r0a := r0a.turn hg3 (by omega)
      replace r1a := r1a.turn hg3 (by omega)
      replace hgA := grown_tr hgA hg3
      have hz1 := (Array.getElem?_eq_some_iff.1 r1a).1
      have r1l : ValAt (W3.setCell ⟨W1.heap.size, 2, none⟩ (.string S)) W1.heap.size K N S := r1a.set2 S
      have r0l : ValAt (W3.setCell ⟨W1.heap.size, 2, none⟩ (.string S)) W.heap.size 0 0 ⟨#[]⟩ := r0a.set_other5 (by omega)
      have hcl := hc3.setNew5 (R := W1.heap.size) (by omega) 2 (.string S)
      have hgl := grown_set5 (R := W1.heap.size) (o := 2) (v := .string S) hgA (by omega)
      have zb2 := frozen_of_row W3 W1.heap.size 2 _ 25 r1a
      have gb2 := cell_of_row W3 W1.heap.size 2 _ 25 (0, 0) r1a
      go_wp2_with fail
      clear zb2 gb2 r0a r1a hgA hc3 hg3 hc2
      generalize W3.setCell ⟨W1.heap.size, 2, none⟩ (.string S) = w0 at r1l r0l hcl hgl ⊢
      have hRR : W.heap.size ≠ W1.heap.size := by omega
      have hRC : W1.heap.size ≠ C := by omega
      have hCR : C < W1.heap.size := by omega
      clear hz1
      generalize hR1 : W1.heap.size = R1 at *
      have hWR : W.heap.size ≤ R1 := by omega
      clear hR1
      go_loopw [] (fun wr => ∃ S : ByteArray, S.size ≤ 1000 ∧ ValAt wr R1 K N S ∧ ValAt wr W.heap.size 0 0 ⟨#[]⟩ ∧ Cur B C a len cap wr ∧ W.grownBy wr (some C)) (fun wr => 400 - txtAt wr R1)
      case atStart => exact ⟨S, by omega, r1l, r0l, hcl, hgl⟩
      case round =>
        obtain ⟨S, hS, r1, r0, hc, hg⟩ := hrel
        have hRb := (Array.getElem?_eq_some_iff.1 r1).1
        go_wp2_with fail
        refine (once_any 2 B C a len cap _ hc (by omega) (by omega)).mono ?_
        rintro e W4 ⟨b, rfl, hc4, hg4⟩
        have r1a := r1.turn hg4 hRC
        have r0a := r0.turn hg4 (by omega)
        have hgA := grown_tr hg hg4
        have hm0 := txtAt_of r1
        clear hg hg4 hc r0 hRb
        cases b
        · have hcX := hc4
          have hgX := hgA
          have r0x := r0a
          have za0 := frozen_of_row W4 (W.heap.size) 0 _ 25 r0a
          have ga0 := cell_of_row W4 (W.heap.size) 0 _ 25 (0, 0) r0a
          have za1 := frozen_of_row W4 (W.heap.size) 1 _ 25 r0a
          have ga1 := cell_of_row W4 (W.heap.size) 1 _ 25 (0, 0) r0a
          have za2 := frozen_of_row W4 (W.heap.size) 2 _ 25 r0a
          have ga2 := cell_of_row W4 (W.heap.size) 2 _ 25 (0, 0) r0a
          have zb0 := frozen_of_row W4 (R1) 0 _ 25 r1a
          have gb0 := cell_of_row W4 (R1) 0 _ 25 (0, 0) r1a
          have zb1 := frozen_of_row W4 (R1) 1 _ 25 r1a
          have gb1 := cell_of_row W4 (R1) 1 _ 25 (0, 0) r1a
          have zb2 := frozen_of_row W4 (R1) 2 _ 25 r1a
          have gb2 := cell_of_row W4 (R1) 2 _ 25 (0, 0) r1a
          have hF := ((r0x.set0 K).set1 N).set2 S
          have f0 := cell_of_row _ W.heap.size 0 _ 25 (0, 0) hF
          have f1 := cell_of_row _ W.heap.size 1 _ 25 (0, 0) hF
          have f2 := cell_of_row _ W.heap.size 2 _ 25 (0, 0) hF
          have hcF := ((hcX.setNew5 (R := W.heap.size) hWC 0 (.int .i64 K)).setNew5 (R := W.heap.size) hWC 1 (.int .i64 N)).setNew5 (R := W.heap.size) hWC 2 (.string S)
          have hgF := grown_set5 (R := W.heap.size) (o := 2) (v := .string S) (grown_set5 (R := W.heap.size) (o := 1) (v := .int .i64 N) (grown_set5 (R := W.heap.size) (o := 0) (v := .int .i64 K) hgX (Nat.le_refl _)) (Nat.le_refl _)) (Nat.le_refl _)
          go_wp2_with fail
          generalize ((W4.setCell ⟨W.heap.size, 0, none⟩ (.int .i64 K)).setCell ⟨W.heap.size, 1, none⟩ (.int .i64 N)).setCell ⟨W.heap.size, 2, none⟩ (.string S) = wf at f0 f1 f2 hcF hgF ⊢
          refine bodyPost_ret (v := .agg #[.int .i64 K, .int .i64 N, .string S]) (by simp [results, Try.results155, go_sem, f0, f1, f2]) rfl ?_
          exact ⟨K, N, S, ⟨hS, hT.2⟩, rfl, hcF, hgF⟩
        · by_cases hl : S.size < 400
          · have d1 : decide ((S.size : Int) < 400) = true := by simp; omega
            have d2 : decide (S.size < 400) = true := by simp; omega
            have z2 := frozen_of_row W4 R1 2 _ 25 r1a
            have g2 := cell_of_row W4 R1 2 _ 25 (0, 0) r1a
            have hsz : (S ++ S ++ (⟨#[48, 49, 50, 51, 52, 53, 54, 55, 56, 57]⟩ : ByteArray)).size = S.size + S.size + 10 := by simp; rfl
            have r1n := r1a.set2 (S ++ S ++ ⟨#[48, 49, 50, 51, 52, 53, 54, 55, 56, 57]⟩)
            have r0n : ValAt (W4.setCell ⟨R1, 2, none⟩ (.string (S ++ S ++ ⟨#[48, 49, 50, 51, 52, 53, 54, 55, 56, 57]⟩))) W.heap.size 0 0 ⟨#[]⟩ := r0a.set_other5 hRR
            have hcn := hc4.setNew5 (R := R1) hCR 2 (.string (S ++ S ++ ⟨#[48, 49, 50, 51, 52, 53, 54, 55, 56, 57]⟩))
            have hgn := grown_set5 (R := R1) (o := 2) (v := .string (S ++ S ++ ⟨#[48, 49, 50, 51, 52, 53, 54, 55, 56, 57]⟩)) hgA hWR
            have hmn := txtAt_of r1n
            go_wp2_with fail
            go_roundw
            case rel => exact ⟨_, by rw [hsz]; omega, r1n, r0n, hcn, hgn⟩
            case measure => rw [hmn, hm0, hsz]; omega
          · have d1 : decide ((S.size : Int) < 400) = false := by simp; omega
            have d2 : decide (S.size < 400) = false := by simp; omega
            have hcX := hc4
            have hgX := hgA
            have r0x := r0a
            have za0 := frozen_of_row W4 (W.heap.size) 0 _ 25 r0a
            have ga0 := cell_of_row W4 (W.heap.size) 0 _ 25 (0, 0) r0a
            have za1 := frozen_of_row W4 (W.heap.size) 1 _ 25 r0a
            have ga1 := cell_of_row W4 (W.heap.size) 1 _ 25 (0, 0) r0a
            have za2 := frozen_of_row W4 (W.heap.size) 2 _ 25 r0a
            have ga2 := cell_of_row W4 (W.heap.size) 2 _ 25 (0, 0) r0a
            have zb0 := frozen_of_row W4 (R1) 0 _ 25 r1a
            have gb0 := cell_of_row W4 (R1) 0 _ 25 (0, 0) r1a
            have zb1 := frozen_of_row W4 (R1) 1 _ 25 r1a
            have gb1 := cell_of_row W4 (R1) 1 _ 25 (0, 0) r1a
            have zb2 := frozen_of_row W4 (R1) 2 _ 25 r1a
            have gb2 := cell_of_row W4 (R1) 2 _ 25 (0, 0) r1a
            have hF := ((r0x.set0 K).set1 N).set2 S
            have f0 := cell_of_row _ W.heap.size 0 _ 25 (0, 0) hF
            have f1 := cell_of_row _ W.heap.size 1 _ 25 (0, 0) hF
            have f2 := cell_of_row _ W.heap.size 2 _ 25 (0, 0) hF
            have hcF := ((hcX.setNew5 (R := W.heap.size) hWC 0 (.int .i64 K)).setNew5 (R := W.heap.size) hWC 1 (.int .i64 N)).setNew5 (R := W.heap.size) hWC 2 (.string S)
            have hgF := grown_set5 (R := W.heap.size) (o := 2) (v := .string S) (grown_set5 (R := W.heap.size) (o := 1) (v := .int .i64 N) (grown_set5 (R := W.heap.size) (o := 0) (v := .int .i64 K) hgX (Nat.le_refl _)) (Nat.le_refl _)) (Nat.le_refl _)
            go_wp2_with fail
            generalize ((W4.setCell ⟨W.heap.size, 0, none⟩ (.int .i64 K)).setCell ⟨W.heap.size, 1, none⟩ (.int .i64 N)).setCell ⟨W.heap.size, 2, none⟩ (.string S) = wf at f0 f1 f2 hcF hgF ⊢
            refine bodyPost_ret (v := .agg #[.int .i64 K, .int .i64 N, .string S]) (by simp [results, Try.results155, go_sem, f0, f1, f2]) rfl ?_
            exact ⟨K, N, S, ⟨hS, hT.2⟩, rfl, hcF, hgF⟩
  have q2 : (x == 2) = false := by simpa using h2
  have hcX := hc2
  have hgX := hgA
  have r0x := r0a
  have za0 := frozen_of_row W2 (W.heap.size) 0 _ 25 r0a
  have ga0 := cell_of_row W2 (W.heap.size) 0 _ 25 (0, 0) r0a
  have za1 := frozen_of_row W2 (W.heap.size) 1 _ 25 r0a
  have ga1 := cell_of_row W2 (W.heap.size) 1 _ 25 (0, 0) r0a
  have za2 := frozen_of_row W2 (W.heap.size) 2 _ 25 r0a
  have ga2 := cell_of_row W2 (W.heap.size) 2 _ 25 (0, 0) r0a
  have zb0 := frozen_of_row W2 (W1.heap.size) 0 _ 25 r1a
  have gb0 := cell_of_row W2 (W1.heap.size) 0 _ 25 (0, 0) r1a
  have zb1 := frozen_of_row W2 (W1.heap.size) 1 _ 25 r1a
  have gb1 := cell_of_row W2 (W1.heap.size) 1 _ 25 (0, 0) r1a
  have zb2 := frozen_of_row W2 (W1.heap.size) 2 _ 25 r1a
  have gb2 := cell_of_row W2 (W1.heap.size) 2 _ 25 (0, 0) r1a
  have hF := ((r0x.set0 K).set1 N).set2 S0
  have f0 := cell_of_row _ W.heap.size 0 _ 25 (0, 0) hF
  have f1 := cell_of_row _ W.heap.size 1 _ 25 (0, 0) hF
  have f2 := cell_of_row _ W.heap.size 2 _ 25 (0, 0) hF
  have hcF := ((hcX.setNew5 (R := W.heap.size) hWC 0 (.int .i64 K)).setNew5 (R := W.heap.size) hWC 1 (.int .i64 N)).setNew5 (R := W.heap.size) hWC 2 (.string S0)
  have hgF := grown_set5 (R := W.heap.size) (o := 2) (v := .string S0) (grown_set5 (R := W.heap.size) (o := 1) (v := .int .i64 N) (grown_set5 (R := W.heap.size) (o := 0) (v := .int .i64 K) hgX (Nat.le_refl _)) (Nat.le_refl _)) (Nat.le_refl _)
  go_wp2_with fail
  generalize ((W2.setCell ⟨W.heap.size, 0, none⟩ (.int .i64 K)).setCell ⟨W.heap.size, 1, none⟩ (.int .i64 N)).setCell ⟨W.heap.size, 2, none⟩ (.string S0) = wf at f0 f1 f2 hcF hgF ⊢
  refine bodyPost_ret (v := .agg #[.int .i64 K, .int .i64 N, .string S0]) (by simp [results, Try.results155, go_sem, f0, f1, f2]) rfl ?_
  exact ⟨K, N, S0, by omega, rfl, hcF, hgF⟩
end Go.Proofs.Ytkacelpndeoogaa

/- Drawing bent values, their numbers ints. -/
namespace Go.Proofs.Ytkacelpndeoogaa
open Go.RowKit

set_option maxRecDepth 100000 in
set_option maxHeartbeats 8000000 in
theorem vbent_anyK (B C : Nat) (a : Option Addr) (len cap : Nat) (W : World) (H : Cur B C a len cap W) :
    Calls Try.prog 155 #[.pointer (some ⟨C, 0, none⟩)] W (ValDrawK 1000 B C a len cap W) := by
  have hWC := H.lt
  have hg0 : ValAt (W.alloc (.cells #[.int .i64 0, .int .i64 0, .string ⟨#[]⟩] 25)) W.heap.size 0 0 ⟨#[]⟩ := heap_alloc_new W _
  go_enter Try.func155, Try.ntmps155
  go_wp2_with fail
  refine (right_anyK B C a len cap _ (H.alloc _)).mono ?_
  rintro e W1 ⟨K, N, S0, hT, rfl, hc1, hg1⟩
  have hW1 := hg1.size
  have hW1' : W.heap.size + 1 ≤ W1.heap.size := by simpa using hW1
  have r0 := hg0.turn hg1 (by omega)
  have r0a : ValAt (W1.alloc (.cells #[.int .i64 K, .int .i64 N, .string S0] 25)) W.heap.size 0 0 ⟨#[]⟩ := (Below.heap_alloc W1 _ W.heap.size (by omega)).trans r0
  have r1a : ValAt (W1.alloc (.cells #[.int .i64 K, .int .i64 N, .string S0] 25)) W1.heap.size K N S0 := heap_alloc_new W1 _
  have hgA := grown_tr (grown_tr (grown_alloc W (.cells #[.int .i64 0, .int .i64 0, .string ⟨#[]⟩] 25) (some C)) hg1) (grown_alloc W1 (.cells #[.int .i64 K, .int .i64 N, .string S0] 25) (some C))
  have hcA := hc1.alloc (.cells #[.int .i64 K, .int .i64 N, .string S0] 25)
  go_wp2_with fail
  refine (below_any 14 B C a len cap _ hcA (by omega) (by omega)).mono ?_
  rintro e W2 ⟨x, hx0, hx1, rfl, hc2, hg2⟩
  replace r0a := r0a.turn hg2 (by omega)
  replace r1a := r1a.turn hg2 (by omega)
  replace hgA := grown_tr hgA hg2
  have hz1 := (Array.getElem?_eq_some_iff.1 r1a).1
  clear hg0 r0 hg1 hg2 hcA hc1 hW1
  by_cases h0 : x = 0
  · subst h0
    go_wp2_with fail
    refine (below_any 6 B C a len cap _ hc2 (by omega) (by omega)).mono ?_
    rintro e W3 ⟨m, hm0, hm1, rfl, hc3, hg3⟩
    replace r0a := r0a.turn hg3 (by omega)
    replace r1a := r1a.turn hg3 (by omega)
    replace hgA := grown_tr hgA hg3
    have hz1 := (Array.getElem?_eq_some_iff.1 r1a).1
    have hcX := hc3.setNew5 (R := W1.heap.size) (by omega) 0 (.int .i64 (m - 1))
    have hgX := grown_set5 (R := W1.heap.size) (o := 0) (v := .int .i64 (m - 1)) hgA (by omega)
    have r0x : ValAt (W3.setCell ⟨W1.heap.size, 0, none⟩ (.int .i64 (m - 1))) W.heap.size 0 0 ⟨#[]⟩ := r0a.set_other5 (by omega)
    have za0 := frozen_of_row W3 (W.heap.size) 0 _ 25 r0a
    have ga0 := cell_of_row W3 (W.heap.size) 0 _ 25 (0, 0) r0a
    have za1 := frozen_of_row W3 (W.heap.size) 1 _ 25 r0a
    have ga1 := cell_of_row W3 (W.heap.size) 1 _ 25 (0, 0) r0a
    have za2 := frozen_of_row W3 (W.heap.size) 2 _ 25 r0a
    have ga2 := cell_of_row W3 (W.heap.size) 2 _ 25 (0, 0) r0a
    have zb0 := frozen_of_row W3 (W1.heap.size) 0 _ 25 r1a
    have gb0 := cell_of_row W3 (W1.heap.size) 0 _ 25 (0, 0) r1a
    have zb1 := frozen_of_row W3 (W1.heap.size) 1 _ 25 r1a
    have gb1 := cell_of_row W3 (W1.heap.size) 1 _ 25 (0, 0) r1a
    have zb2 := frozen_of_row W3 (W1.heap.size) 2 _ 25 r1a
    have gb2 := cell_of_row W3 (W1.heap.size) 2 _ 25 (0, 0) r1a
    have hF := ((r0x.set0 (m - 1)).set1 N).set2 S0
    have f0 := cell_of_row _ W.heap.size 0 _ 25 (0, 0) hF
    have f1 := cell_of_row _ W.heap.size 1 _ 25 (0, 0) hF
    have f2 := cell_of_row _ W.heap.size 2 _ 25 (0, 0) hF
    have hcF := ((hcX.setNew5 (R := W.heap.size) hWC 0 (.int .i64 (m - 1))).setNew5 (R := W.heap.size) hWC 1 (.int .i64 N)).setNew5 (R := W.heap.size) hWC 2 (.string S0)
    have hgF := grown_set5 (R := W.heap.size) (o := 2) (v := .string S0) (grown_set5 (R := W.heap.size) (o := 1) (v := .int .i64 N) (grown_set5 (R := W.heap.size) (o := 0) (v := .int .i64 (m - 1)) hgX (Nat.le_refl _)) (Nat.le_refl _)) (Nat.le_refl _)
    go_wp2_with fail
    generalize (((W3.setCell ⟨W1.heap.size, 0, none⟩ (.int .i64 (m - 1))).setCell ⟨W.heap.size, 0, none⟩ (.int .i64 (m - 1))).setCell ⟨W.heap.size, 1, none⟩ (.int .i64 N)).setCell ⟨W.heap.size, 2, none⟩ (.string S0) = wf at f0 f1 f2 hcF hgF ⊢
    refine bodyPost_ret (v := .agg #[.int .i64 (m - 1), .int .i64 N, .string S0]) (by simp [results, Try.results155, go_sem, f0, f1, f2]) rfl ?_
    exact ⟨(m - 1), N, S0, by omega, rfl, hcF, hgF⟩
  have q0 : (x == 0) = false := by simpa using h0
  by_cases h1 : x = 1
  · subst h1
    go_wp2_with fail
    refine (whole_any B C a len cap _ hc2).mono ?_
    rintro e W3 ⟨m, hm0, hm1, rfl, hc3, hg3⟩
    replace r0a := r0a.turn hg3 (by omega)
    replace r1a := r1a.turn hg3 (by omega)
    replace hgA := grown_tr hgA hg3
    have hz1 := (Array.getElem?_eq_some_iff.1 r1a).1
    have hcX := hc3.setNew5 (R := W1.heap.size) (by omega) 1 (.int .i64 m)
    have hgX := grown_set5 (R := W1.heap.size) (o := 1) (v := .int .i64 m) hgA (by omega)
    have r0x : ValAt (W3.setCell ⟨W1.heap.size, 1, none⟩ (.int .i64 m)) W.heap.size 0 0 ⟨#[]⟩ := r0a.set_other5 (by omega)
    have za0 := frozen_of_row W3 (W.heap.size) 0 _ 25 r0a
    have ga0 := cell_of_row W3 (W.heap.size) 0 _ 25 (0, 0) r0a
    have za1 := frozen_of_row W3 (W.heap.size) 1 _ 25 r0a
    have ga1 := cell_of_row W3 (W.heap.size) 1 _ 25 (0, 0) r0a
    have za2 := frozen_of_row W3 (W.heap.size) 2 _ 25 r0a
    have ga2 := cell_of_row W3 (W.heap.size) 2 _ 25 (0, 0) r0a
    have zb0 := frozen_of_row W3 (W1.heap.size) 0 _ 25 r1a
    have gb0 := cell_of_row W3 (W1.heap.size) 0 _ 25 (0, 0) r1a
    have zb1 := frozen_of_row W3 (W1.heap.size) 1 _ 25 r1a
    have gb1 := cell_of_row W3 (W1.heap.size) 1 _ 25 (0, 0) r1a
    have zb2 := frozen_of_row W3 (W1.heap.size) 2 _ 25 r1a
    have gb2 := cell_of_row W3 (W1.heap.size) 2 _ 25 (0, 0) r1a
    have hF := ((r0x.set0 K).set1 m).set2 S0
    have f0 := cell_of_row _ W.heap.size 0 _ 25 (0, 0) hF
    have f1 := cell_of_row _ W.heap.size 1 _ 25 (0, 0) hF
    have f2 := cell_of_row _ W.heap.size 2 _ 25 (0, 0) hF
    have hcF := ((hcX.setNew5 (R := W.heap.size) hWC 0 (.int .i64 K)).setNew5 (R := W.heap.size) hWC 1 (.int .i64 m)).setNew5 (R := W.heap.size) hWC 2 (.string S0)
    have hgF := grown_set5 (R := W.heap.size) (o := 2) (v := .string S0) (grown_set5 (R := W.heap.size) (o := 1) (v := .int .i64 m) (grown_set5 (R := W.heap.size) (o := 0) (v := .int .i64 K) hgX (Nat.le_refl _)) (Nat.le_refl _)) (Nat.le_refl _)
    go_wp2_with fail
    generalize (((W3.setCell ⟨W1.heap.size, 1, none⟩ (.int .i64 m)).setCell ⟨W.heap.size, 0, none⟩ (.int .i64 K)).setCell ⟨W.heap.size, 1, none⟩ (.int .i64 m)).setCell ⟨W.heap.size, 2, none⟩ (.string S0) = wf at f0 f1 f2 hcF hgF ⊢
    refine bodyPost_ret (v := .agg #[.int .i64 K, .int .i64 m, .string S0]) (by simp [results, Try.results155, go_sem, f0, f1, f2]) rfl ?_
    exact ⟨K, m, S0, by omega, rfl, hcF, hgF⟩
  have q1 : (x == 1) = false := by simpa using h1
  by_cases h2 : x = 2
  · subst h2
    go_wp2_with fail
    refine (pick_any 4 W2.heap.size 3 B C a len cap _ (hc2.alloc _) (by omega) (by omega) (by simp) (by have := hc2.lt; omega) ?_).mono ?_
    · intro j hj
      rw [cell_of_row _ W2.heap.size j _ 9 (0, 0) (heap_alloc_new W2 _)]
      rcases (show j = 0 ∨ j = 1 ∨ j = 2 by omega) with rfl | rfl | rfl <;> exact ⟨_, by decide, rfl⟩
    · rintro e W3 ⟨S, hS, rfl, hc3, hg3'⟩
      have hg3 := grown_tr (grown_alloc W2 _ (some C)) hg3'
      clear hg3'
      replace r0a := r0a.turn hg3 (by omega)
      replace r1a := r1a.turn hg3 (by omega)
      replace hgA := grown_tr hgA hg3
      have hz1 := (Array.getElem?_eq_some_iff.1 r1a).1
      have r1l : ValAt (W3.setCell ⟨W1.heap.size, 2, none⟩ (.string S)) W1.heap.size K N S := r1a.set2 S
      have r0l : ValAt (W3.setCell ⟨W1.heap.size, 2, none⟩ (.string S)) W.heap.size 0 0 ⟨#[]⟩ := r0a.set_other5 (by omega)
      have hcl := hc3.setNew5 (R := W1.heap.size) (by omega) 2 (.string S)
      have hgl := grown_set5 (R := W1.heap.size) (o := 2) (v := .string S) hgA (by omega)
      have zb2 := frozen_of_row W3 W1.heap.size 2 _ 25 r1a
      have gb2 := cell_of_row W3 W1.heap.size 2 _ 25 (0, 0) r1a
      go_wp2_with fail
      clear zb2 gb2 r0a r1a hgA hc3 hg3 hc2
      generalize W3.setCell ⟨W1.heap.size, 2, none⟩ (.string S) = w0 at r1l r0l hcl hgl ⊢
      have hRR : W.heap.size ≠ W1.heap.size := by omega
      have hRC : W1.heap.size ≠ C := by omega
      have hCR : C < W1.heap.size := by omega
      clear hz1
      generalize hR1 : W1.heap.size = R1 at *
      have hWR : W.heap.size ≤ R1 := by omega
      clear hR1
      go_loopw [] (fun wr => ∃ S : ByteArray, S.size ≤ 1000 ∧ ValAt wr R1 K N S ∧ ValAt wr W.heap.size 0 0 ⟨#[]⟩ ∧ Cur B C a len cap wr ∧ W.grownBy wr (some C)) (fun wr => 400 - txtAt wr R1)
      case atStart => exact ⟨S, by omega, r1l, r0l, hcl, hgl⟩
      case round =>
        obtain ⟨S, hS, r1, r0, hc, hg⟩ := hrel
        have hRb := (Array.getElem?_eq_some_iff.1 r1).1
        go_wp2_with fail
        refine (once_any 2 B C a len cap _ hc (by omega) (by omega)).mono ?_
        rintro e W4 ⟨b, rfl, hc4, hg4⟩
        have r1a := r1.turn hg4 hRC
        have r0a := r0.turn hg4 (by omega)
        have hgA := grown_tr hg hg4
        have hm0 := txtAt_of r1
        clear hg hg4 hc r0 hRb
        cases b
        · have hcX := hc4
          have hgX := hgA
          have r0x := r0a
          have za0 := frozen_of_row W4 (W.heap.size) 0 _ 25 r0a
          have ga0 := cell_of_row W4 (W.heap.size) 0 _ 25 (0, 0) r0a
          have za1 := frozen_of_row W4 (W.heap.size) 1 _ 25 r0a
          have ga1 := cell_of_row W4 (W.heap.size) 1 _ 25 (0, 0) r0a
          have za2 := frozen_of_row W4 (W.heap.size) 2 _ 25 r0a
          have ga2 := cell_of_row W4 (W.heap.size) 2 _ 25 (0, 0) r0a
          have zb0 := frozen_of_row W4 (R1) 0 _ 25 r1a
          have gb0 := cell_of_row W4 (R1) 0 _ 25 (0, 0) r1a
          have zb1 := frozen_of_row W4 (R1) 1 _ 25 r1a
          have gb1 := cell_of_row W4 (R1) 1 _ 25 (0, 0) r1a
          have zb2 := frozen_of_row W4 (R1) 2 _ 25 r1a
          have gb2 := cell_of_row W4 (R1) 2 _ 25 (0, 0) r1a
          have hF := ((r0x.set0 K).set1 N).set2 S
          have f0 := cell_of_row _ W.heap.size 0 _ 25 (0, 0) hF
          have f1 := cell_of_row _ W.heap.size 1 _ 25 (0, 0) hF
          have f2 := cell_of_row _ W.heap.size 2 _ 25 (0, 0) hF
          have hcF := ((hcX.setNew5 (R := W.heap.size) hWC 0 (.int .i64 K)).setNew5 (R := W.heap.size) hWC 1 (.int .i64 N)).setNew5 (R := W.heap.size) hWC 2 (.string S)
          have hgF := grown_set5 (R := W.heap.size) (o := 2) (v := .string S) (grown_set5 (R := W.heap.size) (o := 1) (v := .int .i64 N) (grown_set5 (R := W.heap.size) (o := 0) (v := .int .i64 K) hgX (Nat.le_refl _)) (Nat.le_refl _)) (Nat.le_refl _)
          go_wp2_with fail
          generalize ((W4.setCell ⟨W.heap.size, 0, none⟩ (.int .i64 K)).setCell ⟨W.heap.size, 1, none⟩ (.int .i64 N)).setCell ⟨W.heap.size, 2, none⟩ (.string S) = wf at f0 f1 f2 hcF hgF ⊢
          refine bodyPost_ret (v := .agg #[.int .i64 K, .int .i64 N, .string S]) (by simp [results, Try.results155, go_sem, f0, f1, f2]) rfl ?_
          exact ⟨K, N, S, ⟨hS, hT.2⟩, rfl, hcF, hgF⟩
        · by_cases hl : S.size < 400
          · have d1 : decide ((S.size : Int) < 400) = true := by simp; omega
            have d2 : decide (S.size < 400) = true := by simp; omega
            have z2 := frozen_of_row W4 R1 2 _ 25 r1a
            have g2 := cell_of_row W4 R1 2 _ 25 (0, 0) r1a
            have hsz : (S ++ S ++ (⟨#[48, 49, 50, 51, 52, 53, 54, 55, 56, 57]⟩ : ByteArray)).size = S.size + S.size + 10 := by simp; rfl
            have r1n := r1a.set2 (S ++ S ++ ⟨#[48, 49, 50, 51, 52, 53, 54, 55, 56, 57]⟩)
            have r0n : ValAt (W4.setCell ⟨R1, 2, none⟩ (.string (S ++ S ++ ⟨#[48, 49, 50, 51, 52, 53, 54, 55, 56, 57]⟩))) W.heap.size 0 0 ⟨#[]⟩ := r0a.set_other5 hRR
            have hcn := hc4.setNew5 (R := R1) hCR 2 (.string (S ++ S ++ ⟨#[48, 49, 50, 51, 52, 53, 54, 55, 56, 57]⟩))
            have hgn := grown_set5 (R := R1) (o := 2) (v := .string (S ++ S ++ ⟨#[48, 49, 50, 51, 52, 53, 54, 55, 56, 57]⟩)) hgA hWR
            have hmn := txtAt_of r1n
            go_wp2_with fail
            go_roundw
            case rel => exact ⟨_, by rw [hsz]; omega, r1n, r0n, hcn, hgn⟩
            case measure => rw [hmn, hm0, hsz]; omega
          · have d1 : decide ((S.size : Int) < 400) = false := by simp; omega
            have d2 : decide (S.size < 400) = false := by simp; omega
            have hcX := hc4
            have hgX := hgA
            have r0x := r0a
            have za0 := frozen_of_row W4 (W.heap.size) 0 _ 25 r0a
            have ga0 := cell_of_row W4 (W.heap.size) 0 _ 25 (0, 0) r0a
            have za1 := frozen_of_row W4 (W.heap.size) 1 _ 25 r0a
            have ga1 := cell_of_row W4 (W.heap.size) 1 _ 25 (0, 0) r0a
            have za2 := frozen_of_row W4 (W.heap.size) 2 _ 25 r0a
            have ga2 := cell_of_row W4 (W.heap.size) 2 _ 25 (0, 0) r0a
            have zb0 := frozen_of_row W4 (R1) 0 _ 25 r1a
            have gb0 := cell_of_row W4 (R1) 0 _ 25 (0, 0) r1a
            have zb1 := frozen_of_row W4 (R1) 1 _ 25 r1a
            have gb1 := cell_of_row W4 (R1) 1 _ 25 (0, 0) r1a
            have zb2 := frozen_of_row W4 (R1) 2 _ 25 r1a
            have gb2 := cell_of_row W4 (R1) 2 _ 25 (0, 0) r1a
            have hF := ((r0x.set0 K).set1 N).set2 S
            have f0 := cell_of_row _ W.heap.size 0 _ 25 (0, 0) hF
            have f1 := cell_of_row _ W.heap.size 1 _ 25 (0, 0) hF
            have f2 := cell_of_row _ W.heap.size 2 _ 25 (0, 0) hF
            have hcF := ((hcX.setNew5 (R := W.heap.size) hWC 0 (.int .i64 K)).setNew5 (R := W.heap.size) hWC 1 (.int .i64 N)).setNew5 (R := W.heap.size) hWC 2 (.string S)
            have hgF := grown_set5 (R := W.heap.size) (o := 2) (v := .string S) (grown_set5 (R := W.heap.size) (o := 1) (v := .int .i64 N) (grown_set5 (R := W.heap.size) (o := 0) (v := .int .i64 K) hgX (Nat.le_refl _)) (Nat.le_refl _)) (Nat.le_refl _)
            go_wp2_with fail
            generalize ((W4.setCell ⟨W.heap.size, 0, none⟩ (.int .i64 K)).setCell ⟨W.heap.size, 1, none⟩ (.int .i64 N)).setCell ⟨W.heap.size, 2, none⟩ (.string S) = wf at f0 f1 f2 hcF hgF ⊢
            refine bodyPost_ret (v := .agg #[.int .i64 K, .int .i64 N, .string S]) (by simp [results, Try.results155, go_sem, f0, f1, f2]) rfl ?_
            exact ⟨K, N, S, ⟨hS, hT.2⟩, rfl, hcF, hgF⟩
  have q2 : (x == 2) = false := by simpa using h2
  have hcX := hc2
  have hgX := hgA
  have r0x := r0a
  have za0 := frozen_of_row W2 (W.heap.size) 0 _ 25 r0a
  have ga0 := cell_of_row W2 (W.heap.size) 0 _ 25 (0, 0) r0a
  have za1 := frozen_of_row W2 (W.heap.size) 1 _ 25 r0a
  have ga1 := cell_of_row W2 (W.heap.size) 1 _ 25 (0, 0) r0a
  have za2 := frozen_of_row W2 (W.heap.size) 2 _ 25 r0a
  have ga2 := cell_of_row W2 (W.heap.size) 2 _ 25 (0, 0) r0a
  have zb0 := frozen_of_row W2 (W1.heap.size) 0 _ 25 r1a
  have gb0 := cell_of_row W2 (W1.heap.size) 0 _ 25 (0, 0) r1a
  have zb1 := frozen_of_row W2 (W1.heap.size) 1 _ 25 r1a
  have gb1 := cell_of_row W2 (W1.heap.size) 1 _ 25 (0, 0) r1a
  have zb2 := frozen_of_row W2 (W1.heap.size) 2 _ 25 r1a
  have gb2 := cell_of_row W2 (W1.heap.size) 2 _ 25 (0, 0) r1a
  have hF := ((r0x.set0 K).set1 N).set2 S0
  have f0 := cell_of_row _ W.heap.size 0 _ 25 (0, 0) hF
  have f1 := cell_of_row _ W.heap.size 1 _ 25 (0, 0) hF
  have f2 := cell_of_row _ W.heap.size 2 _ 25 (0, 0) hF
  have hcF := ((hcX.setNew5 (R := W.heap.size) hWC 0 (.int .i64 K)).setNew5 (R := W.heap.size) hWC 1 (.int .i64 N)).setNew5 (R := W.heap.size) hWC 2 (.string S0)
  have hgF := grown_set5 (R := W.heap.size) (o := 2) (v := .string S0) (grown_set5 (R := W.heap.size) (o := 1) (v := .int .i64 N) (grown_set5 (R := W.heap.size) (o := 0) (v := .int .i64 K) hgX (Nat.le_refl _)) (Nat.le_refl _)) (Nat.le_refl _)
  go_wp2_with fail
  generalize ((W2.setCell ⟨W.heap.size, 0, none⟩ (.int .i64 K)).setCell ⟨W.heap.size, 1, none⟩ (.int .i64 N)).setCell ⟨W.heap.size, 2, none⟩ (.string S0) = wf at f0 f1 f2 hcF hgF ⊢
  refine bodyPost_ret (v := .agg #[.int .i64 K, .int .i64 N, .string S0]) (by simp [results, Try.results155, go_sem, f0, f1, f2]) rfl ?_
  exact ⟨K, N, S0, by omega, rfl, hcF, hgF⟩
end Go.Proofs.Ytkacelpndeoogaa
