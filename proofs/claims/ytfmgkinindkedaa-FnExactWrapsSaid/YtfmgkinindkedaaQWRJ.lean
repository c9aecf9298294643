/- Joined texts: NeedS WrapdS RangeV Stk. -/
import Derived.Test.YtfmgkinindkedaaQHLevS
import Derived.Test.YtfmgkinindkedaaQWRF
import Derived.Test.YtfmgkinindkedaaQWRG
import Derived.Test.YtfmgkinindkedaaQWRH
import Derived.Test.YtfmgkinindkedaaQHFoldS
import Derived.RangeFuncIn
import Derived.RangeFuncRecord
import Derived.RangeFuncSeq
import Derived.RangeFuncCalls
import Derived.RangeFuncLeaves
import Derived.RangeFuncKeeps
import Derived.Below
import Derived.WalkSmall
import Derived.OwnWalkIn
/- The model's Needs. -/
namespace Go.Proofs.Ytfmgkinindkedaa
open Go.RowKit

theorem needK_kind3 {lv k : Int} (h0 : ¬ lv = 0) (h9 : ¬ lv = 9) : needK 3 lv k = lv := by
  unfold needK; rw [if_neg (by omega), if_pos rfl]
theorem needK_zero {kind k : Int} {lv : Int} (h : lv = 0 ∨ lv = 9) : needK kind lv k = 0 := by
  unfold needK; rw [if_pos h]
theorem needK_test {k : Int} : needK 4 4 k = 5 := by
  unfold needK; rw [if_neg (by omega), if_neg (by omega), if_pos rfl, if_pos rfl]
theorem needK_first {lv : Int} (h0 : ¬ lv = 0) (h9 : ¬ lv = 9) (h4 : ¬ lv = 4) : needK 4 lv 0 = lv := by
  unfold needK; rw [if_neg (by omega), if_neg (by omega), if_pos rfl, if_neg h4, if_pos rfl]
theorem needK_next {lv k : Int} (h0 : ¬ lv = 0) (h9 : ¬ lv = 9) (h4 : ¬ lv = 4) (hk : ¬ k = 0) : needK 4 lv k = lv + 1 := by
  unfold needK; rw [if_neg (by omega), if_neg (by omega), if_pos rfl, if_neg h4, if_neg hk]
theorem needK_list {lv k : Int} (h0 : ¬ lv = 0) (h9 : ¬ lv = 9) (hk : 0 < k) : needK 7 lv k = 1 := by
  unfold needK; rw [if_neg (by omega), if_neg (by omega), if_neg (by omega), if_pos ⟨rfl, hk⟩]
theorem needK_head {lv k : Int} (h0 : ¬ lv = 0) (h9 : ¬ lv = 9) (hk : ¬ 0 < k) : needK 7 lv k = 5 := by
  unfold needK; rw [if_neg (by omega), if_neg (by omega), if_neg (by omega), if_neg (fun h => hk h.2)]
theorem needK_else {kind lv k : Int} (h0 : ¬ lv = 0) (h9 : ¬ lv = 9) (h3 : ¬ kind = 3) (h4 : ¬ kind = 4) (h7 : ¬ kind = 7) : needK kind lv k = 5 := by
  unfold needK; rw [if_neg (by omega), if_neg h3, if_neg h4, if_neg (fun h => h7 h.1)]
set_option maxRecDepth 100000 in
set_option maxHeartbeats 4000000 in
theorem needs_spec (c0 c1 : Int) (c2 : Bool) (c3 c4 : Int) (c5 c6 c7 : ByteArray) (a8 : Option Addr) (n8 p8 : Nat) (a9 : Option Addr) (n9 p9 : Nat) (k : Int) (w : World) (hn : n8 ≤ 9223372036854775807) :
    Calls Try.prog 23 #[.agg #[.int .i64 c0, .int .i64 c1, .bool c2, .int .i64 c3, .int .i64 c4, .string c5, .string c6, .string c7, .slice a8 n8 p8, .slice a9 n9 p9], .int .i64 k] w (IntE (needV c0 (levV c0 c1) n8 k) w) := by
  have HB := BX.new w 56 #[.int .i64 c0, .int .i64 c1, .bool c2, .int .i64 c3, .int .i64 c4, .string c5, .string c6, .string c7, .slice a8 n8 p8, .slice a9 n9 p9]
  have x0 := HB.box.cell (i := 0) (v := .int .i64 c0) rfl
  have x1 := HB.box.cell (i := 1) (v := .int .i64 c1) rfl
  have x2 := HB.box.cell (i := 2) (v := .bool c2) rfl
  have x3 := HB.box.cell (i := 3) (v := .int .i64 c3) rfl
  have x4 := HB.box.cell (i := 4) (v := .int .i64 c4) rfl
  have x5 := HB.box.cell (i := 5) (v := .string c5) rfl
  have x6 := HB.box.cell (i := 6) (v := .string c6) rfl
  have x7 := HB.box.cell (i := 7) (v := .string c7) rfl
  have x8 := HB.box.cell (i := 8) (v := .slice a8 n8 p8) rfl
  have x9 := HB.box.cell (i := 9) (v := .slice a9 n9 p9) rfl
  have hlv := lev_le c0 c1
  have hL := fun w => levelOf_spec c0 c1 c2 c3 c4 c5 c6 c7 a8 n8 p8 a9 n9 p9 w
  have hI := fun w => in_any k 0 ((n8 : Int) - 1) (isKid n8 k) w rfl
  unfold needV
  generalize levV c0 c1 = lv at hlv hL ⊢
  obtain ⟨hl0, hl9⟩ := hlv
  obtain ⟨V, hV⟩ : ∃ V, V = (if isKid n8 k then needK c0 lv k else 0) := ⟨_, rfl⟩
  rw [← hV]
  have HV := Lib.hid hV
  clear hV
  go_enter Try.func23, Try.ntmps23
  go_wp2_with fail
  generalize w.alloc (.cells #[.int .i64 c0, .int .i64 c1, .bool c2, .int .i64 c3, .int .i64 c4, .string c5, .string c6, .string c7, .slice a8 n8 p8, .slice a9 n9 p9] 56) = v0 at HB x0 x1 x2 x3 x4 x5 x6 x7 x8 x9 ⊢
  refine (hL _).mono ?_
  rintro e w1 ⟨rfl, hb⟩
  clear x0 x1 x2 x3 x4 x5 x6 x7 x8 x9 hL
  have H := HB.next hb
  clear hb HB
  have x0 := H.box.cell (i := 0) (v := .int .i64 c0) rfl
  have x8 := H.box.cell (i := 8) (v := .slice a8 n8 p8) rfl
  cases hk : isKid n8 k
  · rw [hk] at hI
    have HK := Lib.hid hk
    clear hk
    go_wp2_with fail
    refine (hI _).mono ?_
    rintro e w2 ⟨rfl, rfl⟩
    go_wp2_with fail
    go_ret
    exact ⟨ret_i64 (by rw [HV.out, HK.out]; rfl), H.b⟩
  · rw [hk] at hI
    have HK := Lib.hid hk
    clear hk
    by_cases h0 : lv = 0
    · subst h0
      go_wp2_with fail
      refine (hI _).mono ?_
      rintro e w2 ⟨rfl, rfl⟩
      go_wp2_with fail
      go_ret
      exact ⟨ret_i64 (by rw [HV.out, HK.out, if_pos rfl, needK_zero (.inl rfl)]), H.b⟩
    by_cases h9 : lv = 9
    · subst h9
      go_wp2_with fail
      refine (hI _).mono ?_
      rintro e w2 ⟨rfl, rfl⟩
      go_wp2_with fail
      go_ret
      exact ⟨ret_i64 (by rw [HV.out, HK.out, if_pos rfl, needK_zero (.inr rfl)]), H.b⟩
    have d0 : (lv == 0) = false := by simpa using h0
    have d9 : (lv == 9) = false := by simpa using h9
    by_cases h3 : c0 = 3
    · subst h3
      go_wp2_with fail
      refine (hI _).mono ?_
      rintro e w2 ⟨rfl, rfl⟩
      go_wp2_with fail
      go_ret
      exact ⟨ret_i64 (by rw [HV.out, HK.out, if_pos rfl, needK_kind3 h0 h9]), H.b⟩
    by_cases h4 : c0 = 4
    · subst h4
      clear h3
      by_cases h4 : lv = 4
      · subst h4
        clear d0 d9
        go_wp2_with fail
        refine (hI _).mono ?_
        rintro e w2 ⟨rfl, rfl⟩
        go_wp2_with fail
        go_ret
        exact ⟨ret_i64 (by rw [HV.out, HK.out, if_pos rfl, needK_test]), H.b⟩
      · by_cases hk0 : k = 0
        · subst hk0
          go_wp2_with fail
          refine (hI _).mono ?_
          rintro e w2 ⟨rfl, rfl⟩
          go_wp2_with fail
          go_ret
          exact ⟨ret_i64 (by rw [HV.out, HK.out, if_pos rfl, needK_first h0 h9 h4]), H.b⟩
        · skip
          go_wp2_with fail
          refine (hI _).mono ?_
          rintro e w2 ⟨rfl, rfl⟩
          go_wp2_with fail
          go_ret
          exact ⟨ret_i64 (by rw [HV.out, HK.out, if_pos rfl, needK_next h0 h9 h4 hk0]), H.b⟩
    by_cases h7 : c0 = 7
    · subst h7
      clear h3 h4
      by_cases hk0 : 0 < k
      · skip
        go_wp2_with fail
        refine (hI _).mono ?_
        rintro e w2 ⟨rfl, rfl⟩
        go_wp2_with fail
        go_ret
        exact ⟨ret_i64 (by rw [HV.out, HK.out, if_pos rfl, needK_list h0 h9 hk0]), H.b⟩
      · skip
        go_wp2_with fail
        refine (hI _).mono ?_
        rintro e w2 ⟨rfl, rfl⟩
        go_wp2_with fail
        go_ret
        exact ⟨ret_i64 (by rw [HV.out, HK.out, if_pos rfl, needK_head h0 h9 (by omega)]), H.b⟩
    go_wp2_with fail
    refine (hI _).mono ?_
    rintro e w2 ⟨rfl, rfl⟩
    go_wp2_with fail
    go_ret
    exact ⟨ret_i64 (by rw [HV.out, HK.out, if_pos rfl, needK_else h0 h9 h3 h4 h7]), H.b⟩
end Go.Proofs.Ytfmgkinindkedaa

/- The model's Wrapped. -/
namespace Go.Proofs.Ytfmgkinindkedaa
open Go.RowKit

theorem isKid_true {n : Nat} {k : Int} (h : isKid n k = true) : ∃ j : Nat, k = (j : Int) ∧ j < n := by
  have := of_decide_eq_true h
  exact ⟨k.toNat, by omega, by omega⟩
/-- whether one Kid is wrapped, by the cells -/
theorem wrapB_is {c : Nd} {c0 c1 : Int} {n8 : Nat} {f8 : Nat → Nat → Dat} (e0 : c 0 = .v (.int .i64 c0)) (e1 : c 1 = .v (.int .i64 c1)) (e8 : c 8 = .sl n8 10 f8) (k : Int) :
    wrapB c k = (isKid n8 k && decide (levV (f8 k.toNat 0).num (f8 k.toNat 1).num < needV c0 (levV c0 c1) n8 k)) := by
  unfold wrapB needs lev
  rw [e8, num_is e0, num_is e1]; rfl
theorem needV_le (kind lv : Int) (n : Nat) (k : Int) (h0 : 0 ≤ lv) (h9 : lv ≤ 9) : 0 ≤ needV kind lv n k ∧ needV kind lv n k ≤ 9 := by
  unfold needV needK
  repeat' split
  all_goals omega
set_option maxRecDepth 100000 in
set_option maxHeartbeats 4000000 in
theorem wrapped_spec (c : Nd) (c0 c1 : Int) (c2 : Bool) (c3 c4 : Int) (c5 c6 c7 : ByteArray) (a8 : Option Addr) (n8 p8 : Nat) (a9 : Option Addr) (n9 p9 : Nat) (k : Int) (w : World) (e0 : c 0 = .v (.int .i64 c0)) (e1 : c 1 = .v (.int .i64 c1)) (f8 : Nat → Nat → Dat) (e8 : c 8 = .sl n8 10 f8) (r8 : Rd w 0 (.slice a8 n8 p8) (.sl n8 10 f8)) (q8 : Fits (.sl n8 10 f8) .exprs) :
    Calls Try.prog 25 #[.agg #[.int .i64 c0, .int .i64 c1, .bool c2, .int .i64 c3, .int .i64 c4, .string c5, .string c6, .string c7, .slice a8 n8 p8, .slice a9 n9 p9], .int .i64 k] w (BoolE (wrapB c k) w) := by
  rw [wrapB_is e0 e1 e8]
  clear e0 e1 e8
  have hn8 := q8.2.1
  have HB := BX.new w 56 #[.int .i64 c0, .int .i64 c1, .bool c2, .int .i64 c3, .int .i64 c4, .string c5, .string c6, .string c7, .slice a8 n8 p8, .slice a9 n9 p9]
  have x0 := HB.box.cell (i := 0) (v := .int .i64 c0) rfl
  have x1 := HB.box.cell (i := 1) (v := .int .i64 c1) rfl
  have x2 := HB.box.cell (i := 2) (v := .bool c2) rfl
  have x3 := HB.box.cell (i := 3) (v := .int .i64 c3) rfl
  have x4 := HB.box.cell (i := 4) (v := .int .i64 c4) rfl
  have x5 := HB.box.cell (i := 5) (v := .string c5) rfl
  have x6 := HB.box.cell (i := 6) (v := .string c6) rfl
  have x7 := HB.box.cell (i := 7) (v := .string c7) rfl
  have x8 := HB.box.cell (i := 8) (v := .slice a8 n8 p8) rfl
  have x9 := HB.box.cell (i := 9) (v := .slice a9 n9 p9) rfl
  have hN := fun w => needs_spec c0 c1 c2 c3 c4 c5 c6 c7 a8 n8 p8 a9 n9 p9 k w hn8
  have hI := fun w => in_any k 0 ((n8 : Int) - 1) (isKid n8 k) w rfl
  have hlv := lev_le c0 c1
  have hnb := needV_le c0 (levV c0 c1) n8 k hlv.1 hlv.2
  generalize needV c0 (levV c0 c1) n8 k = N at hN hnb ⊢
  clear hlv
  obtain ⟨R, hR⟩ : ∃ R, R = (isKid n8 k && decide (levV (f8 k.toNat 0).num (f8 k.toNat 1).num < N)) := ⟨_, rfl⟩
  rw [← hR]
  have HR := Lib.hid hR
  clear hR
  go_enter Try.func25, Try.ntmps25
  go_wp2_with fail
  have hbw := HB.b
  generalize w.alloc (.cells #[.int .i64 c0, .int .i64 c1, .bool c2, .int .i64 c3, .int .i64 c4, .string c5, .string c6, .string c7, .slice a8 n8 p8, .slice a9 n9 p9] 56) = W at HB hbw x0 x1 x2 x3 x4 x5 x6 x7 x8 x9 ⊢
  cases hk : isKid n8 k
  · rw [hk] at hI
    have hr : R = false := by rw [HR.out, hk]; rfl
    subst hr
    clear hk hN hnb HR
    replace x0 := lat_cell x0
    replace x1 := lat_cell x1
    replace x2 := lat_cell x2
    replace x3 := lat_cell x3
    replace x4 := lat_cell x4
    replace x5 := lat_cell x5
    replace x6 := lat_cell x6
    replace x7 := lat_cell x7
    replace x8 := lat_cell x8
    replace x9 := lat_cell x9
    refine region_lat (by kernel_rfl) (by kernel_rfl) ?_
    iterate 5 go_big_quiet_step (fail)
    go_big_quiet_step ((refine (hI _).mono ?_; rintro e w'' ⟨rfl, rfl⟩; exact ⟨rfl, ⟨_, rfl⟩⟩))
    iterate 13 go_big_quiet_step (fail)
    refine wpQuiet_nil ?_
    rintro _ ⟨nq, rfl⟩
    have hbq := hbw.trans ((lat_below W nq).mono hbw.size)
    go_wp2_with fail
    go_ret
    exact ⟨rfl, hbq⟩
  · obtain ⟨j, rfl, hj⟩ := isKid_true hk
    rw [hk] at hI
    have HR2 : Hid (R = decide (levV (f8 j 0).num (f8 j 1).num < N)) := by show R = _; rw [HR.out, hk]; rfl
    clear hk HR
    obtain ⟨g, o, rfl, -, hg, y0, y1, y2, y3, y4, y5, y6, y7, y8, y9, ⟨z0, z1, z2, z3, z4, z5, z6, z7, z8, z9⟩, ⟨⟨e0, -⟩, ⟨e1, -⟩, -, -, -, -, -, -, ⟨s8, t8⟩, ⟨s9, t9⟩⟩⟩ := row_exprs (r8.later hbw) q8 hj
    obtain ⟨ka, kn, kp, rfl⟩ := s8.slice_of t8 rfl
    obtain ⟨la, ln, lp, rfl⟩ := s9.slice_of t9 rfl
    have hj2 : (j : Int) < (n8 : Int) := by omega
    have hL := fun w => levelOf_spec y0 y1 y2 y3 y4 y5 y6 y7 ka kn kp la ln lp w
    have hlb := lev_le y0 y1
    have hR3 : R = decide (levV y0 y1 < N) := by rw [HR2.out, num_is e0, num_is e1]
    clear HR2
    generalize levV y0 y1 = L at hL hlb hR3
    clear e0 e1 s8 t8 s9 t9
    replace x0 := lat_cell x0
    replace x1 := lat_cell x1
    replace x2 := lat_cell x2
    replace x3 := lat_cell x3
    replace x4 := lat_cell x4
    replace x5 := lat_cell x5
    replace x6 := lat_cell x6
    replace x7 := lat_cell x7
    replace x8 := lat_cell x8
    replace x9 := lat_cell x9
    replace z0 := lat_cell z0
    replace z1 := lat_cell z1
    replace z2 := lat_cell z2
    replace z3 := lat_cell z3
    replace z4 := lat_cell z4
    replace z5 := lat_cell z5
    replace z6 := lat_cell z6
    replace z7 := lat_cell z7
    replace z8 := lat_cell z8
    replace z9 := lat_cell z9
    cases R
    all_goals
      have hV2 := hR3.symm
      clear hR3
      refine region_lat (by kernel_rfl) (by kernel_rfl) ?_
      iterate 5 go_big_quiet_step (fail)
      go_big_quiet_step ((refine (hI _).mono ?_; rintro e w'' ⟨rfl, rfl⟩; exact ⟨rfl, ⟨_, rfl⟩⟩))
      iterate 6 go_big_quiet_step (fail)
      go_big_quiet_step ((refine (hL _).mono ?_; rintro e w'' ⟨rfl, hb''⟩; exact ⟨rfl, lat_to hb''⟩))
      iterate 2 go_big_quiet_step (fail)
      go_big_quiet_step ((refine (hN _).mono ?_; rintro e w'' ⟨rfl, hb''⟩; exact ⟨rfl, lat_to hb''⟩))
      iterate 3 go_big_quiet_step (fail)
      refine wpQuiet_nil ?_
      rintro _ ⟨nq, rfl⟩
      have hbq := hbw.trans ((lat_below W nq).mono hbw.size)
      go_wp2_with fail
      go_ret
      exact ⟨rfl, hbq⟩
end Go.Proofs.Ytfmgkinindkedaa

/- A range over a function whose rounds come one by one off a list that is known: the iterator may write blocks of its own; the body may write the blocks of E. -/
namespace Go.Proofs.Ytfmgkinindkedaa
open Go.RowKit

/-- whatever lies outside E lies as it lay -/
structure But (E : Nat → Prop) (W W' : World) : Prop where
  os : W'.os = W.os
  tape : W'.tape = W.tape
  output : W'.output = W.output
  size : W.heap.size ≤ W'.heap.size
  block : ∀ k, k < W.heap.size → ¬ E k → W'.heap[k]? = W.heap[k]?
theorem But.refl (E : Nat → Prop) (W : World) : But E W W := ⟨rfl, rfl, rfl, Nat.le_refl _, fun _ _ _ => rfl⟩
theorem But.trans {E : Nat → Prop} {a b c : World} (h : But E a b) (k : But E b c) : But E a c :=
  ⟨k.os.trans h.os, k.tape.trans h.tape, k.output.trans h.output, Nat.le_trans h.size k.size, fun i hi hn => (k.block i (Nat.lt_of_lt_of_le hi h.size) hn).trans (h.block i hi hn)⟩
theorem But.wide {E E' : Nat → Prop} {a b : World} (h : But E a b) (hE : ∀ k, E k → E' k) : But E' a b := ⟨h.os, h.tape, h.output, h.size, fun k hk hn => h.block k hk fun he => hn (hE k he)⟩
theorem But.below {E : Nat → Prop} {a b : World} (h : Below a.heap.size a b) : But E a b := ⟨h.os, h.tape, h.output, h.size, fun k hk _ => h.block k hk⟩
theorem But.of_below {E : Nat → Prop} {B : Nat} {a b : World} (h : Below B a b) (hE : ∀ k, B ≤ k → k < a.heap.size → E k) : But E a b :=
  ⟨h.os, h.tape, h.output, h.size, fun k hk hn => h.block k (Nat.lt_of_not_le fun hle => hn (hE k hle hk))⟩
theorem But.setCell {E : Nat → Prop} (W : World) (p : Addr) (u : Value) (hE : E p.block) : But E W (W.setCell p u) :=
  ⟨rfl, rfl, rfl, by simp [World.setCell], fun k _ hn => Below.heap_setCell _ _ _ _ (fun e => hn (e ▸ hE))⟩
theorem But.alloc {E : Nat → Prop} (W : World) (o : Obj) : But E W (W.alloc o) := .below ((Below.refl _ W).alloc (Nat.le_refl _) o)
theorem But.drew {E : Nat → Prop} (W : World) : But E W W.drew := ⟨rfl, rfl, rfl, Nat.le_refl _, fun _ _ _ => rfl⟩
theorem But.put {E : Nat → Prop} (W : World) (l : Nat) (o : Obj) (hE : E l) : But E W (W.putObj l o) :=
  ⟨rfl, rfl, rfl, by simp [World.putObj], fun k _ hn => World.putObj_heap_other (fun e => hn (e ▸ hE))⟩
theorem But.low {E : Nat → Prop} {a b : World} (h : But E a b) {B : Nat} (hB : B ≤ a.heap.size) (hE : ∀ k, k < B → ¬ E k) : Below B a b :=
  ⟨h.os, h.tape, h.output, h.size, fun k hk => h.block k (Nat.lt_of_lt_of_le hk hB) (hE k hk)⟩
theorem below_put {B : Nat} (W : World) (l : Nat) (o : Obj) (hB : B ≤ l) : Below B W (W.putObj l o) :=
  ⟨rfl, rfl, rfl, by simp [World.putObj], fun k hk => World.putObj_heap_other (by omega)⟩

/-- THE ITERATOR's CONTRACT: its rounds are those of xs, in order, each as a value that ok takes; a round keeps all but E and what lay between w and the call. -/
def SeqV {α : Type} (F : Fence) (n : Nat) (P : Program) (g : Nat) (lb : Array Value) (xs : List α) (ok : α → Array Value → Prop) (go : α → Prop) (E : Nat → Prop) (w : World) : Prop :=
  ∀ (l : Nat) (J Jx : Nat → World → Prop) (Ew : Nat → Prop) (W : World), Below w.heap.size w W → (∀ k, Ew k → E k ∨ (w.heap.size ≤ k ∧ k < W.heap.size)) →
    (∀ i A B, J i A → Below W.heap.size A B → J i B) → (∀ i A B, Jx i A → Below W.heap.size A B → Jx i B) →
    (∀ i x v W1, xs[i]? = some x → ok x v → J i W1 → YieldAt F (n - 1) P l v W1 fun e W' =>
      (e = .returned (.bool true) ∧ go x ∧ J (i + 1) W' ∧ But Ew W1 W') ∨ (e = .returned (.bool false) ∧ Jx (i + 1) W')) →
    J 0 W →
    CallsIn F n P g (#[.func (.yield l) #[] #[]] ++ lb) W fun e W' => (∃ v, e = .returned v) ∧ (J xs.length W' ∨ ∃ i, i ≤ xs.length ∧ Jx i W')

/-- how the body of a round may be left -/
def postV (E : Nat → Prop) (gx : Prop) (I : Nat → World → Prop) (Ix : Code → Nat → World → Prop) (i : Nat) (W : World) : Exit → Act → World → Prop
  | .normal, _, W' => But E W W' ∧ gx ∧ I i W'
  | .ret, _, W' => But E W W' ∧ Ix .ret i W'
  | .exit id, _, W' => But E W W' ∧ Ix (.exit id) i W'
  | .goto t, _, W' => But E W W' ∧ Ix (.goto t) i W'
  | .panic _, _, _ => False
  | .outgrown, _, _ => False

theorem wpIn_rangeV {F : Fence} {n : Nat} {P : Program} {α : Type} {g : Operand} {ps : Array Tmp} {assign body : Code} {Q : Exit → Act → World → Prop} {a : Act} {w : World}
    (hro : F.round = none) (h1 : 1 ≤ n) {gf : Nat} {lb : Array Value} (hg : a.eval g = .func (.func gf) #[] lb) (hFg : F.fn gf) (eg : ∀ args w, (callFunc gf args).run P w = .ok (.enter gf args) w)
    {xs : List α} {ok : α → Array Value → Prop} {go : α → Prop} {E : Nat → Prop} (hseq : SeqV F (n - 1) P gf lb xs ok go E w) (hE : ∀ k, E k → k < w.heap.size) (hps : ∀ x v, ok x v → v.size = ps.size)
    (I : Nat → World → Prop) (Ix : Code → Nat → World → Prop) (hI : ∀ i A B, I i A → Below w.heap.size A B → I i B) (hIx : ∀ c i A B, Ix c i A → Below w.heap.size A B → Ix c i B) (h0 : I 0 w)
    (Ax : α → Act → World → Prop) (hAx : ∀ x a₁ (A B : World), Ax x a₁ A → (∀ k, w.heap.size + 1 < k → B.heap[k]? = A.heap[k]?) → Ax x a₁ B)
    (hassign : ∀ (l : Nat) (x : α) (v : Array Value) (W : World) (K : Act → World → Prop), ok x v → w.heap.size + 1 < W.heap.size → (∀ a₁ W', Ax x a₁ W' → Below W.heap.size W W' → K a₁ W') →
      assign.wpIn (F.inRound l) (n - 1 - 1) P (Exit.then K (fun _ _ _ => False)) { tmps := (ps.zip v).foldl (fun t (p, v) => t.setIfInBounds p v) a.tmps, defers := [] } W)
    (hbody : ∀ (l : Nat) (i : Nat) (x : α) (a₁ : Act) (W : World), xs[i]? = some x → I i W → w.heap.size < W.heap.size → Ax x a₁ W → body.wpIn (F.inRound l) (n - 1 - 1) P (postV E (go x) I Ix (i + 1) W) a₁ W)
    (hdone : ∀ (D : Nat) (W : World), w.heap.size ≤ D → I xs.length W → W.heap[D]? = some (.deferred (some [])) → Q .normal { a with defers := { target := .collected D, args := #[] } :: a.defers } W)
    (hstop : ∀ (D : Nat) (c : Code) (i : Nat) (W : World), w.heap.size ≤ D → i ≤ xs.length → Ix c i W → W.heap[D]? = some (.deferred (some [])) → c.wpIn F n P Q { a with defers := { target := .collected D, args := #[] } :: a.defers } W) :
    (Code.rangeFunc g ps assign body).wpIn F n P Q a w := by
  refine wpIn_rangeFunc ?_
  intro fn hfn
  rw [hro]
  obtain ⟨rec, hrec⟩ : ∃ rec : LoopState → Option Code → Loop, rec = fun st pe => { state := st, pending := pe, fn, tmps := a.tmps, params := ps, assign, body, defers := w.heap.size } := ⟨_, rfl⟩
  obtain ⟨W1, hW1⟩ : ∃ W1, (w.alloc (.deferred (some []))).alloc (.loop (rec .ready none)) = W1 := ⟨_, rfl⟩
  have hL1 : W1.heap[w.heap.size + 1]? = some (.loop (rec .ready none)) := by
    rw [← hW1]; have := World.alloc_heap_new (w.alloc (.deferred (some []))) (.loop (rec .ready none)); rwa [World.size_alloc] at this
  have hK1 : W1.heap[w.heap.size]? = some (.deferred (some [])) := by
    rw [← hW1]; exact (Below.heap_alloc _ _ _ (by simp)).trans (World.alloc_heap_new w _)
  have hb1 : Below w.heap.size w W1 := by
    rw [← hW1]; exact ((Below.refl _ w).alloc (Nat.le_refl _) _).alloc (by simp) _
  have hI1 : I 0 W1 := hI _ _ _ h0 hb1
  have hs1 : W1.heap.size = w.heap.size + 2 := by rw [← hW1]; simp
  refine ⟨w.heap.size + 1, [{ target := .collected w.heap.size, args := #[] }], W1, { target := .fn (.func gf) lb, args := #[.func (.yield (w.heap.size + 1)) #[] #[]] }, W1, gf,
    #[.func (.yield (w.heap.size + 1)) #[] #[]] ++ lb, W1, ?_, ?_, ?_, ?_, fun _ => h1, ?_⟩
  · rw [← hW1, hrec]; exact run_enterLoop_outer _ _ _ _ _
  · simp only [resolve, hg]
    simp [go_sem]
  · intro f' hf'; simp [Target.leads] at hf'; subst hf'; exact hFg
  · simp [invoke, go_sem, eg]
  · refine (hseq (w.heap.size + 1)
      (fun i W => I i W ∧ W.heap[w.heap.size + 1]? = some (.loop (rec .ready none)) ∧ W.heap[w.heap.size]? = some (.deferred (some [])))
      (fun i W => ∃ c, i ≤ xs.length ∧ Ix c i W ∧ W.heap[w.heap.size + 1]? = some (.loop (rec .done (some c))) ∧ W.heap[w.heap.size]? = some (.deferred (some [])))
      (fun k => E k ∨ k = w.heap.size + 1) W1 hb1 (fun k hk => hk.imp id fun e => ⟨by omega, by omega⟩)
      (fun i A B hs hg' => ⟨hI i A B hs.1 (hg'.mono (by omega)), (hg'.block _ (by omega)).trans hs.2.1, (hg'.block _ (by omega)).trans hs.2.2⟩)
      (fun i A B hs hg' => by
        obtain ⟨c, hle, hc, hl, hk⟩ := hs
        exact ⟨c, hle, hIx c i A B hc (hg'.mono (by omega)), (hg'.block _ (by omega)).trans hl, (hg'.block _ (by omega)).trans hk⟩)
      ?_ ⟨hI1, hL1, hK1⟩).mono ?_
    · -- one round
      rintro i x v W hx hok ⟨hi, hl, hk⟩
      have hlt : w.heap.size + 1 < W.heap.size := (Array.getElem?_eq_some_iff.1 hl).1
      have hy := run_yield (P := P) (args := v) hl (by rw [hrec]; exact hps x v hok)
      rw [hrec] at hy
      have hilen : i + 1 ≤ xs.length := (List.getElem?_eq_some_iff.1 hx).1
      refine ⟨fn, _, assign, body, hy, roundIn_of_wpIn hfn (hassign _ x v W _ hok hlt fun a₁ W' ha₁ hbW => ⟨_, run_beginRound ((hbW.block _ hlt).trans hl) (by rw [hrec]), ?_⟩)⟩
      have hl' := (hbW.block _ hlt).trans hl
      have hk' := (hbW.block w.heap.size (by omega)).trans hk
      have hlt' : w.heap.size + 1 < W'.heap.size := Nat.lt_of_lt_of_le hlt hbW.size
      have bW : But (fun k => E k ∨ k = w.heap.size + 1) W W' := But.below hbW
      replace hi : I i W' := hI i _ _ hi (hbW.mono (by omega))
      have hl2 : (W'.putObj (w.heap.size + 1) (.loop { rec .ready none with state := .busy })).heap[w.heap.size + 1]? = some (.loop { rec .ready none with state := .busy }) := World.putObj_heap_same hlt'
      have hk2 : (W'.putObj (w.heap.size + 1) (.loop { rec .ready none with state := .busy })).heap[w.heap.size]? = some (.deferred (some [])) := (World.putObj_heap_other (by omega)).trans hk'
      refine wpIn_mono (hbody _ i x a₁ _ hx (hI i _ _ hi (below_put W' _ _ (by omega))) (by simp [World.putObj]; omega) (hAx _ _ _ _ ha₁ fun k hk => World.putObj_heap_other (by omega))) ?_
      have fin : ∀ (jump : Option Code) (W3 : World), But E (W'.putObj (w.heap.size + 1) (.loop { rec .ready none with state := .busy })) W3 →
          (Instr.endRound (w.heap.size + 1) jump).run P W3 = .ok (.bool jump.isNone) (W3.putObj (w.heap.size + 1) (.loop (rec (if jump.isNone then .ready else .done) jump))) ∧
          (W3.putObj (w.heap.size + 1) (.loop (rec (if jump.isNone then .ready else .done) jump))).heap[w.heap.size + 1]? = some (.loop (rec (if jump.isNone then .ready else .done) jump)) ∧
          (W3.putObj (w.heap.size + 1) (.loop (rec (if jump.isNone then .ready else .done) jump))).heap[w.heap.size]? = some (.deferred (some [])) := fun jump W3 hk3 => by
        have hl3 := (hk3.block (w.heap.size + 1) (by simpa [World.putObj] using hlt') (fun he => by have := hE _ he; omega)).trans hl2
        have hd3 := (hk3.block w.heap.size (by simp [World.putObj]; omega) (fun he => by have := hE _ he; omega)).trans hk2
        have := run_endRound (P := P) jump hl3
        rw [hrec] at this ⊢
        exact ⟨this, World.putObj_heap_same (Array.getElem?_eq_some_iff.1 hl3).1, (World.putObj_heap_other (by omega)).trans hd3⟩
      have bw : But (fun k => E k ∨ k = w.heap.size + 1) W (W'.putObj (w.heap.size + 1) (.loop { rec .ready none with state := .busy })) := bW.trans (But.put _ _ _ (.inr rfl))
      rintro e a3 W3 hp
      cases e with
      | normal =>
        obtain ⟨hk3, hgx, hi3⟩ := hp
        obtain ⟨hr, hl4, hk4⟩ := fin none W3 hk3
        exact ⟨_, _, hr, .inl ⟨rfl, hgx, ⟨hI _ _ _ hi3 (below_put W3 _ _ (by omega)), hl4, hk4⟩, (bw.trans (hk3.wide fun k hk => .inl hk)).trans (But.put _ _ _ (.inr rfl))⟩⟩
      | ret =>
        obtain ⟨hk3, hi3⟩ := hp
        obtain ⟨hr, hl4, hk4⟩ := fin (some .ret) W3 hk3
        exact ⟨_, _, hr, .inr ⟨rfl, .ret, hilen, hIx _ _ _ _ hi3 (below_put W3 _ _ (by omega)), hl4, hk4⟩⟩
      | exit id =>
        obtain ⟨hk3, hi3⟩ := hp
        obtain ⟨hr, hl4, hk4⟩ := fin (some (.exit id)) W3 hk3
        exact ⟨_, _, hr, .inr ⟨rfl, .exit id, hilen, hIx _ _ _ _ hi3 (below_put W3 _ _ (by omega)), hl4, hk4⟩⟩
      | goto t =>
        obtain ⟨hk3, hi3⟩ := hp
        obtain ⟨hr, hl4, hk4⟩ := fin (some (.goto t)) W3 hk3
        exact ⟨_, _, hr, .inr ⟨rfl, .goto t, hilen, hIx _ _ _ _ hi3 (below_put W3 _ _ (by omega)), hl4, hk4⟩⟩
      | panic ch => exact hp.elim
      | outgrown => exact hp.elim
    · -- behind the iterator
      rintro e W2 ⟨⟨v, rfl⟩, (⟨hi, hl, hk⟩ | ⟨i, hile, c, hile', hi, hl, hk⟩)⟩
      · exact ⟨none, _, by have := run_endLoop (P := P) hl (by rw [hrec]; simp); rw [hrec] at this; exact this, hdone _ _ (Nat.le_refl _) (hI _ _ _ hi (below_put W2 _ _ (by omega))) ((World.putObj_heap_other (by omega)).trans hk)⟩
      · exact ⟨some c, _, by have := run_endLoop (P := P) hl (by rw [hrec]; simp); rw [hrec] at this; exact this, hstop _ c i _ (Nat.le_refl _) hile (hIx _ _ _ _ hi (below_put W2 _ _ (by omega))) ((World.putObj_heap_other (by omega)).trans hk)⟩
end Go.Proofs.Ytfmgkinindkedaa

/- Lists of elements of several cells, as values; a stack of such lists, each with its depth. -/
namespace Go.Proofs.Ytfmgkinindkedaa
open Go.RowKit

/-- the cells C are those of the elements L, as w0 had them -/
def OutK (tys : List Ty) (w0 : World) (C : List Value) (L : List Nd) : Prop :=
  C.length = L.length * tys.length ∧ ∀ i c, L[i]? = some c → ∀ j (h : j < tys.length), ∃ y, C[i * tys.length + j]? = some y ∧ Rd w0 0 y (c j) ∧ Fits (c j) tys[j]
theorem outK_exprs {w0 : World} {C : List Value} {L : List Nd} : OutP w0 C L ↔ OutK exprTy w0 C L := Iff.rfl
theorem OutK.nil (tys : List Ty) (w0 : World) : OutK tys w0 [] [] := ⟨by simp, fun i c h => by simp at h⟩
theorem mul_lt_of {i n k j : Nat} (hi : i < n) (hj : j < k) : i * k + j < n * k := by
  have : (i + 1) * k ≤ n * k := Nat.mul_le_mul_right k hi
  rw [Nat.add_mul, Nat.one_mul] at this
  omega
theorem OutK.append {tys : List Ty} {w0 : World} {C C' : List Value} {L L' : List Nd} (h : OutK tys w0 C L) (h' : OutK tys w0 C' L') : OutK tys w0 (C ++ C') (L ++ L') := by
  refine ⟨by rw [List.length_append, List.length_append, h.1, h'.1, Nat.add_mul], fun i c hc j hj => ?_⟩
  by_cases e : i < L.length
  · rw [List.getElem?_append_left e] at hc
    obtain ⟨y, hy, hr⟩ := h.2 i c hc j hj
    exact ⟨y, by rw [List.getElem?_append_left (by rw [h.1]; exact mul_lt_of e hj)]; exact hy, hr⟩
  · rw [List.getElem?_append_right (by omega)] at hc
    obtain ⟨y, hy, hr⟩ := h'.2 _ c hc j hj
    have h1 : L.length * tys.length ≤ i * tys.length := Nat.mul_le_mul_right _ (by omega)
    refine ⟨y, ?_, hr⟩
    rw [List.getElem?_append_right (by rw [h.1]; omega), h.1, show i * tys.length + j - L.length * tys.length = (i - L.length) * tys.length + j by rw [Nat.mul_sub_right_distrib]; omega]
    exact hy
theorem OutK.one {tys : List Ty} {w0 : World} {C : List Value} {c : Nd} (hl : C.length = tys.length) (h : ∀ j (h : j < tys.length), ∃ y, C[j]? = some y ∧ Rd w0 0 y (c j) ∧ Fits (c j) tys[j]) : OutK tys w0 C [c] := by
  refine ⟨by rw [hl]; simp, fun i c' hc j hj => ?_⟩
  obtain rfl : i = 0 := by
    have := (List.getElem?_eq_some_iff.1 hc).1
    simp at this; exact this
  obtain rfl : c = c' := by simpa using hc
  obtain ⟨y, hy, hr⟩ := h j hj
  exact ⟨y, by rw [Nat.zero_mul, Nat.zero_add]; exact hy, hr⟩
theorem OutK.cons {tys : List Ty} {w0 : World} {C : List Value} {c : Nd} {L : List Nd} (h : OutK tys w0 C (c :: L)) : OutK tys w0 (C.take tys.length) [c] ∧ OutK tys w0 (C.drop tys.length) L := by
  have hl : C.length = L.length * tys.length + tys.length := by rw [h.1, List.length_cons, Nat.add_mul, Nat.one_mul]
  refine ⟨OutK.one (by rw [List.length_take]; omega) fun j hj => ?_, by rw [List.length_drop]; omega, fun i c' hc j hj => ?_⟩
  · obtain ⟨y, hy, hr⟩ := h.2 0 c rfl j hj
    rw [Nat.zero_mul, Nat.zero_add] at hy
    exact ⟨y, by rw [List.getElem?_take_of_lt hj]; exact hy, hr⟩
  · obtain ⟨y, hy, hr⟩ := h.2 (i + 1) c' (by simpa using hc) j hj
    refine ⟨y, ?_, hr⟩
    rw [List.getElem?_drop, show tys.length + (i * tys.length + j) = (i + 1) * tys.length + j by rw [Nat.add_mul, Nat.one_mul]; omega]
    exact hy
theorem OutK.cellOf {tys : List Ty} {w0 : World} {C : List Value} {c : Nd} (h : OutK tys w0 C [c]) (j : Nat) (hj : j < tys.length) : ∃ y, C[j]? = some y ∧ Rd w0 0 y (c j) ∧ Fits (c j) tys[j] := by
  obtain ⟨y, hy, hr⟩ := h.2 0 c rfl j hj
  exact ⟨y, by rw [Nat.zero_mul, Nat.zero_add] at hy; exact hy, hr⟩
theorem OutK.ones {tys : List Ty} {w0 : World} {C : List Value} {L : List Nd} (h : OutK tys w0 C L) : ∀ u ∈ C, u.oneCell' = true := fun u hu => by
  obtain ⟨x, hx⟩ := List.getElem?_of_mem hu
  have hlt : x < C.length := (List.getElem?_eq_some_iff.1 hx).1
  have hl := h.1
  by_cases h0 : tys.length = 0
  · rw [h0, Nat.mul_zero] at hl; omega
  · have hi : x / tys.length < L.length := by rw [Nat.div_lt_iff_lt_mul (by omega)]; omega
    obtain ⟨y, hy, hr, hf⟩ := h.2 (x / tys.length) L[x / tys.length] (List.getElem?_eq_getElem hi) (x % tys.length) (Nat.mod_lt _ (by omega))
    rw [show x / tys.length * tys.length + x % tys.length = x from by rw [Nat.mul_comm]; exact Nat.div_add_mod _ _, hx] at hy
    obtain rfl : u = y := by simpa using hy
    exact hr.oneCell hf

/-- v is the list L in w, through a block that G lets in -/
def LK (tys : List Ty) (w0 w : World) (G : Nat → Prop) (v : Value) (L : List Nd) : Prop :=
  ∃ a cap C, v = .slice a L.length cap ∧ OutK tys w0 C L ∧ (L = [] ∨ ∃ g o, a = some ⟨g, o, none⟩ ∧ L.length ≤ cap ∧ G g ∧ g < w.heap.size ∧ ∀ j u, C[j]? = some u → w.cell? ⟨g, o + j, none⟩ = some u)
theorem LK.slice {tys : List Ty} {w0 w : World} {G : Nat → Prop} {v : Value} {L : List Nd} (h : LK tys w0 w G v L) : ∃ a cap, v = .slice a L.length cap := by
  obtain ⟨a, cap, _, e, _⟩ := h
  exact ⟨a, cap, e⟩
theorem LK.keep {tys : List Ty} {w0 w w' : World} {G G' : Nat → Prop} {v : Value} {L : List Nd} (h : LK tys w0 w G v L) (hs : w.heap.size ≤ w'.heap.size) (hk : ∀ g, G g → g < w.heap.size → w'.heap[g]? = w.heap[g]?)
    (hG : ∀ g, G g → g < w.heap.size → G' g) : LK tys w0 w' G' v L := by
  obtain ⟨a, cap, C, e, hC, h⟩ := h
  refine ⟨a, cap, C, e, hC, h.imp id ?_⟩
  rintro ⟨g, o, ea, hle, hg, hlt, hc⟩
  exact ⟨g, o, ea, hle, hG g hg hlt, Nat.lt_of_lt_of_le hlt hs, fun j u hj => (World.cell?_of_block (w := w) (a := ⟨g, o + j, none⟩) (hk g hg hlt)).trans (hc j u hj)⟩
theorem LK.later {tys : List Ty} {w0 w w' : World} {G : Nat → Prop} {v : Value} {L : List Nd} (h : LK tys w0 w G v L) (hb : Below w.heap.size w w') : LK tys w0 w' G v L :=
  h.keep hb.size (fun g _ hlt => hb.block g hlt) fun _ h _ => h
/-- the first element, and the rest -/
theorem LK.head {tys : List Ty} {w0 w : World} {G : Nat → Prop} {v : Value} {c : Nd} {L : List Nd} (h : LK tys w0 w G v (c :: L)) :
    ∃ g o cap ys, v = .slice (some ⟨g, o, none⟩) (L.length + 1) cap ∧ L.length + 1 ≤ cap ∧ OutK tys w0 ys [c] ∧ G g ∧ g < w.heap.size ∧ (∀ j u, ys[j]? = some u → w.cell? ⟨g, o + j, none⟩ = some u) ∧
      ∀ a cap', (L = [] ∨ a = some ⟨g, o + tys.length, none⟩ ∧ L.length ≤ cap') → LK tys w0 w G (.slice a L.length cap') L := by
  obtain ⟨a, cap, C, e, hC, h⟩ := h
  rcases h with h | ⟨g, o, rfl, hle, hg, hlt, hc⟩
  · cases h
  obtain ⟨h1, h2⟩ := hC.cons
  refine ⟨g, o, cap, _, e, hle, h1, hg, hlt, fun j u hj => ?_, fun a cap' ha => ⟨a, cap', _, rfl, h2, ?_⟩⟩
  · have hjl : j < tys.length := by
      have := (List.getElem?_eq_some_iff.1 hj).1
      rw [List.length_take] at this; omega
    rw [List.getElem?_take_of_lt hjl] at hj
    exact hc j u hj
  · refine ha.imp id ?_
    rintro ⟨rfl, hle'⟩
    refine ⟨g, _, rfl, hle', hg, hlt, fun j u hj => ?_⟩
    rw [List.getElem?_drop] at hj
    rw [Nat.add_assoc]
    exact hc _ u hj
/-- an argument's list -/
theorem Rd.lk {w : World} {n k : Nat} {f : Nat → Nat → Dat} {a : Option Addr} {m cap : Nat} {G : Nat → Prop} (h : Rd w 0 (.slice a m cap) (.sl n k f)) (hf : Fits (.sl n k f) .exprs) (hG : ∀ g, g < w.heap.size → G g) :
    LK exprTy w w G (.slice a m cap) (Dat.sl n k f).els := by
  obtain ⟨rfl, _, C, hC, hcell, hnone⟩ := h.outP hf
  have hlen : (Dat.sl m k f).els.length = m := by simp [Dat.els, Dat.len]
  obtain ⟨a', cap', e, hc, hz, h⟩ := h
  injection e with e1 e2 e3
  subst e1; subst e3
  refine ⟨a, cap, C, by rw [hlen], hC, ?_⟩
  rcases h with rfl | ⟨g, o, rfl, _, hg, _⟩
  · exact .inl rfl
  · refine .inr ⟨g, o, rfl, by rw [hlen]; exact hc, hG g hg, hg, fun j u hj => ?_⟩
    have := hcell _ rfl j u hj
    have hadd : (⟨g, o, none⟩ : Addr).add j = ⟨g, o + j, none⟩ := by unfold Addr.add; split <;> simp_all
    rw [hadd] at this
    exact this
/-- a list of the call's own -/
theorem OutE.lk {w0 wr : World} {B : Nat} {v : Value} {L : List Nd} {G : Nat → Prop} (h : OutE w0 wr B v L) (hG : ∀ g, B ≤ g → g < wr.heap.size → G g) : LK exprTy w0 wr G v L := by
  obtain ⟨C, hC, hP⟩ := h
  rcases hC.2 with ⟨e, h0⟩ | ⟨g, cap, cur, e, hg, hrow, hnc, hcm, hsz, hcur⟩
  · exact ⟨none, 0, C, by rw [e, h0], hP, .inl (List.eq_nil_of_length_eq_zero h0)⟩
  · refine ⟨_, cap, C, e, hP, .inr ⟨g, 0, rfl, hnc, hG g hg (Array.getElem?_eq_some_iff.1 hrow).1, (Array.getElem?_eq_some_iff.1 hrow).1, fun j u hj => ?_⟩⟩
    subst e
    have hj' : j < L.length * 10 := by have := (List.getElem?_eq_some_iff.1 hj).1; rw [hP.1] at this; exact this
    have := World.ownsRow.cellAt (w := wr) (base := B) (e := 56) (size := 10) (g := g) (n := L.length) (cap := cap) (xs := C) hC j hj'
    rw [Nat.zero_add, this]; exact hj

/-- an entry of the stack -/
structure Ent where
  d : Nat
  v : Value
  L : List Nd
def entCells : List Ent → List Value
  | [] => []
  | e :: r => entCells r ++ [.int .i64 (e.d : Int), e.v]
theorem entCells_len : ∀ S : List Ent, (entCells S).length = S.length * 2
  | [] => rfl
  | e :: r => by unfold entCells; rw [List.length_append, entCells_len r, List.length_cons]; simp; omega
/-- what a stack has still to come -/
def left (pre : Nat → Nd → List (Nat × Nd)) (S : List Ent) : List (Nat × Nd) := S.flatMap fun e => e.L.flatMap (pre e.d)
/-- the last entry, its two cells -/
theorem ent_cells {w : World} {B T g cap : Nat} {e : Ent} {r : List Ent} (h : w.ownsRow B T 2 (.slice (some ⟨g, 0, none⟩) (r.length + 1) cap) (r.length + 1) (entCells (e :: r))) :
    w.cell? ⟨g, r.length * 2, none⟩ = some (.int .i64 (e.d : Int)) ∧ w.cell? ⟨g, r.length * 2 + 1, none⟩ = some e.v ∧ w.frozen? ⟨g, r.length * 2 + 1, none⟩ = false := by
  have hl := entCells_len r
  refine ⟨?_, ?_, h.frozenAt _⟩
  · rw [h.cellAt _ (by omega)]
    show (entCells r ++ _)[r.length * 2]? = _
    rw [List.getElem?_append_right (by omega), hl, Nat.sub_self]; rfl
  · rw [h.cellAt _ (by omega)]
    show (entCells r ++ _)[r.length * 2 + 1]? = _
    rw [List.getElem?_append_right (by omega), hl, show r.length * 2 + 1 - r.length * 2 = 1 by omega]; rfl
theorem ent_pop {w : World} {B T g cap : Nat} {e : Ent} {r : List Ent} (h : w.ownsRow B T 2 (.slice (some ⟨g, 0, none⟩) (r.length + 1) cap) (r.length + 1) (entCells (e :: r))) :
    w.ownsRow B T 2 (.slice (some ⟨g, 0, none⟩) r.length cap) r.length (entCells r) := ownsRow_pop (entCells_len r) h
theorem ent_set {w : World} {B T g cap : Nat} {e : Ent} {r : List Ent} (h : w.ownsRow B T 2 (.slice (some ⟨g, 0, none⟩) (r.length + 1) cap) (r.length + 1) (entCells (e :: r))) (v' : Value) (L' : List Nd) :
    (w.setCell ⟨g, r.length * 2 + 1, none⟩ v').ownsRow B T 2 (.slice (some ⟨g, 0, none⟩) (r.length + 1) cap) (r.length + 1) (entCells (⟨e.d, v', L'⟩ :: r)) := by
  have h1 := (h.stored (r.length * 2 + 1) v').1
  have hl := entCells_len r
  have e1 : (entCells (e :: r)).set (r.length * 2 + 1) v' = entCells (⟨e.d, v', L'⟩ :: r) := by
    show (entCells r ++ [_, _]).set _ _ = entCells r ++ _
    rw [List.set_append_right _ _ (by omega), hl, show r.length * 2 + 1 - r.length * 2 = 1 by omega]; rfl
  rw [e1] at h1
  exact h1
theorem ownsRow_facts {w : World} {B T sz g n cap : Nat} {xs : List Value} (h : w.ownsRow B T sz (.slice (some ⟨g, 0, none⟩) n cap) n xs) : n ≤ cap ∧ B ≤ g ∧ g < w.heap.size := by
  rcases h.2 with ⟨e, _⟩ | ⟨g', cap', cur, e, hg, hrow, hnc, _⟩
  · cases e
  · cases e
    exact ⟨hnc, hg, (Array.getElem?_eq_some_iff.1 hrow).1⟩
theorem ownsRow_same {w w' : World} {B T sz g n cap : Nat} {xs : List Value} (h : w.ownsRow B T sz (.slice (some ⟨g, 0, none⟩) n cap) n xs) (hs : w'.heap[g]? = w.heap[g]?) : w'.ownsRow B T sz (.slice (some ⟨g, 0, none⟩) n cap) n xs := by
  refine ⟨h.1, h.2.imp id ?_⟩
  rintro ⟨g', cap', cur, e, hg, hrow, hr⟩
  cases e
  exact ⟨g, cap, cur, rfl, hg, hs.trans hrow, hr⟩
theorem wpListIn_append_own_at {F : Fence} {n : Nat} {P : Program} (w : World) {ops : Array Oper} {rest : List Oper} {o : Oper} {a : Act} {Q : Exit → Act → World → Prop}
    (hg : o.guard = none) (s x : Operand) (t : TypeId) (hop : o.op = Op.call { callee := Callee.builtin Builtin.append, args := #[s, x], argTypes := #[t, t] })
    (base : Nat) (e : TypeId) (i : TypeInfo) (z : Value) (size bytes : Nat) (h1 : P.underlying t = some (.slice e)) (h2 : P.info? e = some i) (h3 : i.zero = some z) (h4 : i.size = size) (h5 : i.bytes = bytes) (h6 : z.cells.size = size) (h7 : 0 < size)
    (v : Value) (k : Nat) (xs : List Value) (hs : a.eval s = v) (hown : w.ownsRow base e size v k xs) (ad : Addr) (m c : Nat) (news : List Value) (hx : a.eval x = .slice (some ad) m c) (hn : news.length = m * size)
    (hc : ∀ j u, news[j]? = some u → w.cell? (ad.add j) = some u) (h1c : ∀ u ∈ news, u.oneCell' = true) (b1 : k + m ≤ maxLen) (b2 : (k + m) * bytes ≤ 140737488355328) (b3 : base ≤ w.heap.size)
    (hK : ∀ v' w', w'.ownsRow base e size v' (k + m) (xs ++ news) → w.grownBy w' v.ownBlock → (v'.ownBlock = v.ownBlock ∨ v'.ownBlock = some w.heap.size) → wpListIn F n P ops Q rest (a.put o.dst v') w') :
    wpListIn F n P ops Q (o :: rest) a w := by
  refine wpListIn_plain hg fun K hK' => ?_
  obtain ⟨v', w', hrun, r1, r2, _, r3⟩ := run_append_own_at (P := P) w base t o.type e i z size bytes h1 h2 h3 h4 h5 h6 h7 v k xs hown ad m c news hn hc h1c b1 b2 b3
  unfold Oper.wpIn
  refine ⟨?_, ?_⟩
  · simp [Oper.about, hop, resolve, Target.leads, Sem.run_pure]
  · rw [Oper.semAt_plain F _ _ (by rw [hop]; intro c hc'; cases hc')]
    simp [execOp, hop, resolve, invoke, builtin, hs, hx, hrun, Result.andThen]
    exact hK' _ _ (hK v' w' r1 r2 r3)
theorem has_least {R : Nat → Prop} : ∀ {n : Nat}, R n → ∃ m, R m ∧ ∀ k, R k → m ≤ k := fun {n} => by
  induction n using Nat.strongRecOn with
  | _ n ih =>
    intro h
    by_cases e : ∃ k, k < n ∧ R k
    · obtain ⟨k, hk, hr⟩ := e
      exact ih k hk hr
    · exact ⟨n, h, fun k hk => Nat.le_of_not_lt fun hlt => e ⟨k, hlt, hk⟩⟩
open Classical in
/-- the least number of which R tells -/
noncomputable def least (R : Nat → Prop) : Nat := if h : ∃ m, R m ∧ ∀ k, R k → m ≤ k then Classical.choose h else 0
theorem least_le {R : Nat → Prop} {n : Nat} (h : R n) : least R ≤ n := by
  unfold least
  rw [dif_pos (has_least h)]
  exact (Classical.choose_spec (has_least h)).2 n h
theorem least_is {R : Nat → Prop} {n : Nat} (h : R n) : R (least R) := by
  unfold least
  rw [dif_pos (has_least h)]
  exact (Classical.choose_spec (has_least h)).1
end Go.Proofs.Ytfmgkinindkedaa
