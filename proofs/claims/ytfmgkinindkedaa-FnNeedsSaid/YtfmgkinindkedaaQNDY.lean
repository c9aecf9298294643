/- Joined texts: NeedS WrapdS LevI. -/
import Derived.Test.YtfmgkinindkedaaQHLevS
import Derived.Test.YtfmgkinindkedaaQNDF
import Derived.Test.YtfmgkinindkedaaQNDH
/- The model's Needs. -/
namespace Go.Proofs.Ytfmgkinindkedaa
open Go.RowKit

theorem needK_kind3 {lv k : Int} (h0 : ¬ lv = 0) (h9 : ¬ lv = 9) : needK 3 lv k = lv := by
  unfold needK; rw [if_neg (by omega), if_pos rfl]
theorem needK_zero {kind k : Int} {lv : Int} (h : lv = 0 ∨ lv = 9) : needK kind lv k = 0 := by
  unfold needK; rw [if_pos h]
theorem needK_test {k : Int} : needK 4 4 k = 5 := by
  unfold needK; rw [if_neg (by omega), if_neg (by omega), if_pos rfl, if_pos rfl]
theorem needK_first {lv : Int} (h0 : ¬ lv = 0) (h9 : ¬ lv = 9) (h4 : ¬ lv = 4) : needK 4 lv 0 = lv := by
  unfold needK; rw [if_neg (by omega), if_neg (by omega), if_pos rfl, if_neg h4, if_pos rfl]
theorem needK_next {lv k : Int} (h0 : ¬ lv = 0) (h9 : ¬ lv = 9) (h4 : ¬ lv = 4) (hk : ¬ k = 0) : needK 4 lv k = lv + 1 := by
  unfold needK; rw [if_neg (by omega), if_neg (by omega), if_pos rfl, if_neg h4, if_neg hk]
theorem needK_list {lv k : Int} (h0 : ¬ lv = 0) (h9 : ¬ lv = 9) (hk : 0 < k) : needK 7 lv k = 1 := by
  unfold needK; rw [if_neg (by omega), if_neg (by omega), if_neg (by omega), if_pos ⟨rfl, hk⟩]
theorem needK_head {lv k : Int} (h0 : ¬ lv = 0) (h9 : ¬ lv = 9) (hk : ¬ 0 < k) : needK 7 lv k = 5 := by
  unfold needK; rw [if_neg (by omega), if_neg (by omega), if_neg (by omega), if_neg (fun h => hk h.2)]
theorem needK_else {kind lv k : Int} (h0 : ¬ lv = 0) (h9 : ¬ lv = 9) (h3 : ¬ kind = 3) (h4 : ¬ kind = 4) (h7 : ¬ kind = 7) : needK kind lv k = 5 := by
  unfold needK; rw [if_neg (by omega), if_neg h3, if_neg h4, if_neg (fun h => h7 h.1)]
set_option maxRecDepth 100000 in
set_option maxHeartbeats 4000000 in
theorem needs_spec (c0 c1 : Int) (c2 : Bool) (c3 c4 : Int) (c5 c6 c7 : ByteArray) (a8 : Option Addr) (n8 p8 : Nat) (a9 : Option Addr) (n9 p9 : Nat) (k : Int) (w : World) (hn : n8 ≤ 9223372036854775807) :
    Calls Try.prog 23 #[.agg #[.int .i64 c0, .int .i64 c1, .bool c2, .int .i64 c3, .int .i64 c4, .string c5, .string c6, .string c7, .slice a8 n8 p8, .slice a9 n9 p9], .int .i64 k] w (IntE (needV c0 (levV c0 c1) n8 k) w) := by
  have HB := BX.new w 56 #[.int .i64 c0, .int .i64 c1, .bool c2, .int .i64 c3, .int .i64 c4, .string c5, .string c6, .string c7, .slice a8 n8 p8, .slice a9 n9 p9]
  have x0 := HB.box.cell (i := 0) (v := .int .i64 c0) rfl
  have x1 := HB.box.cell (i := 1) (v := .int .i64 c1) rfl
  have x2 := HB.box.cell (i := 2) (v := .bool c2) rfl
  have x3 := HB.box.cell (i := 3) (v := .int .i64 c3) rfl
  have x4 := HB.box.cell (i := 4) (v := .int .i64 c4) rfl
  have x5 := HB.box.cell (i := 5) (v := .string c5) rfl
  have x6 := HB.box.cell (i := 6) (v := .string c6) rfl
  have x7 := HB.box.cell (i := 7) (v := .string c7) rfl
  have x8 := HB.box.cell (i := 8) (v := .slice a8 n8 p8) rfl
  have x9 := HB.box.cell (i := 9) (v := .slice a9 n9 p9) rfl
  have hlv := lev_le c0 c1
  have hL := fun w => levelOf_spec c0 c1 c2 c3 c4 c5 c6 c7 a8 n8 p8 a9 n9 p9 w
  have hI := fun w => in_any k 0 ((n8 : Int) - 1) (isKid n8 k) w rfl
  unfold needV
  generalize levV c0 c1 = lv at hlv hL ⊢
  obtain ⟨hl0, hl9⟩ := hlv
  obtain ⟨V, hV⟩ : ∃ V, V = (if isKid n8 k then needK c0 lv k else 0) := ⟨_, rfl⟩
  rw [← hV]
  have HV := Lib.hid hV
  clear hV
  go_enter Try.func23, Try.ntmps23
  go_wp2_with fail
  generalize w.alloc (.cells #[.int .i64 c0, .int .i64 c1, .bool c2, .int .i64 c3, .int .i64 c4, .string c5, .string c6, .string c7, .slice a8 n8 p8, .slice a9 n9 p9] 56) = v0 at HB x0 x1 x2 x3 x4 x5 x6 x7 x8 x9 ⊢
  refine (hL _).mono ?_
  rintro e w1 ⟨rfl, hb⟩
  clear x0 x1 x2 x3 x4 x5 x6 x7 x8 x9 hL
  have H := HB.next hb
  clear hb HB
  have x0 := H.box.cell (i := 0) (v := .int .i64 c0) rfl
  have x8 := H.box.cell (i := 8) (v := .slice a8 n8 p8) rfl
  cases hk : isKid n8 k
  · rw [hk] at hI
    have HK := Lib.hid hk
    clear hk
    go_wp2_with fail
    refine (hI _).mono ?_
    rintro e w2 ⟨rfl, rfl⟩
    go_wp2_with fail
    go_ret
    exact ⟨ret_i64 (by rw [HV.out, HK.out]; rfl), H.b⟩
  · rw [hk] at hI
    have HK := Lib.hid hk
    clear hk
    by_cases h0 : lv = 0
    · subst h0
      go_wp2_with fail
      refine (hI _).mono ?_
      rintro e w2 ⟨rfl, rfl⟩
      go_wp2_with fail
      go_ret
      exact ⟨ret_i64 (by rw [HV.out, HK.out, if_pos rfl, needK_zero (.inl rfl)]), H.b⟩
    by_cases h9 : lv = 9
    · subst h9
      go_wp2_with fail
      refine (hI _).mono ?_
      rintro e w2 ⟨rfl, rfl⟩
      go_wp2_with fail
      go_ret
      exact ⟨ret_i64 (by rw [HV.out, HK.out, if_pos rfl, needK_zero (.inr rfl)]), H.b⟩
    have d0 : (lv == 0) = false := by simpa using h0
    have d9 : (lv == 9) = false := by simpa using h9
    by_cases h3 : c0 = 3
    · subst h3
      go_wp2_with fail
      refine (hI _).mono ?_
      rintro e w2 ⟨rfl, rfl⟩
      go_wp2_with fail
      go_ret
      exact ⟨ret_i64 (by rw [HV.out, HK.out, if_pos rfl, needK_kind3 h0 h9]), H.b⟩
    by_cases h4 : c0 = 4
    · subst h4
      clear h3
      by_cases h4 : lv = 4
      · subst h4
        clear d0 d9
        go_wp2_with fail
        refine (hI _).mono ?_
        rintro e w2 ⟨rfl, rfl⟩
        go_wp2_with fail
        go_ret
        exact ⟨ret_i64 (by rw [HV.out, HK.out, if_pos rfl, needK_test]), H.b⟩
      · by_cases hk0 : k = 0
        · subst hk0
          go_wp2_with fail
          refine (hI _).mono ?_
          rintro e w2 ⟨rfl, rfl⟩
          go_wp2_with fail
          go_ret
          exact ⟨ret_i64 (by rw [HV.out, HK.out, if_pos rfl, needK_first h0 h9 h4]), H.b⟩
        · skip
          go_wp2_with fail
          refine (hI _).mono ?_
          rintro e w2 ⟨rfl, rfl⟩
          go_wp2_with fail
          go_ret
          exact ⟨ret_i64 (by rw [HV.out, HK.out, if_pos rfl, needK_next h0 h9 h4 hk0]), H.b⟩
    by_cases h7 : c0 = 7
    · subst h7
      clear h3 h4
      by_cases hk0 : 0 < k
      · skip
        go_wp2_with fail
        refine (hI _).mono ?_
        rintro e w2 ⟨rfl, rfl⟩
        go_wp2_with fail
        go_ret
        exact ⟨ret_i64 (by rw [HV.out, HK.out, if_pos rfl, needK_list h0 h9 hk0]), H.b⟩
      · skip
        go_wp2_with fail
        refine (hI _).mono ?_
        rintro e w2 ⟨rfl, rfl⟩
        go_wp2_with fail
        go_ret
        exact ⟨ret_i64 (by rw [HV.out, HK.out, if_pos rfl, needK_head h0 h9 (by omega)]), H.b⟩
    go_wp2_with fail
    refine (hI _).mono ?_
    rintro e w2 ⟨rfl, rfl⟩
    go_wp2_with fail
    go_ret
    exact ⟨ret_i64 (by rw [HV.out, HK.out, if_pos rfl, needK_else h0 h9 h3 h4 h7]), H.b⟩
end Go.Proofs.Ytfmgkinindkedaa

/- The model's Wrapped. -/
namespace Go.Proofs.Ytfmgkinindkedaa
open Go.RowKit

theorem isKid_true {n : Nat} {k : Int} (h : isKid n k = true) : ∃ j : Nat, k = (j : Int) ∧ j < n := by
  have := of_decide_eq_true h
  exact ⟨k.toNat, by omega, by omega⟩
/-- whether one Kid is wrapped, by the cells -/
theorem wrapB_is {c : Nd} {c0 c1 : Int} {n8 : Nat} {f8 : Nat → Nat → Dat} (e0 : c 0 = .v (.int .i64 c0)) (e1 : c 1 = .v (.int .i64 c1)) (e8 : c 8 = .sl n8 10 f8) (k : Int) :
    wrapB c k = (isKid n8 k && decide (levV (f8 k.toNat 0).num (f8 k.toNat 1).num < needV c0 (levV c0 c1) n8 k)) := by
  unfold wrapB needs lev
  rw [e8, num_is e0, num_is e1]; rfl
theorem needV_le (kind lv : Int) (n : Nat) (k : Int) (h0 : 0 ≤ lv) (h9 : lv ≤ 9) : 0 ≤ needV kind lv n k ∧ needV kind lv n k ≤ 9 := by
  unfold needV needK
  repeat' split
  all_goals omega
set_option maxRecDepth 100000 in
set_option maxHeartbeats 4000000 in
theorem wrapped_spec (c : Nd) (c0 c1 : Int) (c2 : Bool) (c3 c4 : Int) (c5 c6 c7 : ByteArray) (a8 : Option Addr) (n8 p8 : Nat) (a9 : Option Addr) (n9 p9 : Nat) (k : Int) (w : World) (e0 : c 0 = .v (.int .i64 c0)) (e1 : c 1 = .v (.int .i64 c1)) (f8 : Nat → Nat → Dat) (e8 : c 8 = .sl n8 10 f8) (r8 : Rd w 0 (.slice a8 n8 p8) (.sl n8 10 f8)) (q8 : Fits (.sl n8 10 f8) .exprs) :
    Calls Try.prog 25 #[.agg #[.int .i64 c0, .int .i64 c1, .bool c2, .int .i64 c3, .int .i64 c4, .string c5, .string c6, .string c7, .slice a8 n8 p8, .slice a9 n9 p9], .int .i64 k] w (BoolE (wrapB c k) w) := by
  rw [wrapB_is e0 e1 e8]
  clear e0 e1 e8
  have hn8 := q8.2.1
  have HB := BX.new w 56 #[.int .i64 c0, .int .i64 c1, .bool c2, .int .i64 c3, .int .i64 c4, .string c5, .string c6, .string c7, .slice a8 n8 p8, .slice a9 n9 p9]
  have x0 := HB.box.cell (i := 0) (v := .int .i64 c0) rfl
  have x1 := HB.box.cell (i := 1) (v := .int .i64 c1) rfl
  have x2 := HB.box.cell (i := 2) (v := .bool c2) rfl
  have x3 := HB.box.cell (i := 3) (v := .int .i64 c3) rfl
  have x4 := HB.box.cell (i := 4) (v := .int .i64 c4) rfl
  have x5 := HB.box.cell (i := 5) (v := .string c5) rfl
  have x6 := HB.box.cell (i := 6) (v := .string c6) rfl
  have x7 := HB.box.cell (i := 7) (v := .string c7) rfl
  have x8 := HB.box.cell (i := 8) (v := .slice a8 n8 p8) rfl
  have x9 := HB.box.cell (i := 9) (v := .slice a9 n9 p9) rfl
  have hN := fun w => needs_spec c0 c1 c2 c3 c4 c5 c6 c7 a8 n8 p8 a9 n9 p9 k w hn8
  have hI := fun w => in_any k 0 ((n8 : Int) - 1) (isKid n8 k) w rfl
  have hlv := lev_le c0 c1
  have hnb := needV_le c0 (levV c0 c1) n8 k hlv.1 hlv.2
  generalize needV c0 (levV c0 c1) n8 k = N at hN hnb ⊢
  clear hlv
  obtain ⟨R, hR⟩ : ∃ R, R = (isKid n8 k && decide (levV (f8 k.toNat 0).num (f8 k.toNat 1).num < N)) := ⟨_, rfl⟩
  rw [← hR]
  have HR := Lib.hid hR
  clear hR
  go_enter Try.func25, Try.ntmps25
  go_wp2_with fail
  have hbw := HB.b
  generalize w.alloc (.cells #[.int .i64 c0, .int .i64 c1, .bool c2, .int .i64 c3, .int .i64 c4, .string c5, .string c6, .string c7, .slice a8 n8 p8, .slice a9 n9 p9] 56) = W at HB hbw x0 x1 x2 x3 x4 x5 x6 x7 x8 x9 ⊢
  cases hk : isKid n8 k
  · rw [hk] at hI
    have hr : R = false := by rw [HR.out, hk]; rfl
    subst hr
    clear hk hN hnb HR
    replace x0 := lat_cell x0
    replace x1 := lat_cell x1
    replace x2 := lat_cell x2
    replace x3 := lat_cell x3
    replace x4 := lat_cell x4
    replace x5 := lat_cell x5
    replace x6 := lat_cell x6
    replace x7 := lat_cell x7
    replace x8 := lat_cell x8
    replace x9 := lat_cell x9
    refine region_lat (by kernel_rfl) (by kernel_rfl) ?_
    iterate 5 go_big_quiet_step (fail)
    go_big_quiet_step ((refine (hI _).mono ?_; rintro e w'' ⟨rfl, rfl⟩; exact ⟨rfl, ⟨_, rfl⟩⟩))
    iterate 13 go_big_quiet_step (fail)
    refine wpQuiet_nil ?_
    rintro _ ⟨nq, rfl⟩
    have hbq := hbw.trans ((lat_below W nq).mono hbw.size)
    go_wp2_with fail
    go_ret
    exact ⟨rfl, hbq⟩
  · obtain ⟨j, rfl, hj⟩ := isKid_true hk
    rw [hk] at hI
    have HR2 : Hid (R = decide (levV (f8 j 0).num (f8 j 1).num < N)) := by show R = _; rw [HR.out, hk]; rfl
    clear hk HR
    obtain ⟨g, o, rfl, -, hg, y0, y1, y2, y3, y4, y5, y6, y7, y8, y9, ⟨z0, z1, z2, z3, z4, z5, z6, z7, z8, z9⟩, ⟨⟨e0, -⟩, ⟨e1, -⟩, -, -, -, -, -, -, ⟨s8, t8⟩, ⟨s9, t9⟩⟩⟩ := row_exprs (r8.later hbw) q8 hj
    obtain ⟨ka, kn, kp, rfl⟩ := s8.slice_of t8 rfl
    obtain ⟨la, ln, lp, rfl⟩ := s9.slice_of t9 rfl
    have hj2 : (j : Int) < (n8 : Int) := by omega
    have hL := fun w => levelOf_spec y0 y1 y2 y3 y4 y5 y6 y7 ka kn kp la ln lp w
    have hlb := lev_le y0 y1
    have hR3 : R = decide (levV y0 y1 < N) := by rw [HR2.out, num_is e0, num_is e1]
    clear HR2
    generalize levV y0 y1 = L at hL hlb hR3
    clear e0 e1 s8 t8 s9 t9
    replace x0 := lat_cell x0
    replace x1 := lat_cell x1
    replace x2 := lat_cell x2
    replace x3 := lat_cell x3
    replace x4 := lat_cell x4
    replace x5 := lat_cell x5
    replace x6 := lat_cell x6
    replace x7 := lat_cell x7
    replace x8 := lat_cell x8
    replace x9 := lat_cell x9
    replace z0 := lat_cell z0
    replace z1 := lat_cell z1
    replace z2 := lat_cell z2
    replace z3 := lat_cell z3
    replace z4 := lat_cell z4
    replace z5 := lat_cell z5
    replace z6 := lat_cell z6
    replace z7 := lat_cell z7
    replace z8 := lat_cell z8
    replace z9 := lat_cell z9
    cases R
    all_goals
      have hV2 := hR3.symm
      clear hR3
      refine region_lat (by kernel_rfl) (by kernel_rfl) ?_
      iterate 5 go_big_quiet_step (fail)
      go_big_quiet_step ((refine (hI _).mono ?_; rintro e w'' ⟨rfl, rfl⟩; exact ⟨rfl, ⟨_, rfl⟩⟩))
      iterate 6 go_big_quiet_step (fail)
      go_big_quiet_step ((refine (hL _).mono ?_; rintro e w'' ⟨rfl, hb''⟩; exact ⟨rfl, lat_to hb''⟩))
      iterate 2 go_big_quiet_step (fail)
      go_big_quiet_step ((refine (hN _).mono ?_; rintro e w'' ⟨rfl, hb''⟩; exact ⟨rfl, lat_to hb''⟩))
      iterate 3 go_big_quiet_step (fail)
      refine wpQuiet_nil ?_
      rintro _ ⟨nq, rfl⟩
      have hbq := hbw.trans ((lat_below W nq).mono hbw.size)
      go_wp2_with fail
      go_ret
      exact ⟨rfl, hbq⟩
end Go.Proofs.Ytfmgkinindkedaa

/- The program's LevelOf, Needs and Wrapped. -/
namespace Go.Proofs.Ytfmgkinindkedaa
open Go.RowKit

set_option maxRecDepth 100000 in
set_option maxHeartbeats 4000000 in
theorem binaryLevel_any (op : Int) (w : World) : Calls Try.prog 65 #[.int .i64 op] w (PureE (.int .i64 (binLev op)) w) := by
  by_cases h : 1 ≤ op ∧ op ≤ 14
  · rcases bin_cases h.1 h.2 with rfl | rfl | rfl | rfl | rfl | rfl | rfl | rfl | rfl | rfl | rfl | rfl | rfl | rfl
    all_goals
      clear h
      go_enter Try.func65, Try.ntmps65
      go_wp2_with fail
      go_ret
      exact ⟨rfl, rfl⟩
  · rw [binLev_no h]
    have h1 : ¬ op = 1 := by omega
    have h2 : ¬ op = 2 := by omega
    have h3 : ¬ op = 3 := by omega
    have h4 : ¬ op = 4 := by omega
    have h5 : ¬ op = 5 := by omega
    have h6 : ¬ op = 6 := by omega
    have h7 : ¬ op = 7 := by omega
    have h8 : ¬ op = 8 := by omega
    have h9 : ¬ op = 9 := by omega
    have h10 : ¬ op = 10 := by omega
    have h11 : ¬ op = 11 := by omega
    have h12 : ¬ op = 12 := by omega
    have h13 : ¬ op = 13 := by omega
    have h14 : ¬ op = 14 := by omega
    clear h
    go_enter Try.func65, Try.ntmps65
    go_wp2_with fail
    go_ret
    exact ⟨rfl, rfl⟩
set_option maxRecDepth 100000 in
set_option maxHeartbeats 4000000 in
theorem unaryLevel_any (op : Int) (w : World) : Calls Try.prog 66 #[.int .i64 op] w (PureE (.int .i64 (unLev op)) w) := by
  by_cases h1 : op = 15
  · subst h1
    go_enter Try.func66, Try.ntmps66
    go_wp2_with fail
    go_ret
    exact ⟨rfl, rfl⟩
  · by_cases h2 : op = 16
    · subst h2
      go_enter Try.func66, Try.ntmps66
      go_wp2_with fail
      go_ret
      exact ⟨rfl, rfl⟩
    · rw [unLev_no h1 h2]
      go_enter Try.func66, Try.ntmps66
      go_wp2_with fail
      go_ret
      exact ⟨rfl, rfl⟩
set_option maxRecDepth 100000 in
set_option maxHeartbeats 4000000 in
theorem levelOf_impl (c0 c1 : Int) (c2 : Bool) (c3 c4 : Int) (c5 c6 c7 : ByteArray) (a8 : Option Addr) (n8 p8 : Nat) (a9 : Option Addr) (n9 p9 : Nat) (w : World) :
    Calls Try.prog 21 #[.agg #[.int .i64 c0, .int .i64 c1, .bool c2, .int .i64 c3, .int .i64 c4, .string c5, .string c6, .string c7, .slice a8 n8 p8, .slice a9 n9 p9]] w (IntE (levV c0 c1) w) := by
  have HB := BX.new w 56 #[.int .i64 c0, .int .i64 c1, .bool c2, .int .i64 c3, .int .i64 c4, .string c5, .string c6, .string c7, .slice a8 n8 p8, .slice a9 n9 p9]
  have x0 := HB.box.cell (i := 0) (v := .int .i64 c0) rfl
  have x1 := HB.box.cell (i := 1) (v := .int .i64 c1) rfl
  by_cases h : 1 ≤ c0 ∧ c0 ≤ 9
  · rcases kind_cases h.1 h.2 with rfl | rfl | rfl | rfl | rfl | rfl | rfl | rfl | rfl
    all_goals clear h
    case inr.inr.inl =>
      show Calls _ _ _ _ (IntE (unLev c1) w)
      go_enter Try.func21, Try.ntmps21
      go_wp2_with fail
      refine (unaryLevel_any c1 _).mono ?_
      rintro e w1 ⟨rfl, rfl⟩
      go_wp2_with fail
      go_ret
      exact ⟨rfl, HB.b⟩
    case inr.inr.inr.inl =>
      show Calls _ _ _ _ (IntE (binLev c1) w)
      go_enter Try.func21, Try.ntmps21
      go_wp2_with fail
      refine (binaryLevel_any c1 _).mono ?_
      rintro e w1 ⟨rfl, rfl⟩
      go_wp2_with fail
      go_ret
      exact ⟨rfl, HB.b⟩
    all_goals
      go_enter Try.func21, Try.ntmps21
      go_wp2_with fail
      go_ret
      exact ⟨rfl, HB.b⟩
  · rw [levV_no h]
    have h1 : ¬ c0 = 1 := by omega
    have h2 : ¬ c0 = 2 := by omega
    have h3 : ¬ c0 = 3 := by omega
    have h4 : ¬ c0 = 4 := by omega
    have h5 : ¬ c0 = 5 := by omega
    have h6 : ¬ c0 = 6 := by omega
    have h7 : ¬ c0 = 7 := by omega
    have h8 : ¬ c0 = 8 := by omega
    have h9 : ¬ c0 = 9 := by omega
    clear h
    go_enter Try.func21, Try.ntmps21
    go_wp2_with fail
    go_ret
    exact ⟨rfl, HB.b⟩
set_option maxRecDepth 100000 in
set_option maxHeartbeats 4000000 in
theorem hasKid_any (c0 c1 : Int) (c2 : Bool) (c3 c4 : Int) (c5 c6 c7 : ByteArray) (a8 : Option Addr) (n8 p8 : Nat) (a9 : Option Addr) (n9 p9 : Nat) (k : Int) (w : World) :
    Calls Try.prog 69 #[.agg #[.int .i64 c0, .int .i64 c1, .bool c2, .int .i64 c3, .int .i64 c4, .string c5, .string c6, .string c7, .slice a8 n8 p8, .slice a9 n9 p9], .int .i64 k] w (BoolE (isKid n8 k) w) := by
  have HB := BX.new w 56 #[.int .i64 c0, .int .i64 c1, .bool c2, .int .i64 c3, .int .i64 c4, .string c5, .string c6, .string c7, .slice a8 n8 p8, .slice a9 n9 p9]
  have x8 := HB.box.cell (i := 8) (v := .slice a8 n8 p8) rfl
  by_cases h0 : 0 ≤ k
  · by_cases h1 : k < (n8 : Int)
    · have e : isKid n8 k = true := decide_eq_true ⟨h0, by omega⟩
      rw [e]
      go_enter Try.func69, Try.ntmps69
      go_wp2_with fail
      go_ret
      exact ⟨rfl, HB.b⟩
    · have e : isKid n8 k = false := decide_eq_false fun h => by omega
      rw [e]
      go_enter Try.func69, Try.ntmps69
      go_wp2_with fail
      go_ret
      exact ⟨rfl, HB.b⟩
  · have e : isKid n8 k = false := decide_eq_false fun h => by omega
    rw [e]
    go_enter Try.func69, Try.ntmps69
    go_wp2_with fail
    go_ret
    exact ⟨rfl, HB.b⟩
/-- the functions, by level -/
def byLevel : Array Value := #[.func (.func 109) #[] #[], .func (.func 110) #[] #[], .func (.func 110) #[] #[], .func (.func 111) #[] #[], .func (.func 112) #[] #[], .func (.func 110) #[] #[], .func (.func 110) #[] #[], .func (.func 110) #[] #[], .func (.func 111) #[] #[], .func (.func 109) #[] #[]]
set_option maxRecDepth 100000 in
set_option maxHeartbeats 4000000 in
theorem needsNothing_any (c0 c1 : Int) (c2 : Bool) (c3 c4 : Int) (c5 c6 c7 : ByteArray) (a8 : Option Addr) (n8 p8 : Nat) (a9 : Option Addr) (n9 p9 : Nat) (k : Int) (w : World) :
    Calls Try.prog 109 #[.agg #[.int .i64 c0, .int .i64 c1, .bool c2, .int .i64 c3, .int .i64 c4, .string c5, .string c6, .string c7, .slice a8 n8 p8, .slice a9 n9 p9], .int .i64 k] w (IntE 0 w) := by
  have HB := BX.new w 56 #[.int .i64 c0, .int .i64 c1, .bool c2, .int .i64 c3, .int .i64 c4, .string c5, .string c6, .string c7, .slice a8 n8 p8, .slice a9 n9 p9]
  go_enter Try.func109, Try.ntmps109
  go_wp2_with fail
  go_ret
  exact ⟨rfl, HB.b⟩
set_option maxRecDepth 100000 in
set_option maxHeartbeats 4000000 in
theorem needsOfPrefix_any (c0 c1 : Int) (c2 : Bool) (c3 c4 : Int) (c5 c6 c7 : ByteArray) (a8 : Option Addr) (n8 p8 : Nat) (a9 : Option Addr) (n9 p9 : Nat) (k : Int) (w : World) :
    Calls Try.prog 111 #[.agg #[.int .i64 c0, .int .i64 c1, .bool c2, .int .i64 c3, .int .i64 c4, .string c5, .string c6, .string c7, .slice a8 n8 p8, .slice a9 n9 p9], .int .i64 k] w (IntE (levV c0 c1) w) := by
  have HB := BX.new w 56 #[.int .i64 c0, .int .i64 c1, .bool c2, .int .i64 c3, .int .i64 c4, .string c5, .string c6, .string c7, .slice a8 n8 p8, .slice a9 n9 p9]
  have x0 := HB.box.cell (i := 0) (v := .int .i64 c0) rfl
  have x1 := HB.box.cell (i := 1) (v := .int .i64 c1) rfl
  have x2 := HB.box.cell (i := 2) (v := .bool c2) rfl
  have x3 := HB.box.cell (i := 3) (v := .int .i64 c3) rfl
  have x4 := HB.box.cell (i := 4) (v := .int .i64 c4) rfl
  have x5 := HB.box.cell (i := 5) (v := .string c5) rfl
  have x6 := HB.box.cell (i := 6) (v := .string c6) rfl
  have x7 := HB.box.cell (i := 7) (v := .string c7) rfl
  have x8 := HB.box.cell (i := 8) (v := .slice a8 n8 p8) rfl
  have x9 := HB.box.cell (i := 9) (v := .slice a9 n9 p9) rfl
  have hL := fun w => levelOf_impl c0 c1 c2 c3 c4 c5 c6 c7 a8 n8 p8 a9 n9 p9 w
  generalize levV c0 c1 = lv at hL ⊢
  go_enter Try.func111, Try.ntmps111
  go_wp2_with fail
  refine (hL _).mono ?_
  rintro e w1 ⟨rfl, hb⟩
  have H := HB.next hb
  go_wp2_with fail
  go_ret
  exact ⟨rfl, H.b⟩
set_option maxRecDepth 100000 in
set_option maxHeartbeats 4000000 in
theorem needsOfChain_any (c0 c1 : Int) (c2 : Bool) (c3 c4 : Int) (c5 c6 c7 : ByteArray) (a8 : Option Addr) (n8 p8 : Nat) (a9 : Option Addr) (n9 p9 : Nat) (k : Int) (w : World) (hk : 0 ≤ k) (hlv : 0 ≤ levV c0 c1 ∧ levV c0 c1 ≤ 9) :
    Calls Try.prog 110 #[.agg #[.int .i64 c0, .int .i64 c1, .bool c2, .int .i64 c3, .int .i64 c4, .string c5, .string c6, .string c7, .slice a8 n8 p8, .slice a9 n9 p9], .int .i64 k] w (IntE (if k = 0 then levV c0 c1 else levV c0 c1 + 1) w) := by
  have HB := BX.new w 56 #[.int .i64 c0, .int .i64 c1, .bool c2, .int .i64 c3, .int .i64 c4, .string c5, .string c6, .string c7, .slice a8 n8 p8, .slice a9 n9 p9]
  have x0 := HB.box.cell (i := 0) (v := .int .i64 c0) rfl
  have x1 := HB.box.cell (i := 1) (v := .int .i64 c1) rfl
  have x2 := HB.box.cell (i := 2) (v := .bool c2) rfl
  have x3 := HB.box.cell (i := 3) (v := .int .i64 c3) rfl
  have x4 := HB.box.cell (i := 4) (v := .int .i64 c4) rfl
  have x5 := HB.box.cell (i := 5) (v := .string c5) rfl
  have x6 := HB.box.cell (i := 6) (v := .string c6) rfl
  have x7 := HB.box.cell (i := 7) (v := .string c7) rfl
  have x8 := HB.box.cell (i := 8) (v := .slice a8 n8 p8) rfl
  have x9 := HB.box.cell (i := 9) (v := .slice a9 n9 p9) rfl
  have hL := fun w => levelOf_impl c0 c1 c2 c3 c4 c5 c6 c7 a8 n8 p8 a9 n9 p9 w
  generalize levV c0 c1 = lv at hL hlv ⊢
  obtain ⟨hl0, hl9⟩ := hlv
  by_cases h0 : k = 0
  · subst h0
    rw [if_pos rfl]
    go_enter Try.func110, Try.ntmps110
    go_wp2_with fail
    refine (hL _).mono ?_
    rintro e w1 ⟨rfl, hb⟩
    have H := HB.next hb
    go_wp2_with fail
    go_ret
    exact ⟨ret_i64 (by omega), H.b⟩
  · rw [if_neg h0]
    go_enter Try.func110, Try.ntmps110
    go_wp2_with fail
    refine (hL _).mono ?_
    rintro e w1 ⟨rfl, hb⟩
    have H := HB.next hb
    go_wp2_with fail
    all_goals
      go_ret
      exact ⟨ret_i64 (by omega), H.b⟩
set_option maxRecDepth 100000 in
set_option maxHeartbeats 4000000 in
theorem needsOfTest_any (c0 c1 : Int) (c2 : Bool) (c3 c4 : Int) (c5 c6 c7 : ByteArray) (a8 : Option Addr) (n8 p8 : Nat) (a9 : Option Addr) (n9 p9 : Nat) (k : Int) (w : World) :
    Calls Try.prog 112 #[.agg #[.int .i64 c0, .int .i64 c1, .bool c2, .int .i64 c3, .int .i64 c4, .string c5, .string c6, .string c7, .slice a8 n8 p8, .slice a9 n9 p9], .int .i64 k] w (IntE (if c0 = 7 ∧ 0 < k then 1 else 5) w) := by
  have HB := BX.new w 56 #[.int .i64 c0, .int .i64 c1, .bool c2, .int .i64 c3, .int .i64 c4, .string c5, .string c6, .string c7, .slice a8 n8 p8, .slice a9 n9 p9]
  have x0 := HB.box.cell (i := 0) (v := .int .i64 c0) rfl
  by_cases h7 : c0 = 7
  · subst h7
    by_cases h0 : 0 < k
    · rw [if_pos ⟨rfl, h0⟩]
      go_enter Try.func112, Try.ntmps112
      go_wp2_with fail
      go_ret
      exact ⟨rfl, HB.b⟩
    · rw [if_neg fun h => h0 h.2]
      go_enter Try.func112, Try.ntmps112
      go_wp2_with fail
      go_ret
      exact ⟨rfl, HB.b⟩
  · rw [if_neg fun h => h7 h.1]
    go_enter Try.func112, Try.ntmps112
    go_wp2_with fail
    go_ret
    exact ⟨rfl, HB.b⟩
set_option maxRecDepth 100000 in
set_option maxHeartbeats 4000000 in
theorem needsByLevel_any (w : World) :
    Calls Try.prog 70 #[] w fun e w' => e = .returned (.slice (some ⟨w.heap.size, 0, none⟩) 10 10) ∧ w' = w.alloc (.cells byLevel 60) := by
  unfold byLevel
  go_enter Try.func70, Try.ntmps70
  go_wp2_with fail
  go_ret
  exact ⟨rfl, rfl⟩
set_option maxRecDepth 100000 in
set_option maxHeartbeats 4000000 in
/-- what is behind the level's function -/
theorem byLevel_at (L : Nat) (hL : L ≤ 9) : ∃ f : Nat, byLevel[L]? = some (.func (.func f) #[] #[]) ∧
    ((L = 0 ∨ L = 9) ∧ f = 109 ∨ (L = 3 ∨ L = 8) ∧ f = 111 ∨ L = 4 ∧ f = 112 ∨ (L = 1 ∨ L = 2 ∨ L = 5 ∨ L = 6 ∨ L = 7) ∧ f = 110) := by
  have h : L = 0 ∨ L = 1 ∨ L = 2 ∨ L = 3 ∨ L = 4 ∨ L = 5 ∨ L = 6 ∨ L = 7 ∨ L = 8 ∨ L = 9 := by omega
  rcases h with rfl | rfl | rfl | rfl | rfl | rfl | rfl | rfl | rfl | rfl
  all_goals exact ⟨_, rfl, by simp⟩
set_option maxRecDepth 100000 in
set_option maxHeartbeats 4000000 in
/-- the level's function, called with a Kid that there is -/
theorem needsAt_any (c0 c1 : Int) (c2 : Bool) (c3 c4 : Int) (c5 c6 c7 : ByteArray) (a8 : Option Addr) (n8 p8 : Nat) (a9 : Option Addr) (n9 p9 : Nat) (k : Int) (w : World) (hk : 0 ≤ k) (f L : Nat) (hL : levV c0 c1 = (L : Int))
    (hf : (L = 0 ∨ L = 9) ∧ f = 109 ∨ (L = 3 ∨ L = 8) ∧ f = 111 ∨ L = 4 ∧ f = 112 ∨ (L = 1 ∨ L = 2 ∨ L = 5 ∨ L = 6 ∨ L = 7) ∧ f = 110) :
    Calls Try.prog f #[.agg #[.int .i64 c0, .int .i64 c1, .bool c2, .int .i64 c3, .int .i64 c4, .string c5, .string c6, .string c7, .slice a8 n8 p8, .slice a9 n9 p9], .int .i64 k] w (IntE (needK c0 (levV c0 c1) k) w) := by
  have hc := lev_cases c0 c1
  have hl := lev_le c0 c1
  rcases hf with ⟨hL2, rfl⟩ | ⟨hL2, rfl⟩ | ⟨hL2, rfl⟩ | ⟨hL2, rfl⟩
  · rw [needK_zero (by omega)]
    exact needsNothing_any c0 c1 c2 c3 c4 c5 c6 c7 a8 n8 p8 a9 n9 p9 k w
  · have h3 : c0 = 3 := by omega
    subst h3
    rw [needK_kind3 (by omega) (by omega)]
    exact needsOfPrefix_any 3 c1 c2 c3 c4 c5 c6 c7 a8 n8 p8 a9 n9 p9 k w
  · have h : needK c0 (levV c0 c1) k = if c0 = 7 ∧ 0 < k then 1 else 5 := by
      by_cases h4 : c0 = 4
      · subst h4
        rw [show levV 4 c1 = 4 by omega, needK_test, if_neg (by omega)]
      · have h3 : ¬ c0 = 3 := by omega
        by_cases h7 : c0 = 7
        · subst h7
          by_cases h0 : 0 < k
          · rw [needK_list (by omega) (by omega) h0, if_pos ⟨rfl, h0⟩]
          · rw [needK_head (by omega) (by omega) h0, if_neg (by omega)]
        · rw [needK_else (by omega) (by omega) h3 h4 h7, if_neg (by omega)]
    rw [h]
    exact needsOfTest_any c0 c1 c2 c3 c4 c5 c6 c7 a8 n8 p8 a9 n9 p9 k w
  · have h4 : c0 = 4 := by omega
    subst h4
    have h : needK 4 (levV 4 c1) k = if k = 0 then levV 4 c1 else levV 4 c1 + 1 := by
      by_cases h0 : k = 0
      · subst h0
        rw [needK_first (by omega) (by omega) (by omega), if_pos rfl]
      · rw [needK_next (by omega) (by omega) (by omega) h0, if_neg h0]
    rw [h]
    exact needsOfChain_any 4 c1 c2 c3 c4 c5 c6 c7 a8 n8 p8 a9 n9 p9 k w hk hl
end Go.Proofs.Ytfmgkinindkedaa
