/- Joined texts: LevI. -/
import Derived.Test.YtfmgkinindkedaaQWRJ
/- The program's LevelOf, Needs and Wrapped. -/
namespace Go.Proofs.Ytfmgkinindkedaa
open Go.RowKit

set_option maxRecDepth 100000 in
set_option maxHeartbeats 4000000 in
theorem binaryLevel_any (op : Int) (w : World) : Calls Try.prog 65 #[.int .i64 op] w (PureE (.int .i64 (binLev op)) w) := by
  by_cases h : 1 ≤ op ∧ op ≤ 14
  · rcases bin_cases h.1 h.2 with rfl | rfl | rfl | rfl | rfl | rfl | rfl | rfl | rfl | rfl | rfl | rfl | rfl | rfl
    all_goals
      clear h
      go_enter Try.func65, Try.ntmps65
      go_wp2_with fail
      go_ret
      exact ⟨rfl, rfl⟩
  · rw [binLev_no h]
    have h1 : ¬ op = 1 := by omega
    have h2 : ¬ op = 2 := by omega
    have h3 : ¬ op = 3 := by omega
    have h4 : ¬ op = 4 := by omega
    have h5 : ¬ op = 5 := by omega
    have h6 : ¬ op = 6 := by omega
    have h7 : ¬ op = 7 := by omega
    have h8 : ¬ op = 8 := by omega
    have h9 : ¬ op = 9 := by omega
    have h10 : ¬ op = 10 := by omega
    have h11 : ¬ op = 11 := by omega
    have h12 : ¬ op = 12 := by omega
    have h13 : ¬ op = 13 := by omega
    have h14 : ¬ op = 14 := by omega
    clear h
    go_enter Try.func65, Try.ntmps65
    go_wp2_with fail
    go_ret
    exact ⟨rfl, rfl⟩
set_option maxRecDepth 100000 in
set_option maxHeartbeats 4000000 in
theorem unaryLevel_any (op : Int) (w : World) : Calls Try.prog 66 #[.int .i64 op] w (PureE (.int .i64 (unLev op)) w) := by
  by_cases h1 : op = 15
  · subst h1
    go_enter Try.func66, Try.ntmps66
    go_wp2_with fail
    go_ret
    exact ⟨rfl, rfl⟩
  · by_cases h2 : op = 16
    · subst h2
      go_enter Try.func66, Try.ntmps66
      go_wp2_with fail
      go_ret
      exact ⟨rfl, rfl⟩
    · rw [unLev_no h1 h2]
      go_enter Try.func66, Try.ntmps66
      go_wp2_with fail
      go_ret
      exact ⟨rfl, rfl⟩
set_option maxRecDepth 100000 in
set_option maxHeartbeats 4000000 in
theorem levelOf_impl (c0 c1 : Int) (c2 : Bool) (c3 c4 : Int) (c5 c6 c7 : ByteArray) (a8 : Option Addr) (n8 p8 : Nat) (a9 : Option Addr) (n9 p9 : Nat) (w : World) :
    Calls Try.prog 21 #[.agg #[.int .i64 c0, .int .i64 c1, .bool c2, .int .i64 c3, .int .i64 c4, .string c5, .string c6, .string c7, .slice a8 n8 p8, .slice a9 n9 p9]] w (IntE (levV c0 c1) w) := by
  have HB := BX.new w 56 #[.int .i64 c0, .int .i64 c1, .bool c2, .int .i64 c3, .int .i64 c4, .string c5, .string c6, .string c7, .slice a8 n8 p8, .slice a9 n9 p9]
  have x0 := HB.box.cell (i := 0) (v := .int .i64 c0) rfl
  have x1 := HB.box.cell (i := 1) (v := .int .i64 c1) rfl
  by_cases h : 1 ≤ c0 ∧ c0 ≤ 9
  · rcases kind_cases h.1 h.2 with rfl | rfl | rfl | rfl | rfl | rfl | rfl | rfl | rfl
    all_goals clear h
    case inr.inr.inl =>
      show Calls _ _ _ _ (IntE (unLev c1) w)
      go_enter Try.func21, Try.ntmps21
      go_wp2_with fail
      refine (unaryLevel_any c1 _).mono ?_
      rintro e w1 ⟨rfl, rfl⟩
      go_wp2_with fail
      go_ret
      exact ⟨rfl, HB.b⟩
    case inr.inr.inr.inl =>
      show Calls _ _ _ _ (IntE (binLev c1) w)
      go_enter Try.func21, Try.ntmps21
      go_wp2_with fail
      refine (binaryLevel_any c1 _).mono ?_
      rintro e w1 ⟨rfl, rfl⟩
      go_wp2_with fail
      go_ret
      exact ⟨rfl, HB.b⟩
    all_goals
      go_enter Try.func21, Try.ntmps21
      go_wp2_with fail
      go_ret
      exact ⟨rfl, HB.b⟩
  · rw [levV_no h]
    have h1 : ¬ c0 = 1 := by omega
    have h2 : ¬ c0 = 2 := by omega
    have h3 : ¬ c0 = 3 := by omega
    have h4 : ¬ c0 = 4 := by omega
    have h5 : ¬ c0 = 5 := by omega
    have h6 : ¬ c0 = 6 := by omega
    have h7 : ¬ c0 = 7 := by omega
    have h8 : ¬ c0 = 8 := by omega
    have h9 : ¬ c0 = 9 := by omega
    clear h
    go_enter Try.func21, Try.ntmps21
    go_wp2_with fail
    go_ret
    exact ⟨rfl, HB.b⟩
set_option maxRecDepth 100000 in
set_option maxHeartbeats 4000000 in
theorem hasKid_any (c0 c1 : Int) (c2 : Bool) (c3 c4 : Int) (c5 c6 c7 : ByteArray) (a8 : Option Addr) (n8 p8 : Nat) (a9 : Option Addr) (n9 p9 : Nat) (k : Int) (w : World) :
    Calls Try.prog 69 #[.agg #[.int .i64 c0, .int .i64 c1, .bool c2, .int .i64 c3, .int .i64 c4, .string c5, .string c6, .string c7, .slice a8 n8 p8, .slice a9 n9 p9], .int .i64 k] w (BoolE (isKid n8 k) w) := by
  have HB := BX.new w 56 #[.int .i64 c0, .int .i64 c1, .bool c2, .int .i64 c3, .int .i64 c4, .string c5, .string c6, .string c7, .slice a8 n8 p8, .slice a9 n9 p9]
  have x8 := HB.box.cell (i := 8) (v := .slice a8 n8 p8) rfl
  by_cases h0 : 0 ≤ k
  · by_cases h1 : k < (n8 : Int)
    · have e : isKid n8 k = true := decide_eq_true ⟨h0, by omega⟩
      rw [e]
      go_enter Try.func69, Try.ntmps69
      go_wp2_with fail
      go_ret
      exact ⟨rfl, HB.b⟩
    · have e : isKid n8 k = false := decide_eq_false fun h => by omega
      rw [e]
      go_enter Try.func69, Try.ntmps69
      go_wp2_with fail
      go_ret
      exact ⟨rfl, HB.b⟩
  · have e : isKid n8 k = false := decide_eq_false fun h => by omega
    rw [e]
    go_enter Try.func69, Try.ntmps69
    go_wp2_with fail
    go_ret
    exact ⟨rfl, HB.b⟩
/-- the functions, by level -/
def byLevel : Array Value := #[.func (.func 109) #[] #[], .func (.func 110) #[] #[], .func (.func 110) #[] #[], .func (.func 111) #[] #[], .func (.func 112) #[] #[], .func (.func 110) #[] #[], .func (.func 110) #[] #[], .func (.func 110) #[] #[], .func (.func 111) #[] #[], .func (.func 109) #[] #[]]
set_option maxRecDepth 100000 in
set_option maxHeartbeats 4000000 in
theorem needsNothing_any (c0 c1 : Int) (c2 : Bool) (c3 c4 : Int) (c5 c6 c7 : ByteArray) (a8 : Option Addr) (n8 p8 : Nat) (a9 : Option Addr) (n9 p9 : Nat) (k : Int) (w : World) :
    Calls Try.prog 109 #[.agg #[.int .i64 c0, .int .i64 c1, .bool c2, .int .i64 c3, .int .i64 c4, .string c5, .string c6, .string c7, .slice a8 n8 p8, .slice a9 n9 p9], .int .i64 k] w (IntE 0 w) := by
  have HB := BX.new w 56 #[.int .i64 c0, .int .i64 c1, .bool c2, .int .i64 c3, .int .i64 c4, .string c5, .string c6, .string c7, .slice a8 n8 p8, .slice a9 n9 p9]
  go_enter Try.func109, Try.ntmps109
  go_wp2_with fail
  go_ret
  exact ⟨rfl, HB.b⟩
set_option maxRecDepth 100000 in
set_option maxHeartbeats 4000000 in
theorem needsOfPrefix_any (c0 c1 : Int) (c2 : Bool) (c3 c4 : Int) (c5 c6 c7 : ByteArray) (a8 : Option Addr) (n8 p8 : Nat) (a9 : Option Addr) (n9 p9 : Nat) (k : Int) (w : World) :
    Calls Try.prog 111 #[.agg #[.int .i64 c0, .int .i64 c1, .bool c2, .int .i64 c3, .int .i64 c4, .string c5, .string c6, .string c7, .slice a8 n8 p8, .slice a9 n9 p9], .int .i64 k] w (IntE (levV c0 c1) w) := by
  have HB := BX.new w 56 #[.int .i64 c0, .int .i64 c1, .bool c2, .int .i64 c3, .int .i64 c4, .string c5, .string c6, .string c7, .slice a8 n8 p8, .slice a9 n9 p9]
  have x0 := HB.box.cell (i := 0) (v := .int .i64 c0) rfl
  have x1 := HB.box.cell (i := 1) (v := .int .i64 c1) rfl
  have x2 := HB.box.cell (i := 2) (v := .bool c2) rfl
  have x3 := HB.box.cell (i := 3) (v := .int .i64 c3) rfl
  have x4 := HB.box.cell (i := 4) (v := .int .i64 c4) rfl
  have x5 := HB.box.cell (i := 5) (v := .string c5) rfl
  have x6 := HB.box.cell (i := 6) (v := .string c6) rfl
  have x7 := HB.box.cell (i := 7) (v := .string c7) rfl
  have x8 := HB.box.cell (i := 8) (v := .slice a8 n8 p8) rfl
  have x9 := HB.box.cell (i := 9) (v := .slice a9 n9 p9) rfl
  have hL := fun w => levelOf_impl c0 c1 c2 c3 c4 c5 c6 c7 a8 n8 p8 a9 n9 p9 w
  generalize levV c0 c1 = lv at hL ⊢
  go_enter Try.func111, Try.ntmps111
  go_wp2_with fail
  refine (hL _).mono ?_
  rintro e w1 ⟨rfl, hb⟩
  have H := HB.next hb
  go_wp2_with fail
  go_ret
  exact ⟨rfl, H.b⟩
set_option maxRecDepth 100000 in
set_option maxHeartbeats 4000000 in
theorem needsOfChain_any (c0 c1 : Int) (c2 : Bool) (c3 c4 : Int) (c5 c6 c7 : ByteArray) (a8 : Option Addr) (n8 p8 : Nat) (a9 : Option Addr) (n9 p9 : Nat) (k : Int) (w : World) (hk : 0 ≤ k) (hlv : 0 ≤ levV c0 c1 ∧ levV c0 c1 ≤ 9) :
    Calls Try.prog 110 #[.agg #[.int .i64 c0, .int .i64 c1, .bool c2, .int .i64 c3, .int .i64 c4, .string c5, .string c6, .string c7, .slice a8 n8 p8, .slice a9 n9 p9], .int .i64 k] w (IntE (if k = 0 then levV c0 c1 else levV c0 c1 + 1) w) := by
  have HB := BX.new w 56 #[.int .i64 c0, .int .i64 c1, .bool c2, .int .i64 c3, .int .i64 c4, .string c5, .string c6, .string c7, .slice a8 n8 p8, .slice a9 n9 p9]
  have x0 := HB.box.cell (i := 0) (v := .int .i64 c0) rfl
  have x1 := HB.box.cell (i := 1) (v := .int .i64 c1) rfl
  have x2 := HB.box.cell (i := 2) (v := .bool c2) rfl
  have x3 := HB.box.cell (i := 3) (v := .int .i64 c3) rfl
  have x4 := HB.box.cell (i := 4) (v := .int .i64 c4) rfl
  have x5 := HB.box.cell (i := 5) (v := .string c5) rfl
  have x6 := HB.box.cell (i := 6) (v := .string c6) rfl
  have x7 := HB.box.cell (i := 7) (v := .string c7) rfl
  have x8 := HB.box.cell (i := 8) (v := .slice a8 n8 p8) rfl
  have x9 := HB.box.cell (i := 9) (v := .slice a9 n9 p9) rfl
  have hL := fun w => levelOf_impl c0 c1 c2 c3 c4 c5 c6 c7 a8 n8 p8 a9 n9 p9 w
  generalize levV c0 c1 = lv at hL hlv ⊢
  obtain ⟨hl0, hl9⟩ := hlv
  by_cases h0 : k = 0
  · subst h0
    rw [if_pos rfl]
    go_enter Try.func110, Try.ntmps110
    go_wp2_with fail
    refine (hL _).mono ?_
    rintro e w1 ⟨rfl, hb⟩
    have H := HB.next hb
    go_wp2_with fail
    go_ret
    exact ⟨ret_i64 (by omega), H.b⟩
  · rw [if_neg h0]
    go_enter Try.func110, Try.ntmps110
    go_wp2_with fail
    refine (hL _).mono ?_
    rintro e w1 ⟨rfl, hb⟩
    have H := HB.next hb
    go_wp2_with fail
    all_goals
      go_ret
      exact ⟨ret_i64 (by omega), H.b⟩
set_option maxRecDepth 100000 in
set_option maxHeartbeats 4000000 in
theorem needsOfTest_any (c0 c1 : Int) (c2 : Bool) (c3 c4 : Int) (c5 c6 c7 : ByteArray) (a8 : Option Addr) (n8 p8 : Nat) (a9 : Option Addr) (n9 p9 : Nat) (k : Int) (w : World) :
    Calls Try.prog 112 #[.agg #[.int .i64 c0, .int .i64 c1, .bool c2, .int .i64 c3, .int .i64 c4, .string c5, .string c6, .string c7, .slice a8 n8 p8, .slice a9 n9 p9], .int .i64 k] w (IntE (if c0 = 7 ∧ 0 < k then 1 else 5) w) := by
  have HB := BX.new w 56 #[.int .i64 c0, .int .i64 c1, .bool c2, .int .i64 c3, .int .i64 c4, .string c5, .string c6, .string c7, .slice a8 n8 p8, .slice a9 n9 p9]
  have x0 := HB.box.cell (i := 0) (v := .int .i64 c0) rfl
  by_cases h7 : c0 = 7
  · subst h7
    by_cases h0 : 0 < k
    · rw [if_pos ⟨rfl, h0⟩]
      go_enter Try.func112, Try.ntmps112
      go_wp2_with fail
      go_ret
      exact ⟨rfl, HB.b⟩
    · rw [if_neg fun h => h0 h.2]
      go_enter Try.func112, Try.ntmps112
      go_wp2_with fail
      go_ret
      exact ⟨rfl, HB.b⟩
  · rw [if_neg fun h => h7 h.1]
    go_enter Try.func112, Try.ntmps112
    go_wp2_with fail
    go_ret
    exact ⟨rfl, HB.b⟩
set_option maxRecDepth 100000 in
set_option maxHeartbeats 4000000 in
theorem needsByLevel_any (w : World) :
    Calls Try.prog 70 #[] w fun e w' => e = .returned (.slice (some ⟨w.heap.size, 0, none⟩) 10 10) ∧ w' = w.alloc (.cells byLevel 60) := by
  unfold byLevel
  go_enter Try.func70, Try.ntmps70
  go_wp2_with fail
  go_ret
  exact ⟨rfl, rfl⟩
set_option maxRecDepth 100000 in
set_option maxHeartbeats 4000000 in
/-- what is behind the level's function -/
theorem byLevel_at (L : Nat) (hL : L ≤ 9) : ∃ f : Nat, byLevel[L]? = some (.func (.func f) #[] #[]) ∧
    ((L = 0 ∨ L = 9) ∧ f = 109 ∨ (L = 3 ∨ L = 8) ∧ f = 111 ∨ L = 4 ∧ f = 112 ∨ (L = 1 ∨ L = 2 ∨ L = 5 ∨ L = 6 ∨ L = 7) ∧ f = 110) := by
  have h : L = 0 ∨ L = 1 ∨ L = 2 ∨ L = 3 ∨ L = 4 ∨ L = 5 ∨ L = 6 ∨ L = 7 ∨ L = 8 ∨ L = 9 := by omega
  rcases h with rfl | rfl | rfl | rfl | rfl | rfl | rfl | rfl | rfl | rfl
  all_goals exact ⟨_, rfl, by simp⟩
set_option maxRecDepth 100000 in
set_option maxHeartbeats 4000000 in
/-- the level's function, called with a Kid that there is -/
theorem needsAt_any (c0 c1 : Int) (c2 : Bool) (c3 c4 : Int) (c5 c6 c7 : ByteArray) (a8 : Option Addr) (n8 p8 : Nat) (a9 : Option Addr) (n9 p9 : Nat) (k : Int) (w : World) (hk : 0 ≤ k) (f L : Nat) (hL : levV c0 c1 = (L : Int))
    (hf : (L = 0 ∨ L = 9) ∧ f = 109 ∨ (L = 3 ∨ L = 8) ∧ f = 111 ∨ L = 4 ∧ f = 112 ∨ (L = 1 ∨ L = 2 ∨ L = 5 ∨ L = 6 ∨ L = 7) ∧ f = 110) :
    Calls Try.prog f #[.agg #[.int .i64 c0, .int .i64 c1, .bool c2, .int .i64 c3, .int .i64 c4, .string c5, .string c6, .string c7, .slice a8 n8 p8, .slice a9 n9 p9], .int .i64 k] w (IntE (needK c0 (levV c0 c1) k) w) := by
  have hc := lev_cases c0 c1
  have hl := lev_le c0 c1
  rcases hf with ⟨hL2, rfl⟩ | ⟨hL2, rfl⟩ | ⟨hL2, rfl⟩ | ⟨hL2, rfl⟩
  · rw [needK_zero (by omega)]
    exact needsNothing_any c0 c1 c2 c3 c4 c5 c6 c7 a8 n8 p8 a9 n9 p9 k w
  · have h3 : c0 = 3 := by omega
    subst h3
    rw [needK_kind3 (by omega) (by omega)]
    exact needsOfPrefix_any 3 c1 c2 c3 c4 c5 c6 c7 a8 n8 p8 a9 n9 p9 k w
  · have h : needK c0 (levV c0 c1) k = if c0 = 7 ∧ 0 < k then 1 else 5 := by
      by_cases h4 : c0 = 4
      · subst h4
        rw [show levV 4 c1 = 4 by omega, needK_test, if_neg (by omega)]
      · have h3 : ¬ c0 = 3 := by omega
        by_cases h7 : c0 = 7
        · subst h7
          by_cases h0 : 0 < k
          · rw [needK_list (by omega) (by omega) h0, if_pos ⟨rfl, h0⟩]
          · rw [needK_head (by omega) (by omega) h0, if_neg (by omega)]
        · rw [needK_else (by omega) (by omega) h3 h4 h7, if_neg (by omega)]
    rw [h]
    exact needsOfTest_any c0 c1 c2 c3 c4 c5 c6 c7 a8 n8 p8 a9 n9 p9 k w
  · have h4 : c0 = 4 := by omega
    subst h4
    have h : needK 4 (levV 4 c1) k = if k = 0 then levV 4 c1 else levV 4 c1 + 1 := by
      by_cases h0 : k = 0
      · subst h0
        rw [needK_first (by omega) (by omega) (by omega), if_pos rfl]
      · rw [needK_next (by omega) (by omega) (by omega) h0, if_neg h0]
    rw [h]
    exact needsOfChain_any 4 c1 c2 c3 c4 c5 c6 c7 a8 n8 p8 a9 n9 p9 k w hk hl
end Go.Proofs.Ytfmgkinindkedaa
