/- Joined texts: LevS. -/
import Derived.Test.YtfmgkinindkedaaQNDX
/- The model's LevelOf. -/
namespace Go.Proofs.Ytfmgkinindkedaa
open Go.RowKit

set_option maxRecDepth 100000 in
set_option maxHeartbeats 4000000 in
theorem levelOf_spec (c0 c1 : Int) (c2 : Bool) (c3 c4 : Int) (c5 c6 c7 : ByteArray) (a8 : Option Addr) (n8 p8 : Nat) (a9 : Option Addr) (n9 p9 : Nat) (w : World) :
    Calls Try.prog 19 #[.agg #[.int .i64 c0, .int .i64 c1, .bool c2, .int .i64 c3, .int .i64 c4, .string c5, .string c6, .string c7, .slice a8 n8 p8, .slice a9 n9 p9]] w (IntE (levV c0 c1) w) := by
  have HB := BX.new w 56 #[.int .i64 c0, .int .i64 c1, .bool c2, .int .i64 c3, .int .i64 c4, .string c5, .string c6, .string c7, .slice a8 n8 p8, .slice a9 n9 p9]
  have x0 := HB.box.cell (i := 0) (v := .int .i64 c0) rfl
  have x1 := HB.box.cell (i := 1) (v := .int .i64 c1) rfl
  by_cases h : 1 ≤ c0 ∧ c0 ≤ 9
  · rcases kind_cases h.1 h.2 with rfl | rfl | rfl | rfl | rfl | rfl | rfl | rfl | rfl
    all_goals clear h
    case inr.inr.inl =>
      by_cases h1 : c1 = 15
      · subst h1
        go_enter Try.func19, Try.ntmps19
        go_wp2_with fail
        go_ret
        exact ⟨rfl, HB.b⟩
      · by_cases h2 : c1 = 16
        · subst h2
          go_enter Try.func19, Try.ntmps19
          go_wp2_with fail
          go_ret
          exact ⟨rfl, HB.b⟩
        · have hv : levV 3 c1 = 0 := unLev_no h1 h2
          rw [hv]
          clear hv
          go_enter Try.func19, Try.ntmps19
          go_wp2_with fail
          go_ret
          exact ⟨rfl, HB.b⟩
    case inr.inr.inr.inl =>
      have hI := fun w => in_any c1 1 14 (decide (1 ≤ c1 ∧ c1 ≤ 14)) w rfl
      by_cases h : 1 ≤ c1 ∧ c1 ≤ 14
      · rw [decide_eq_true h] at hI
        go_enter Try.func19, Try.ntmps19
        go_wp2_with fail
        generalize w.alloc (.cells #[.int .i64 4, .int .i64 c1, .bool c2, .int .i64 c3, .int .i64 c4, .string c5, .string c6, .string c7, .slice a8 n8 p8, .slice a9 n9 p9] 56) = v0 at HB x0 x1 ⊢
        refine (hI _).mono ?_
        rintro e w1 ⟨rfl, rfl⟩
        have hR := heap_alloc_new w1 (.cells #[.int .i64 0, .int .i64 1, .int .i64 2, .int .i64 4, .int .i64 4, .int .i64 4, .int .i64 4, .int .i64 4, .int .i64 4, .int .i64 5, .int .i64 6, .int .i64 6, .int .i64 7, .int .i64 7, .int .i64 7] 3)
        have hb := HB.b.alloc HB.b.size (.cells #[.int .i64 0, .int .i64 1, .int .i64 2, .int .i64 4, .int .i64 4, .int .i64 4, .int .i64 4, .int .i64 4, .int .i64 4, .int .i64 5, .int .i64 6, .int .i64 6, .int .i64 7, .int .i64 7, .int .i64 7] 3)
        have y1 := (((Below.refl w1.heap.size w1).alloc (Nat.le_refl _) (.cells #[.int .i64 0, .int .i64 1, .int .i64 2, .int .i64 4, .int .i64 4, .int .i64 4, .int .i64 4, .int .i64 4, .int .i64 4, .int .i64 5, .int .i64 6, .int .i64 6, .int .i64 7, .int .i64 7, .int .i64 7] 3)).cell (cell_block x1)).trans x1
        rcases bin_cases h.1 h.2 with rfl | rfl | rfl | rfl | rfl | rfl | rfl | rfl | rfl | rfl | rfl | rfl | rfl | rfl
        all_goals
          clear h hI HB
          go_wp2_with fail
          go_ret
          exact ⟨rfl, hb⟩
      · rw [decide_eq_false h] at hI
        have hv : levV 4 c1 = 0 := binLev_no h
        rw [hv]
        clear h hv
        go_enter Try.func19, Try.ntmps19
        go_wp2_with fail
        refine (hI _).mono ?_
        rintro e w1 ⟨rfl, rfl⟩
        go_wp2_with fail
        go_ret
        exact ⟨rfl, HB.b⟩
    all_goals
      go_enter Try.func19, Try.ntmps19
      go_wp2_with fail
      go_ret
      exact ⟨rfl, HB.b⟩
  · rw [levV_no h]
    have h1 : ¬ c0 = 1 := by omega
    have h2 : ¬ c0 = 2 := by omega
    have h3 : ¬ c0 = 3 := by omega
    have h4 : ¬ c0 = 4 := by omega
    have h5 : ¬ c0 = 5 := by omega
    have h6 : ¬ c0 = 6 := by omega
    have h7 : ¬ c0 = 7 := by omega
    have h8 : ¬ c0 = 8 := by omega
    have h9 : ¬ c0 = 9 := by omega
    clear h
    go_enter Try.func19, Try.ntmps19
    go_wp2_with fail
    go_ret
    exact ⟨rfl, HB.b⟩
end Go.Proofs.Ytfmgkinindkedaa
