/- Joined texts: NeedI. -/
import Derived.Test.YtfmgkinindkedaaQLVB
import Derived.Deep.RegionHeld3
/- The program's Needs. -/
namespace Go.Proofs.Ytfmgkinindkedaa
open Go.RowKit

set_option maxRecDepth 100000 in
set_option maxHeartbeats 8000000 in
theorem needs_impl (c0 c1 : Int) (c2 : Bool) (c3 c4 : Int) (c5 c6 c7 : ByteArray) (a8 : Option Addr) (n8 p8 : Nat) (a9 : Option Addr) (n9 p9 : Nat) (k : Int) (w : World) :
    Calls Try.prog 24 #[.agg #[.int .i64 c0, .int .i64 c1, .bool c2, .int .i64 c3, .int .i64 c4, .string c5, .string c6, .string c7, .slice a8 n8 p8, .slice a9 n9 p9], .int .i64 k] w (IntE (needV c0 (levV c0 c1) n8 k) w) := by
  have HB := BX.new w 56 #[.int .i64 c0, .int .i64 c1, .bool c2, .int .i64 c3, .int .i64 c4, .string c5, .string c6, .string c7, .slice a8 n8 p8, .slice a9 n9 p9]
  have x0 := HB.box.cell (i := 0) (v := .int .i64 c0) rfl
  have x1 := HB.box.cell (i := 1) (v := .int .i64 c1) rfl
  have x2 := HB.box.cell (i := 2) (v := .bool c2) rfl
  have x3 := HB.box.cell (i := 3) (v := .int .i64 c3) rfl
  have x4 := HB.box.cell (i := 4) (v := .int .i64 c4) rfl
  have x5 := HB.box.cell (i := 5) (v := .string c5) rfl
  have x6 := HB.box.cell (i := 6) (v := .string c6) rfl
  have x7 := HB.box.cell (i := 7) (v := .string c7) rfl
  have x8 := HB.box.cell (i := 8) (v := .slice a8 n8 p8) rfl
  have x9 := HB.box.cell (i := 9) (v := .slice a9 n9 p9) rfl
  have hK := fun w => hasKid_any c0 c1 c2 c3 c4 c5 c6 c7 a8 n8 p8 a9 n9 p9 k w
  obtain ⟨V, hV⟩ : ∃ V, V = needV c0 (levV c0 c1) n8 k := ⟨_, rfl⟩
  rw [← hV]
  have HV := Lib.hid hV
  clear hV
  go_enter Try.func24, Try.ntmps24
  cases hk : isKid n8 k
  · rw [hk] at hK
    have hv : V = 0 := by rw [HV.out]; unfold needV; rw [hk]; rfl
    subst hv
    clear hk HV
    go_wp2_with fail
    refine (hK _).mono ?_
    rintro e w1 ⟨rfl, hb⟩
    have H := HB.next hb
    go_wp2_with fail
    go_ret
    exact ⟨rfl, H.b⟩
  · rw [hk] at hK
    have hv : V = needK c0 (levV c0 c1) k := by rw [HV.out]; unfold needV; rw [hk]; rfl
    have hk0 : 0 ≤ k := (of_decide_eq_true hk).1
    obtain ⟨L, hL⟩ : ∃ L : Nat, levV c0 c1 = (L : Int) := ⟨(levV c0 c1).toNat, by have := lev_le c0 c1; omega⟩
    have hL9 : L ≤ 9 := by have := lev_le c0 c1; omega
    obtain ⟨f, hfr, hf⟩ := byLevel_at L hL9
    have hA := fun w => needsAt_any c0 c1 c2 c3 c4 c5 c6 c7 a8 n8 p8 a9 n9 p9 k w hk0 f L hL hf
    rw [← hv] at hA
    have hLv := fun w => levelOf_impl c0 c1 c2 c3 c4 c5 c6 c7 a8 n8 p8 a9 n9 p9 w
    rw [hL] at hLv
    clear hk HV hv hL
    go_wp2_with fail
    refine (hK _).mono ?_
    rintro e w1 ⟨rfl, hb⟩
    have H := HB.next hb
    clear hb hK HB x0 x1 x2 x3 x4 x5 x6 x7 x8 x9
    have x0 := H.box.cell (i := 0) (v := .int .i64 c0) rfl
    have x1 := H.box.cell (i := 1) (v := .int .i64 c1) rfl
    have x2 := H.box.cell (i := 2) (v := .bool c2) rfl
    have x3 := H.box.cell (i := 3) (v := .int .i64 c3) rfl
    have x4 := H.box.cell (i := 4) (v := .int .i64 c4) rfl
    have x5 := H.box.cell (i := 5) (v := .string c5) rfl
    have x6 := H.box.cell (i := 6) (v := .string c6) rfl
    have x7 := H.box.cell (i := 7) (v := .string c7) rfl
    have x8 := H.box.cell (i := 8) (v := .slice a8 n8 p8) rfl
    have x9 := H.box.cell (i := 9) (v := .slice a9 n9 p9) rfl
    go_wp2_with fail
    have hL10 : (L : Int) < 10 := by omega
    have hL0 : (0 : Int) ≤ (L : Int) := by omega
    rcases hf with ⟨-, rfl⟩ | ⟨-, rfl⟩ | ⟨-, rfl⟩ | ⟨-, rfl⟩
    all_goals
      go_region_held3 (fun w' => w'.cell? ⟨w.heap.size, 0, none⟩ = some (.int .i64 c0) ∧ w'.cell? ⟨w.heap.size, 1, none⟩ = some (.int .i64 c1) ∧ w'.cell? ⟨w.heap.size, 2, none⟩ = some (.bool c2) ∧ w'.cell? ⟨w.heap.size, 3, none⟩ = some (.int .i64 c3) ∧ w'.cell? ⟨w.heap.size, 4, none⟩ = some (.int .i64 c4) ∧ w'.cell? ⟨w.heap.size, 5, none⟩ = some (.string c5) ∧ w'.cell? ⟨w.heap.size, 6, none⟩ = some (.string c6) ∧ w'.cell? ⟨w.heap.size, 7, none⟩ = some (.string c7) ∧ w'.cell? ⟨w.heap.size, 8, none⟩ = some (.slice a8 n8 p8) ∧ w'.cell? ⟨w.heap.size, 9, none⟩ = some (.slice a9 n9 p9)) (refine ⟨?_, ?_, ?_, ?_, ?_, ?_, ?_, ?_, ?_, ?_⟩ <;> first | assumption | simp [*]) (first
        | (go_at_call 70; refine (needsByLevel_any _).mono ?_; rintro e w2 ⟨rfl, hw2⟩; have hb2 : Below w1.heap.size w1 w2 := (by rw [hw2]; exact (Below.refl _ _).drew.alloc (Nat.le_refl _) _); have R2 : RowAt w2 w1.heap.size 60 byLevel := (by rw [hw2]; exact RowAt.new w1.drew _ _); have k2 := R2.cell (i := L) hfr; have H2 := H.next hb2; clear hw2; have y0 := H2.box.cell (i := 0) (v := .int .i64 c0) rfl; have y1 := H2.box.cell (i := 1) (v := .int .i64 c1) rfl; have y2 := H2.box.cell (i := 2) (v := .bool c2) rfl; have y3 := H2.box.cell (i := 3) (v := .int .i64 c3) rfl; have y4 := H2.box.cell (i := 4) (v := .int .i64 c4) rfl; have y5 := H2.box.cell (i := 5) (v := .string c5) rfl; have y6 := H2.box.cell (i := 6) (v := .string c6) rfl; have y7 := H2.box.cell (i := 7) (v := .string c7) rfl; have y8 := H2.box.cell (i := 8) (v := .slice a8 n8 p8) rfl; have y9 := H2.box.cell (i := 9) (v := .slice a9 n9 p9) rfl)
        | (go_at_call 21; refine (hLv _).mono ?_; rintro e w3 ⟨rfl, hb3⟩; have H3 := H2.next hb3; have k3 := (R2.later hb3).cell (i := L) hfr; have z0 := H3.box.cell (i := 0) (v := .int .i64 c0) rfl; have z1 := H3.box.cell (i := 1) (v := .int .i64 c1) rfl; have z2 := H3.box.cell (i := 2) (v := .bool c2) rfl; have z3 := H3.box.cell (i := 3) (v := .int .i64 c3) rfl; have z4 := H3.box.cell (i := 4) (v := .int .i64 c4) rfl; have z5 := H3.box.cell (i := 5) (v := .string c5) rfl; have z6 := H3.box.cell (i := 6) (v := .string c6) rfl; have z7 := H3.box.cell (i := 7) (v := .string c7) rfl; have z8 := H3.box.cell (i := 8) (v := .slice a8 n8 p8) rfl; have z9 := H3.box.cell (i := 9) (v := .slice a9 n9 p9) rfl)
        | ((first | go_at_call 109 | go_at_call 111 | go_at_call 112 | go_at_call 110); refine (hA _).mono ?_; rintro e w4 ⟨rfl, hb4⟩; have H4 := H3.next hb4; have q0 := H4.box.cell (i := 0) (v := .int .i64 c0) rfl; have q1 := H4.box.cell (i := 1) (v := .int .i64 c1) rfl; have q2 := H4.box.cell (i := 2) (v := .bool c2) rfl; have q3 := H4.box.cell (i := 3) (v := .int .i64 c3) rfl; have q4 := H4.box.cell (i := 4) (v := .int .i64 c4) rfl; have q5 := H4.box.cell (i := 5) (v := .string c5) rfl; have q6 := H4.box.cell (i := 6) (v := .string c6) rfl; have q7 := H4.box.cell (i := 7) (v := .string c7) rfl; have q8 := H4.box.cell (i := 8) (v := .slice a8 n8 p8) rfl; have q9 := H4.box.cell (i := 9) (v := .slice a9 n9 p9) rfl))
    all_goals
      go_wp2_with fail
      go_ret
      exact ⟨rfl, H4.b⟩
end Go.Proofs.Ytfmgkinindkedaa
