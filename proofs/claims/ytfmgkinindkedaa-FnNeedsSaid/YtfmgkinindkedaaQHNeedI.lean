/- Joined texts: NeedI. -/
import Derived.Test.YtfmgkinindkedaaQNDY
import Derived.Deep.RegionHeld3
/- The program's Needs. -/
namespace Go.Proofs.Ytfmgkinindkedaa
open Go.RowKit

set_option maxRecDepth 100000 in
set_option maxHeartbeats 8000000 in
theorem needs_impl (c0 c1 : Int) (c2 : Bool) (c3 c4 : Int) (c5 c6 c7 : ByteArray) (a8 : Option Addr) (n8 p8 : Nat) (a9 : Option Addr) (n9 p9 : Nat) (k : Int) (w : World) :
    Calls Try.prog 24 #[.agg #[.int .i64 c0, .int .i64 c1, .bool c2, .int .i64 c3, .int .i64 c4, .string c5, .string c6, .string c7, .slice a8 n8 p8, .slice a9 n9 p9], .int .i64 k] w (IntE (needV c0 (levV c0 c1) n8 k) w) := by
  have HB := BX.new w 56 #[.int .i64 c0, .int .i64 c1, .bool c2, .int .i64 c3, .int .i64 c4, .string c5, .string c6, .string c7, .slice a8 n8 p8, .slice a9 n9 p9]
  have x0 := HB.box.cell (i := 0) (v := .int .i64 c0) rfl
  have x1 := HB.box.cell (i := 1) (v := .int .i64 c1) rfl
  have x2 := HB.box.cell (i := 2) (v := .bool c2) rfl
  have x3 := HB.box.cell (i := 3) (v := .int .i64 c3) rfl
  have x4 := HB.box.cell (i := 4) (v := .int .i64 c4) rfl
  have x5 := HB.box.cell (i := 5) (v := .string c5) rfl
  have x6 := HB.box.cell (i := 6) (v := .string c6) rfl
  have x7 := HB.box.cell (i := 7) (v := .string c7) rfl
  have x8 := HB.box.cell (i := 8) (v := .slice a8 n8 p8) rfl
  have x9 := HB.box.cell (i := 9) (v := .slice a9 n9 p9) rfl
  have hK := fun w => hasKid_any c0 c1 c2 c3 c4 c5 c6 c7 a8 n8 p8 a9 n9 p9 k w
  obtain ⟨V, hV⟩ : ∃ V, V = needV c0 (levV c0 c1) n8 k := ⟨_, rfl⟩
  rw [← hV]
  have HV := Lib.hid hV
  clear hV
  go_enter Try.func24, Try.ntmps24
  cases hk : isKid n8 k
  · rw [hk] at hK
    have hv : V = 0 := by rw [HV.out]; unfold needV; rw [hk]; rfl
    subst hv
    clear hk HV
    go_wp2_with fail
    refine (hK _).mono ?_
    rintro e w1 ⟨rfl, hb⟩
    have H := HB.next hb
    go_wp2_with fail
    go_ret
    exact ⟨rfl, H.b⟩
  · rw [hk] at hK
    have hv : V = needK c0 (levV c0 c1) k := by rw [HV.out]; unfold needV; rw [hk]; rfl
    have hk0 : 0 ≤ k := (of_decide_eq_true hk).1
    obtain ⟨L, hL⟩ : ∃ L : Nat, levV c0 c1 = (L : Int) := ⟨(levV c0 c1).toNat, by have := lev_le c0 c1; omega⟩
    have hL9 : L ≤ 9 := by have := lev_le c0 c1; omega
    obtain ⟨f, hfr, hf⟩ := byLevel_at L hL9
    have hA := fun w => needsAt_any c0 c1 c2 c3 c4 c5 c6 c7 a8 n8 p8 a9 n9 p9 k w hk0 f L hL hf
    rw [← hv] at hA
    have hLv := fun w => levelOf_impl c0 c1 c2 c3 c4 c5 c6 c7 a8 n8 p8 a9 n9 p9 w
    rw [hL] at hLv
    clear hk HV hv hL
    go_wp2_with fail
    refine (hK _).mono ?_
    rintro e w1 ⟨rfl, hb⟩
    have H := HB.next hb
    clear hb hK HB x0 x1 x2 x3 x4 x5 x6 x7 x8 x9
    have x0 := H.box.cell (i := 0) (v := .int .i64 c0) rfl
    have x1 := H.box.cell (i := 1) (v := .int .i64 c1) rfl
    have x2 := H.box.cell (i := 2) (v := .bool c2) rfl
    have x3 := H.box.cell (i := 3) (v := .int .i64 c3) rfl
    have x4 := H.box.cell (i := 4) (v := .int .i64 c4) rfl
    have x5 := H.box.cell (i := 5) (v := .string c5) rfl
    have x6 := H.box.cell (i := 6) (v := .string c6) rfl
    have x7 := H.box.cell (i := 7) (v := .string c7) rfl
    have x8 := H.box.cell (i := 8) (v := .slice a8 n8 p8) rfl
    have x9 := H.box.cell (i := 9) (v := .slice a9 n9 p9) rfl
    go_wp2_with fail
    have hL10 : (L : Int) < 10 := by omega
    have hL0 : (0 : Int) ≤ (L : Int) := by omega
    rcases hf with ⟨-, rfl⟩ | ⟨-, rfl⟩ | ⟨-, rfl⟩ | ⟨-, rfl⟩
    all_goals
      have hS : Below w1.heap.size w1 w1.drew := (Below.refl _ _).drew
      refine wp_region_held_drew (S := fun w' => Below w1.heap.size w1 w') (by kernel_rfl) hS (fun _ => ?_)
      refine wpAnyH_take (i := 1) (v := .agg #[.int .i64 c0, .int .i64 c1, .bool c2, .int .i64 c3, .int .i64 c4, .string c5, .string c6, .string c7, .slice a8 n8 p8, .slice a9 n9 p9]) rfl (by kernel_rfl) (by kernel_rfl) (by kernel_rfl) (fun _ _ _ h => h) (Or.inl ⟨by rfl, fun w' hw' => ?_⟩) hS ?_
      · have H' := H.next hw'
        have k0 := H'.box.cell (i := 0) (v := .int .i64 c0) rfl
        have k1 := H'.box.cell (i := 1) (v := .int .i64 c1) rfl
        have k2 := H'.box.cell (i := 2) (v := .bool c2) rfl
        have k3 := H'.box.cell (i := 3) (v := .int .i64 c3) rfl
        have k4 := H'.box.cell (i := 4) (v := .int .i64 c4) rfl
        have k5 := H'.box.cell (i := 5) (v := .string c5) rfl
        have k6 := H'.box.cell (i := 6) (v := .string c6) rfl
        have k7 := H'.box.cell (i := 7) (v := .string c7) rfl
        have k8 := H'.box.cell (i := 8) (v := .slice a8 n8 p8) rfl
        have k9 := H'.box.cell (i := 9) (v := .slice a9 n9 p9) rfl
        clear x0 x1 x2 x3 x4 x5 x6 x7 x8 x9 hS hA hLv H
        go_simp
      try simp only [Act.put, List.setIfInBounds_toArray, List.set_cons_zero, List.set_cons_succ]
      refine wpAnyH_take (i := 5) (v := .agg #[.int .i64 c0, .int .i64 c1, .bool c2, .int .i64 c3, .int .i64 c4, .string c5, .string c6, .string c7, .slice a8 n8 p8, .slice a9 n9 p9]) rfl (by kernel_rfl) (by kernel_rfl) (by kernel_rfl) (fun _ _ _ h => h) (Or.inl ⟨by rfl, fun w' hw' => ?_⟩) hS ?_
      · have H' := H.next hw'
        have k0 := H'.box.cell (i := 0) (v := .int .i64 c0) rfl
        have k1 := H'.box.cell (i := 1) (v := .int .i64 c1) rfl
        have k2 := H'.box.cell (i := 2) (v := .bool c2) rfl
        have k3 := H'.box.cell (i := 3) (v := .int .i64 c3) rfl
        have k4 := H'.box.cell (i := 4) (v := .int .i64 c4) rfl
        have k5 := H'.box.cell (i := 5) (v := .string c5) rfl
        have k6 := H'.box.cell (i := 6) (v := .string c6) rfl
        have k7 := H'.box.cell (i := 7) (v := .string c7) rfl
        have k8 := H'.box.cell (i := 8) (v := .slice a8 n8 p8) rfl
        have k9 := H'.box.cell (i := 9) (v := .slice a9 n9 p9) rfl
        clear x0 x1 x2 x3 x4 x5 x6 x7 x8 x9 hS hA hLv H
        go_simp
      try simp only [Act.put, List.setIfInBounds_toArray, List.set_cons_zero, List.set_cons_succ]
      refine wpAnyH_take (i := 6) (v := .int .i64 k) rfl (by kernel_rfl) (by kernel_rfl) (by kernel_rfl) (fun _ _ _ h => h) (Or.inl ⟨by rfl, fun w' hw' => ?_⟩) hS ?_
      · go_simp
      try simp only [Act.put, List.setIfInBounds_toArray, List.set_cons_zero, List.set_cons_succ]
      clear x0 x1 x2 x3 x4 x5 x6 x7 x8 x9
      refine wpAnyH_ready (rs := [0]) (by kernel_rfl) (by simp) ?_
      refine AllReadyH.cons rfl (fun K hK => ?_) AllReadyH.nil
      go_simp
      refine (needsByLevel_any _).mono ?_
      rintro e w2 ⟨rfl, hw2⟩
      have hb2 : Below w1.heap.size w1 w2 := by rw [hw2]; exact (Below.refl _ _).drew.alloc (Nat.le_refl _) _
      have R2 : RowAt w2 w1.heap.size 60 byLevel := by rw [hw2]; exact RowAt.new w1.drew _ _
      clear hw2
      go_wp2_with fail
      refine hK.out _ _ hb2 (fun _ => ?_)
      clear hK K
      try simp only [Act.put, List.setIfInBounds_toArray, List.set_cons_zero, List.set_cons_succ]
      refine wpAnyH_ready (rs := [2]) (by kernel_rfl) (by simp) ?_
      refine AllReadyH.cons rfl (fun K hK => ?_) AllReadyH.nil
      go_simp
      refine (hLv _).mono ?_
      rintro e w3 ⟨rfl, hb3⟩
      have hb3' := hb2.trans (hb3.mono hb2.size)
      have k3 := (R2.later hb3).cell (i := L) hfr
      go_wp2_with fail
      refine hK.out _ _ hb3' (fun _ => ?_)
      clear hK K
      try simp only [Act.put, List.setIfInBounds_toArray, List.set_cons_zero, List.set_cons_succ]
      refine wpAnyH_ready (rs := [3]) (by kernel_rfl) (by simp) ?_
      refine AllReadyH.cons rfl (fun K hK => ?_) AllReadyH.nil
      go_simp
      refine hK.out _ _ hb3' (fun _ => ?_)
      clear hK K
      try simp only [Act.put, List.setIfInBounds_toArray, List.set_cons_zero, List.set_cons_succ]
      refine wpAnyH_ready (rs := [4]) (by kernel_rfl) (by simp) ?_
      refine AllReadyH.cons rfl (fun K hK => ?_) AllReadyH.nil
      go_simp
      refine hK.out _ _ hb3' (fun _ => ?_)
      clear hK K
      try simp only [Act.put, List.setIfInBounds_toArray, List.set_cons_zero, List.set_cons_succ]
      refine wpAnyH_ready (rs := [7]) (by kernel_rfl) (by simp) ?_
      refine AllReadyH.cons rfl (fun K hK => ?_) AllReadyH.nil
      go_simp
      refine (hA _).mono ?_
      rintro e w4 ⟨rfl, hb4⟩
      have hb4' := hb3'.trans (hb4.mono hb3'.size)
      go_wp2_with fail
      refine hK.out _ _ hb4' (fun _ => ?_)
      clear hK K
      try simp only [Act.put, List.setIfInBounds_toArray, List.set_cons_zero, List.set_cons_succ]
      refine wpAnyH_ready (rs := [8]) (by kernel_rfl) (by simp) ?_
      refine AllReadyH.cons rfl (fun K hK => ?_) AllReadyH.nil
      go_simp
      refine hK.out _ _ hb4' (fun _ => ?_)
      clear hK K
      try simp only [Act.put, List.setIfInBounds_toArray, List.set_cons_zero, List.set_cons_succ]
      refine wpAnyH_done (by kernel_rfl) ?_ _
      have H4 := H.next hb4'
      go_wp2_with fail
      go_ret
      exact ⟨rfl, H4.b⟩
end Go.Proofs.Ytfmgkinindkedaa
