
/- The contract of the program's test on tokens. -/
import Derived.Test.YtcadoplfgclbjaaSignI
import Derived.Test.YtcadoplfgclbjaaLexT
import Derived.Test.YtcadoplfgclbjaaNameOkI
import Derived.Test.YtcadoplfgclbjaaNmbI
namespace Go.Proofs.Ytcadoplfgclbjaa
open Go.RowKit

set_option maxRecDepth 100000 in
set_option maxHeartbeats 1600000 in
theorem tokenOk_impl (k : Int) (t : ByteArray) (a : Int) (w : World) (ht : t.size ≤ 9223372036854775807) :
    Calls Try.prog 19 #[.agg #[.int .i64 k, .string t, .int .i64 a]] w (BoolE (tokOk k t.data.toList) w) := by
  have hcell : ∀ w', Below (w.heap.size + 1) (w.alloc (.cells #[.int .i64 k, .string t, .int .i64 a] 26)) w' → w'.cell? ⟨w.heap.size, 1, none⟩ = some (.string t) := fun w' hb => by
    rw [hb.cell (p := ⟨w.heap.size, 1, none⟩) (by show w.heap.size < w.heap.size + 1; omega)]
    rw [cell_of_row _ w.heap.size 1 _ 26 (0, 0) (heap_alloc_new w _)]; rfl
  by_cases h1 : k = 1
  · subst h1
    have hT : tokOk 1 t.data.toList = (decide (0 < numOf (upL t.data.toList)) && (upL t.data.toList == t.data.toList)) := rfl
    have hK := fun w => keyOf_impl t w ht
    have hF := fun w => fold_impl t w ht
    unfold StrE at hF
    have hq : ((⟨(upL t.data.toList).toArray⟩ : ByteArray).toList == t.toList) = (upL t.data.toList == t.data.toList) := by
      rw [ByteArray.toList_eq, ByteArray.toList_eq]
    generalize (⟨(upL t.data.toList).toArray⟩ : ByteArray) = U at hF hq
    cases h0 : decide (0 < numOf (upL t.data.toList))
    · have d0 : ((numOf (upL t.data.toList) : Int) != 0) = false := by simp at h0 ⊢; omega
      rw [h0] at hT
      generalize (numOf (upL t.data.toList) : Int) = N at hK d0
      have HT := Lib.hid (show tokOk 1 t.data.toList = false from hT); clear hT h0 hq
      go_enter Try.func19, Try.ntmps19
      go_wp2_with fail
      first | go_region_with (go_at_call 26; refine (hK _).mono ?_; rintro e w1 ⟨rfl, hb1⟩) | fail
      all_goals
        have hbb := ((Below.refl w.heap.size w).alloc (Nat.le_refl _) _).trans ((below_dr hb1).mono (by simp))
        go_wp2_with fail
        go_ret
        exact ⟨by rw [HT.out]; rfl, hbb⟩
    · have d0 : ((numOf (upL t.data.toList) : Int) != 0) = true := by simp at h0 ⊢; omega
      rw [h0, Bool.true_and] at hT
      generalize (numOf (upL t.data.toList) : Int) = N at hK d0
      generalize (upL t.data.toList == t.data.toList) = b at hT hq
      have HT := Lib.hid hT; clear hT h0
      cases b
      all_goals
        go_enter Try.func19, Try.ntmps19
        go_wp2_with fail
        first | go_region_with (first | (go_at_call 26; refine (hK _).mono ?_; rintro e w1 ⟨rfl, hb1⟩; have hc1 := hcell w1 ((below_dr hb1).mono (by simp))) | (go_at_call 27; refine (hF _).mono ?_; rintro e w2 ⟨rfl, hb2⟩; have hz1 := hb1.size; have hb12 := ((below_dr hb1).mono (show w.heap.size + 1 ≤ _ by simp)).trans (hb2.mono (by simp at hz1; omega)); have hc2 := hcell w2 hb12)) | fail
        all_goals
          have hbb := ((Below.refl w.heap.size w).alloc (Nat.le_refl _) (.cells #[.int .i64 1, .string t, .int .i64 a] 26)).trans (hb12.mono (by omega))
          go_wp2_with fail
          go_ret
          exact ⟨by rw [HT.out]; rfl, hbb⟩
  · have q1 : (k == 1) = false := by simpa using h1
    by_cases h2 : k = 2
    · subst h2
      go_enter Try.func19, Try.ntmps19
      go_wp2_with fail
      refine (nameOk_impl t _ ht).mono ?_
      rintro e w1 ⟨rfl, rfl⟩
      go_wp2_with fail
      go_ret
      exact ⟨rfl, (Below.refl _ _).alloc (Nat.le_refl _) _⟩
    · have q2 : (k == 2) = false := by simpa using h2
      by_cases h3 : k = 3
      · subst h3
        go_enter Try.func19, Try.ntmps19
        go_wp2_with fail
        refine (number_impl t _ ht).mono ?_
        rintro e w1 ⟨⟨n, hn, rfl⟩ | ⟨hn, rfl⟩, hb⟩
        · have hE : tokOk 3 t.data.toList = true := (numB_iff _).2 ⟨n, hn⟩
          have HE := Lib.hid hE; clear hE hn
          go_wp2_with fail
          go_ret
          exact ⟨by rw [HE.out]; rfl, ((Below.refl _ _).alloc (Nat.le_refl _) _).trans (hb.mono (by simp))⟩
        · have hE : tokOk 3 t.data.toList = false := by
            cases h : tokOk 3 t.data.toList
            · rfl
            · obtain ⟨n, h'⟩ := (numB_iff _).1 h
              exact absurd h' (hn n)
          have HE := Lib.hid hE; clear hE hn
          go_wp2_with fail
          go_ret
          exact ⟨by rw [HE.out]; rfl, ((Below.refl _ _).alloc (Nat.le_refl _) _).trans (hb.mono (by simp))⟩
      · have q3 : (k == 3) = false := by simpa using h3
        by_cases h4 : k = 4
        · subst h4
          have hE : tokOk 4 t.data.toList = decide ((t.size : Int) ≤ 40) := by
            show decide (t.size ≤ 40) = decide ((t.size : Int) ≤ 40)
            exact decide_eq_decide.2 (by omega)
          have HE := Lib.hid hE; clear hE
          go_enter Try.func19, Try.ntmps19
          go_wp2_with fail
          go_ret
          exact ⟨by rw [HE.out]; rfl, (Below.refl _ _).alloc (Nat.le_refl _) _⟩
        · have q4 : (k == 4) = false := by simpa using h4
          by_cases h5 : k = 5
          · subst h5
            go_enter Try.func19, Try.ntmps19
            go_wp2_with fail
            refine (signOk_impl t _).mono ?_
            rintro e w1 ⟨rfl, rfl⟩
            go_wp2_with fail
            go_ret
            exact ⟨rfl, (Below.refl _ _).alloc (Nat.le_refl _) _⟩
          · have q5 : (k == 5) = false := by simpa using h5
            have HE := Lib.hid (tokOk_other (t := t.data.toList) h1 h2 h3 h4 h5)
            clear h1 h2 h3 h4 h5
            go_enter Try.func19, Try.ntmps19
            go_wp2_with fail
            go_ret
            exact ⟨by rw [HE.out]; rfl, (Below.refl _ _).alloc (Nat.le_refl _) _⟩
end Go.Proofs.Ytcadoplfgclbjaa
