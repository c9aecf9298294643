/- Joined texts: NeedlessL. -/
import Derived.Test.YtcadoplfgclbjaaDoorQL
import Derived.Test.YtcadoplfgclbjaaDoorQT
import Derived.Test.YtcadoplfgclbjaaDoorQS
import Derived.Test.YtcadoplfgclbjaaDoorQO
import Derived.Test.YtcadoplfgclbjaaDoorQR
import Derived.Test.YtcadoplfgclbjaaDoorQG
import Derived.Deep.RegionWith
/- The walk of the law FnNoNeedless, from the contracts of the program's functions. -/
namespace Go.Proofs.YtcadoplfgclbjaaDoor
open Go.RowKit

/-- what the program's NeedsGap is known to do -/
def GapM : Prop := ∀ (k : Int) (t : ByteArray) (a k' : Int) (t' : ByteArray) (a' : Int) (w : World), t.size ≤ 9223372036854775807 → t'.size ≤ 9223372036854775807 → MaxI w →
    Calls Tryd.prog 9 #[.agg #[.int .i64 k, .string t, .int .i64 a], .agg #[.int .i64 k', .string t', .int .i64 a']] w (BoolE (gapB k t.data.toList k' t'.data.toList) w)
theorem gap_no1 {k k' : Int} {t t' : List UInt8} (h : tokOk k t = false) : gapB k t k' t' = false := by unfold gapB; rw [h]; rfl
theorem gap_no2 {k k' : Int} {t t' : List UInt8} (h : tokOk k' t' = false) : gapB k t k' t' = false := by unfold gapB; rw [h, Bool.and_false]; rfl
/-- two tokens as a function of their number -/
def twoF (k : Int) (t : ByteArray) (a k' : Int) (t' : ByteArray) (a' : Int) (j : Nat) : Int × ByteArray × Int := if j = 0 then (k, t, a) else (k', t', a')
theorem two_toks (w : World) (k : Int) (t : ByteArray) (a k' : Int) (t' : ByteArray) (a' : Int) :
    TokSl (w.alloc (.cells #[.int .i64 k, .string t, .int .i64 a, .int .i64 k', .string t', .int .i64 a'] 25)) w.heap.size (some ⟨w.heap.size, 0, none⟩) 2 (twoF k t a k' t' a') := fun j hj => by
  have hr := heap_alloc_new w (.cells #[.int .i64 k, .string t, .int .i64 a, .int .i64 k', .string t', .int .i64 a'] 25)
  refine ⟨w.heap.size, rfl, Nat.le_refl _, by simp, ?_, ?_, ?_, frozen_of_row _ _ _ _ _ hr, frozen_of_row _ _ _ _ _ hr, frozen_of_row _ _ _ _ _ hr⟩
  · rw [cell_of_row _ w.heap.size (j * 3) _ 25 (0, 0) hr]
    rcases (show j = 0 ∨ j = 1 by omega) with rfl | rfl <;> rfl
  · rw [cell_of_row _ w.heap.size (j * 3 + 1) _ 25 (0, 0) hr]
    rcases (show j = 0 ∨ j = 1 by omega) with rfl | rfl <;> rfl
  · rw [cell_of_row _ w.heap.size (j * 3 + 2) _ 25 (0, 0) hr]
    rcases (show j = 0 ∨ j = 1 by omega) with rfl | rfl <;> rfl
/-- one text behind the other -/
theorem app_toList (x y : List UInt8) : ((⟨x.toArray⟩ : ByteArray) ++ (⟨y.toArray⟩ : ByteArray)).data.toList = x ++ y := by simp

set_option maxRecDepth 100000 in
set_option maxHeartbeats 4000000 in
theorem needless_law (hG : GapM) (hLI : LexI) (a : Option Addr) (len cap : Nat) (w : World) (hrow : RowB w.heap.size a len w) (hm : MaxI w) :
    Calls Tryd.prog 3 #[.slice a len cap] w (BoolE true w) := by
  have hlen := hrow.1
  by_cases hbig : 1048576 < len
  · go_enter Tryd.func3, Tryd.ntmps3
    go_wp2_with fail
    refine (big_yes a len cap _ hlen hbig).mono ?_
    rintro e w' ⟨rfl, rfl⟩
    go_wp2_with fail
    go_ret
    exact ⟨rfl, Below.refl _ _⟩
  · have hlate : ∀ W, Below w.heap.size w W → MaxI W := fun W hb => hm.later hb hm.two
    clear hm
    go_enter Tryd.func3, Tryd.ntmps3
    go_wp2_with fail
    refine (big_no a len cap _ hbig).mono ?_
    rintro e w' ⟨rfl, rfl⟩
    go_wp2_with fail
    refine (drawNeedsGap_any w.heap.size a len cap _ hrow (Nat.le_refl _)).mono ?_
    rintro e w1 ⟨k, t, x, k', t', x', ht, ht', rfl, hb1⟩
    have hz1 := hb1.size
    have hG1 := fun w hm => hG k t x k' t' x' w (by omega) (by omega) hm
    have hS1 := fun w => gap_spec k t x k' t' x' w (by omega) (by omega)
    have hO := fun w => tokenOk_spec k t x w (by omega)
    have hO' := fun w => tokenOk_spec k' t' x' w (by omega)
    have c0 := twoBox_cells (Below.refl (w1.heap.size + 2) (twoBox k t x k' t' x' w1))
    have hbx := hb1.trans ((twoBox_below k t x k' t' x' w1).mono hz1)
    have hmx := hlate _ hbx
    have hn1 := @gap_no1 k k' t.data.toList t'.data.toList
    have hn2 := @gap_no2 k k' t.data.toList t'.data.toList
    have hT := fun w => tokenText_spec k t x w (by omega)
    have hT' := fun w => tokenText_spec k' t' x' w (by omega)
    have htr := fun o1 o2 => @two_read k k' t.data.toList t'.data.toList o1 o2 (twoF k t x k' t' x') rfl rfl
    generalize hgb : gapB k t.data.toList k' t'.data.toList = b at hG1 hS1 hn1 hn2 htr
    clear hgb hG
    have s2 : Below (w1.heap.size + 2) (twoBox k t x k' t' x' w1) (twoBox k t x k' t' x' w1) := Below.refl _ _
    have hsz : ∀ w', Below (w1.heap.size + 2) (twoBox k t x k' t' x' w1) w' → w1.heap.size + 2 ≤ w'.heap.size := fun w' h => by have := h.size; rw [twoBox_size] at this; exact this
    have hfin : ∀ w', Below (w1.heap.size + 2) (twoBox k t x k' t' x' w1) w' → Below w.heap.size w w' := fun w' h => hbx.trans (h.mono (by omega))
    clear s2 c0
    cases o1 : tokOk k t.data.toList
    · obtain rfl := hn1 o1
      rw [o1] at hO
      clear hn1 hn2 htr hT hT' hO' o1
      go_wp2_with fail
      refine (hG1 _ hmx).mono ?_
      rintro e w2 ⟨rfl, hb2⟩
      have n2 : Below (w1.heap.size + 2) (twoBox k t x k' t' x' w1) w2 := hb2.mono (Nat.le_of_eq (twoBox_size k t x k' t' x' w1).symm)
      clear hb2
      obtain ⟨u0, u1, u2, v0, v1, v2⟩ := twoBox_cells n2
      go_wp2_with fail
      refine (hS1 _).mono ?_
      rintro e w3 ⟨rfl, hb3⟩
      have n3 := n2.trans (hb3.mono (hsz _ n2))
      clear hb3
      obtain ⟨u0, u1, u2, v0, v1, v2⟩ := twoBox_cells n3
      clear n2
      go_wp2_with fail
      refine (hO _).mono ?_
      rintro e w4 ⟨rfl, hb4⟩
      have n4 := n3.trans (hb4.mono (hsz _ n3))
      clear hb4
      obtain ⟨u0, u1, u2, v0, v1, v2⟩ := twoBox_cells n4
      clear n3
      go_wp2_with fail
      go_ret
      exact ⟨rfl, hfin _ n4⟩
    cases o2 : tokOk k' t'.data.toList
    · obtain rfl := hn2 o2
      rw [o1] at hO
      rw [o2] at hO'
      clear hn1 hn2 htr hT hT' o1 o2
      go_wp2_with fail
      refine (hG1 _ hmx).mono ?_
      rintro e w2 ⟨rfl, hb2⟩
      have n2 : Below (w1.heap.size + 2) (twoBox k t x k' t' x' w1) w2 := hb2.mono (Nat.le_of_eq (twoBox_size k t x k' t' x' w1).symm)
      clear hb2
      obtain ⟨u0, u1, u2, v0, v1, v2⟩ := twoBox_cells n2
      go_wp2_with fail
      refine (hS1 _).mono ?_
      rintro e w3 ⟨rfl, hb3⟩
      have n3 := n2.trans (hb3.mono (hsz _ n2))
      clear hb3
      obtain ⟨u0, u1, u2, v0, v1, v2⟩ := twoBox_cells n3
      clear n2
      go_wp2_with fail
      refine (hO _).mono ?_
      rintro e w4 ⟨rfl, hb4⟩
      have n4 := n3.trans (hb4.mono (hsz _ n3))
      clear hb4
      obtain ⟨u0, u1, u2, v0, v1, v2⟩ := twoBox_cells n4
      clear n3
      go_wp2_with fail
      refine (hO' _).mono ?_
      rintro e w5 ⟨rfl, hb5⟩
      have n5 := n4.trans (hb5.mono (hsz _ n4))
      clear hb5
      obtain ⟨u0, u1, u2, v0, v1, v2⟩ := twoBox_cells n5
      clear n4
      go_wp2_with fail
      go_ret
      exact ⟨rfl, hfin _ n5⟩
    have htxt := text_len o1
    have htxt' := text_len o2
    obtain ⟨htA, htB⟩ := htr o1 o2
    rw [o1] at hO
    rw [o2] at hO'
    unfold StrE at hT hT'
    obtain ⟨X, hX⟩ : ∃ X : ByteArray, X = ⟨(tokTextL k t.data.toList).toArray⟩ := ⟨_, rfl⟩
    obtain ⟨Y, hY⟩ : ∃ Y : ByteArray, Y = ⟨(tokTextL k' t'.data.toList).toArray⟩ := ⟨_, rfl⟩
    have hXY : (X ++ Y).data.toList = tokTextL k t.data.toList ++ tokTextL k' t'.data.toList := by rw [hX, hY]; exact app_toList _ _
    have hXYz : (X ++ Y).size ≤ 200 := by
      show (X ++ Y).data.toList.length ≤ 200
      rw [hXY, List.length_append]; omega
    have hXz : X.size ≤ 82 := by show X.data.toList.length ≤ 82; rw [hX]; exact htxt
    have hYz : Y.size ≤ 82 := by show Y.data.toList.length ≤ 82; rw [hY]; exact htxt'
    rw [← hXY] at htA htB
    rw [← hX] at hT
    rw [← hY] at hT'
    clear hX hY hXY htxt htxt' o1 o2 hn1 hn2 htr
    have HXz := Lib.hid hXYz
    clear hXYz
    cases b
    · obtain ⟨M, hr, hMn, hMs⟩ := htA rfl
      replace hMs : sameB M.length 2 (tokF M) (twoF k t x k' t' x') = true := by rw [hMn]; exact hMs
      have hMz : M.length ≤ 4000000 := by have := rn_le (X ++ Y).data.toList; rw [hr] at this; have h : M.length ≤ 2000 := this; omega
      have hLX : ∀ w, MaxI w → Calls Tryd.prog 12 #[.string (X ++ Y)] w (fun e w' => ∃ (a7 : Option Addr) (c7 : Nat), e = .returned (.tuple #[.slice a7 M.length c7, .int .i64 (-1)]) ∧ TokSl w' w.heap.size a7 M.length (tokF M) ∧ Below w.heap.size w w') := fun w hm => (hLI (X ++ Y) w (by have := HXz.out; omega) hm).mono fun e w' h => by
        rw [hr] at h
        exact h.row
      clear hr
      clear htA htB hMn
      go_wp2_with fail
      refine (hG1 _ hmx).mono ?_
      rintro e w2 ⟨rfl, hb2⟩
      have n2 : Below (w1.heap.size + 2) (twoBox k t x k' t' x' w1) w2 := hb2.mono (Nat.le_of_eq (twoBox_size k t x k' t' x' w1).symm)
      clear hb2
      obtain ⟨u0, u1, u2, v0, v1, v2⟩ := twoBox_cells n2
      go_wp2_with fail
      refine (hS1 _).mono ?_
      rintro e w3 ⟨rfl, hb3⟩
      have n3 := n2.trans (hb3.mono (hsz _ n2))
      clear hb3
      obtain ⟨u0, u1, u2, v0, v1, v2⟩ := twoBox_cells n3
      clear n2
      go_wp2_with fail
      refine (hO _).mono ?_
      rintro e w4 ⟨rfl, hb4⟩
      have n4 := n3.trans (hb4.mono (hsz _ n3))
      clear hb4
      obtain ⟨u0, u1, u2, v0, v1, v2⟩ := twoBox_cells n4
      clear n3
      go_wp2_with fail
      refine (hO' _).mono ?_
      rintro e w5 ⟨rfl, hb5⟩
      have n5 := n4.trans (hb5.mono (hsz _ n4))
      clear hb5
      obtain ⟨u0, u1, u2, v0, v1, v2⟩ := twoBox_cells n5
      clear n4
      have n5d := n5.drew
      go_wp2_with fail
      go_region_with (first
        | (go_at_call_of 13 (Value.agg #[Value.int IntKind.i64 k, Value.string t, Value.int IntKind.i64 x]); refine (hT _).mono ?_; rintro e wa ⟨rfl, hba⟩; have na : Below (w1.heap.size + 2) (twoBox k t x k' t' x' w1) wa := (by first | exact n5d.trans (hba.mono (hsz _ n5d)) | exact nb.trans (hba.mono (hsz _ nb))); obtain ⟨-, -, -, p0, p1, p2⟩ := twoBox_cells na)
        | (go_at_call_of 13 (Value.agg #[Value.int IntKind.i64 k', Value.string t', Value.int IntKind.i64 x']); refine (hT' _).mono ?_; rintro e wb ⟨rfl, hbb⟩; have nb : Below (w1.heap.size + 2) (twoBox k t x k' t' x' w1) wb := (by first | exact n5d.trans (hbb.mono (hsz _ n5d)) | exact na.trans (hbb.mono (hsz _ na))); obtain ⟨q0, q1, q2, -, -, -⟩ := twoBox_cells nb)
        | (go_at_call 12; refine (hLX _ ?_).mono ?_; first | exact hlate _ (hfin _ na) | exact hlate _ (hfin _ nb); rintro e w7 ⟨a7, c7, rfl, q7, hb7⟩; have n7 : Below (w1.heap.size + 2) (twoBox k t x k' t' x' w1) w7 := (by first | exact na.trans (hb7.mono (hsz _ na)) | exact nb.trans (hb7.mono (hsz _ nb)))))
      all_goals
        obtain ⟨u0, u1, u2, v0, v1, v2⟩ := twoBox_cells n7
        have hq := q7.below ((Below.refl w7.heap.size w7).alloc (Nat.le_refl _) (.cells #[.int .i64 k, .string t, .int .i64 x, .int .i64 k', .string t', .int .i64 x'] 25))
        have ht2 := two_toks w7 k t x k' t' x'
        have hSm := same_spec _ _ _ _ M.length 2 c7 2 _ _ _ hq ht2 hMz (by omega)
        rw [hMs] at hSm
        clear hq ht2 q7
        go_wp2_with fail
        refine hSm.mono ?_
        rintro e w8 ⟨rfl, hb8⟩
        have hb := (hfin _ n7).trans (((Below.refl w7.heap.size w7).alloc (Nat.le_refl _) (.cells #[.int .i64 k, .string t, .int .i64 x, .int .i64 k', .string t', .int .i64 x'] 25)).mono (hfin _ n7).size)
        have hb := hb.trans (hb8.mono (by have := (hfin _ n7).size; simp <;> omega))
        go_wp2_with fail
        go_ret
        exact ⟨rfl, hb⟩
    · rcases hr : lexR (X ++ Y).data.toList with p | M
      · skip
        have hp : ((p : Int) == -1) = false := by simp
        have hLX : ∀ w, MaxI w → Calls Tryd.prog 12 #[.string (X ++ Y)] w (fun e w' => ∃ (a7 : Option Addr) (c7 : Nat), e = .returned (.tuple #[.slice a7 0 c7, .int .i64 (p : Int)]) ∧ TokSl w' w.heap.size a7 0 (fun _ => (0, ⟨#[]⟩, 0)) ∧ Below w.heap.size w w') := fun w hm => (hLI (X ++ Y) w (by have := HXz.out; omega) hm).mono fun e w' h => by
          rw [hr] at h
          exact h.row
        clear hr
        clear htA htB
        go_wp2_with fail
        refine (hG1 _ hmx).mono ?_
        rintro e w2 ⟨rfl, hb2⟩
        have n2 : Below (w1.heap.size + 2) (twoBox k t x k' t' x' w1) w2 := hb2.mono (Nat.le_of_eq (twoBox_size k t x k' t' x' w1).symm)
        clear hb2
        obtain ⟨u0, u1, u2, v0, v1, v2⟩ := twoBox_cells n2
        go_wp2_with fail
        refine (hS1 _).mono ?_
        rintro e w3 ⟨rfl, hb3⟩
        have n3 := n2.trans (hb3.mono (hsz _ n2))
        clear hb3
        obtain ⟨u0, u1, u2, v0, v1, v2⟩ := twoBox_cells n3
        clear n2
        go_wp2_with fail
        refine (hO _).mono ?_
        rintro e w4 ⟨rfl, hb4⟩
        have n4 := n3.trans (hb4.mono (hsz _ n3))
        clear hb4
        obtain ⟨u0, u1, u2, v0, v1, v2⟩ := twoBox_cells n4
        clear n3
        go_wp2_with fail
        refine (hO' _).mono ?_
        rintro e w5 ⟨rfl, hb5⟩
        have n5 := n4.trans (hb5.mono (hsz _ n4))
        clear hb5
        obtain ⟨u0, u1, u2, v0, v1, v2⟩ := twoBox_cells n5
        clear n4
        have n5d := n5.drew
        go_wp2_with fail
        go_region_with (first
          | (go_at_call_of 13 (Value.agg #[Value.int IntKind.i64 k, Value.string t, Value.int IntKind.i64 x]); refine (hT _).mono ?_; rintro e wa ⟨rfl, hba⟩; have na : Below (w1.heap.size + 2) (twoBox k t x k' t' x' w1) wa := (by first | exact n5d.trans (hba.mono (hsz _ n5d)) | exact nb.trans (hba.mono (hsz _ nb))); obtain ⟨-, -, -, p0, p1, p2⟩ := twoBox_cells na)
          | (go_at_call_of 13 (Value.agg #[Value.int IntKind.i64 k', Value.string t', Value.int IntKind.i64 x']); refine (hT' _).mono ?_; rintro e wb ⟨rfl, hbb⟩; have nb : Below (w1.heap.size + 2) (twoBox k t x k' t' x' w1) wb := (by first | exact n5d.trans (hbb.mono (hsz _ n5d)) | exact na.trans (hbb.mono (hsz _ na))); obtain ⟨q0, q1, q2, -, -, -⟩ := twoBox_cells nb)
          | (go_at_call 12; refine (hLX _ ?_).mono ?_; first | exact hlate _ (hfin _ na) | exact hlate _ (hfin _ nb); rintro e w7 ⟨a7, c7, rfl, q7, hb7⟩; have n7 : Below (w1.heap.size + 2) (twoBox k t x k' t' x' w1) w7 := (by first | exact na.trans (hb7.mono (hsz _ na)) | exact nb.trans (hb7.mono (hsz _ nb)))))
        all_goals
          go_wp2_with fail
          go_ret
          exact ⟨rfl, hfin _ n7⟩
      · have hMs := htB rfl M hr
        have hMz : M.length ≤ 4000000 := by have := rn_le (X ++ Y).data.toList; rw [hr] at this; have h : M.length ≤ 2000 := this; omega
        have hLX : ∀ w, MaxI w → Calls Tryd.prog 12 #[.string (X ++ Y)] w (fun e w' => ∃ (a7 : Option Addr) (c7 : Nat), e = .returned (.tuple #[.slice a7 M.length c7, .int .i64 (-1)]) ∧ TokSl w' w.heap.size a7 M.length (tokF M) ∧ Below w.heap.size w w') := fun w hm => (hLI (X ++ Y) w (by have := HXz.out; omega) hm).mono fun e w' h => by
          rw [hr] at h
          exact h.row
        clear hr
        clear htA htB
        go_wp2_with fail
        refine (hG1 _ hmx).mono ?_
        rintro e w2 ⟨rfl, hb2⟩
        have n2 : Below (w1.heap.size + 2) (twoBox k t x k' t' x' w1) w2 := hb2.mono (Nat.le_of_eq (twoBox_size k t x k' t' x' w1).symm)
        clear hb2
        obtain ⟨u0, u1, u2, v0, v1, v2⟩ := twoBox_cells n2
        go_wp2_with fail
        refine (hS1 _).mono ?_
        rintro e w3 ⟨rfl, hb3⟩
        have n3 := n2.trans (hb3.mono (hsz _ n2))
        clear hb3
        obtain ⟨u0, u1, u2, v0, v1, v2⟩ := twoBox_cells n3
        clear n2
        go_wp2_with fail
        refine (hO _).mono ?_
        rintro e w4 ⟨rfl, hb4⟩
        have n4 := n3.trans (hb4.mono (hsz _ n3))
        clear hb4
        obtain ⟨u0, u1, u2, v0, v1, v2⟩ := twoBox_cells n4
        clear n3
        go_wp2_with fail
        refine (hO' _).mono ?_
        rintro e w5 ⟨rfl, hb5⟩
        have n5 := n4.trans (hb5.mono (hsz _ n4))
        clear hb5
        obtain ⟨u0, u1, u2, v0, v1, v2⟩ := twoBox_cells n5
        clear n4
        have n5d := n5.drew
        go_wp2_with fail
        go_region_with (first
          | (go_at_call_of 13 (Value.agg #[Value.int IntKind.i64 k, Value.string t, Value.int IntKind.i64 x]); refine (hT _).mono ?_; rintro e wa ⟨rfl, hba⟩; have na : Below (w1.heap.size + 2) (twoBox k t x k' t' x' w1) wa := (by first | exact n5d.trans (hba.mono (hsz _ n5d)) | exact nb.trans (hba.mono (hsz _ nb))); obtain ⟨-, -, -, p0, p1, p2⟩ := twoBox_cells na)
          | (go_at_call_of 13 (Value.agg #[Value.int IntKind.i64 k', Value.string t', Value.int IntKind.i64 x']); refine (hT' _).mono ?_; rintro e wb ⟨rfl, hbb⟩; have nb : Below (w1.heap.size + 2) (twoBox k t x k' t' x' w1) wb := (by first | exact n5d.trans (hbb.mono (hsz _ n5d)) | exact na.trans (hbb.mono (hsz _ na))); obtain ⟨q0, q1, q2, -, -, -⟩ := twoBox_cells nb)
          | (go_at_call 12; refine (hLX _ ?_).mono ?_; first | exact hlate _ (hfin _ na) | exact hlate _ (hfin _ nb); rintro e w7 ⟨a7, c7, rfl, q7, hb7⟩; have n7 : Below (w1.heap.size + 2) (twoBox k t x k' t' x' w1) w7 := (by first | exact na.trans (hb7.mono (hsz _ na)) | exact nb.trans (hb7.mono (hsz _ nb)))))
        all_goals
          obtain ⟨u0, u1, u2, v0, v1, v2⟩ := twoBox_cells n7
          have hq := q7.below ((Below.refl w7.heap.size w7).alloc (Nat.le_refl _) (.cells #[.int .i64 k, .string t, .int .i64 x, .int .i64 k', .string t', .int .i64 x'] 25))
          have ht2 := two_toks w7 k t x k' t' x'
          have hSm := same_spec _ _ _ _ M.length 2 c7 2 _ _ _ hq ht2 hMz (by omega)
          rw [hMs] at hSm
          clear hq ht2 q7
          go_wp2_with fail
          refine hSm.mono ?_
          rintro e w8 ⟨rfl, hb8⟩
          have hb := (hfin _ n7).trans (((Below.refl w7.heap.size w7).alloc (Nat.le_refl _) (.cells #[.int .i64 k, .string t, .int .i64 x, .int .i64 k', .string t', .int .i64 x'] 25)).mono (hfin _ n7).size)
          have hb := hb.trans (hb8.mono (by have := (hfin _ n7).size; simp <;> omega))
          go_wp2_with fail
          go_ret
          exact ⟨rfl, hb⟩
end Go.Proofs.YtcadoplfgclbjaaDoor
