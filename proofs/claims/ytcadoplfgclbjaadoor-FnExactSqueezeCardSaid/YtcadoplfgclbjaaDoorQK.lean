/- Joined texts: TokI LexI. -/
import Derived.Test.YtcadoplfgclbjaaDoorQI
import Derived.Test.YtcadoplfgclbjaaDoorQF
import Derived.Test.YtcadoplfgclbjaaDoorQB
import Derived.Test.YtcadoplfgclbjaaDoorQC
import Derived.Test.YtcadoplfgclbjaaDoorQJ
import Derived.WalkMore
import Derived.ScopeJumps
/- The contract of the program's test on tokens. -/
namespace Go.Proofs.YtcadoplfgclbjaaDoor
open Go.RowKit

set_option maxRecDepth 100000 in
set_option maxHeartbeats 1600000 in
theorem tokenOk_impl (k : Int) (t : ByteArray) (a : Int) (w : World) (ht : t.size ≤ 9223372036854775807) :
    Calls Tryd.prog 38 #[.agg #[.int .i64 k, .string t, .int .i64 a]] w (BoolE (tokOk k t.data.toList) w) := by
  have hcell : ∀ w', Below (w.heap.size + 1) (w.alloc (.cells #[.int .i64 k, .string t, .int .i64 a] 25)) w' → w'.cell? ⟨w.heap.size, 1, none⟩ = some (.string t) := fun w' hb => by
    rw [hb.cell (p := ⟨w.heap.size, 1, none⟩) (by show w.heap.size < w.heap.size + 1; omega)]
    rw [cell_of_row _ w.heap.size 1 _ 25 (0, 0) (heap_alloc_new w _)]; rfl
  by_cases h1 : k = 1
  · subst h1
    have hT : tokOk 1 t.data.toList = (decide (0 < numOf (upL t.data.toList)) && (upL t.data.toList == t.data.toList)) := rfl
    have hK := fun w => keyOf_impl t w ht
    have hF := fun w => fold_impl t w ht
    unfold StrE at hF
    have hq : ((⟨(upL t.data.toList).toArray⟩ : ByteArray).toList == t.toList) = (upL t.data.toList == t.data.toList) := by
      rw [ByteArray.toList_eq, ByteArray.toList_eq]
    generalize (⟨(upL t.data.toList).toArray⟩ : ByteArray) = U at hF hq
    cases h0 : decide (0 < numOf (upL t.data.toList))
    · have d0 : ((numOf (upL t.data.toList) : Int) != 0) = false := by simp at h0 ⊢; omega
      rw [h0] at hT
      generalize (numOf (upL t.data.toList) : Int) = N at hK d0
      have HT := Lib.hid (show tokOk 1 t.data.toList = false from hT); clear hT h0 hq
      go_enter Tryd.func38, Tryd.ntmps38
      go_wp2_with fail
      first | go_region_with (go_at_call 67; refine (hK _).mono ?_; rintro e w1 ⟨rfl, hb1⟩) | fail
      all_goals
        have hbb := ((Below.refl w.heap.size w).alloc (Nat.le_refl _) _).trans ((below_dr hb1).mono (by simp))
        go_wp2_with fail
        go_ret
        exact ⟨by rw [HT.out]; rfl, hbb⟩
    · have d0 : ((numOf (upL t.data.toList) : Int) != 0) = true := by simp at h0 ⊢; omega
      rw [h0, Bool.true_and] at hT
      generalize (numOf (upL t.data.toList) : Int) = N at hK d0
      generalize (upL t.data.toList == t.data.toList) = b at hT hq
      have HT := Lib.hid hT; clear hT h0
      cases b
      all_goals
        go_enter Tryd.func38, Tryd.ntmps38
        go_wp2_with fail
        first | go_region_with (first | (go_at_call 67; refine (hK _).mono ?_; rintro e w1 ⟨rfl, hb1⟩; have hc1 := hcell w1 ((below_dr hb1).mono (by simp))) | (go_at_call 68; refine (hF _).mono ?_; rintro e w2 ⟨rfl, hb2⟩; have hz1 := hb1.size; have hb12 := ((below_dr hb1).mono (show w.heap.size + 1 ≤ _ by simp)).trans (hb2.mono (by simp at hz1; omega)); have hc2 := hcell w2 hb12)) | fail
        all_goals
          have hbb := ((Below.refl w.heap.size w).alloc (Nat.le_refl _) (.cells #[.int .i64 1, .string t, .int .i64 a] 25)).trans (hb12.mono (by omega))
          go_wp2_with fail
          go_ret
          exact ⟨by rw [HT.out]; rfl, hbb⟩
  · have q1 : (k == 1) = false := by simpa using h1
    by_cases h2 : k = 2
    · subst h2
      go_enter Tryd.func38, Tryd.ntmps38
      go_wp2_with fail
      refine (nameOk_impl t _ ht).mono ?_
      rintro e w1 ⟨rfl, rfl⟩
      go_wp2_with fail
      go_ret
      exact ⟨rfl, (Below.refl _ _).alloc (Nat.le_refl _) _⟩
    · have q2 : (k == 2) = false := by simpa using h2
      by_cases h3 : k = 3
      · subst h3
        go_enter Tryd.func38, Tryd.ntmps38
        go_wp2_with fail
        refine (number_impl t _ ht).mono ?_
        rintro e w1 ⟨⟨n, hn, rfl⟩ | ⟨hn, rfl⟩, hb⟩
        · have hE : tokOk 3 t.data.toList = true := (numB_iff _).2 ⟨n, hn⟩
          have HE := Lib.hid hE; clear hE hn
          go_wp2_with fail
          go_ret
          exact ⟨by rw [HE.out]; rfl, ((Below.refl _ _).alloc (Nat.le_refl _) _).trans (hb.mono (by simp))⟩
        · have hE : tokOk 3 t.data.toList = false := by
            cases h : tokOk 3 t.data.toList
            · rfl
            · obtain ⟨n, h'⟩ := (numB_iff _).1 h
              exact absurd h' (hn n)
          have HE := Lib.hid hE; clear hE hn
          go_wp2_with fail
          go_ret
          exact ⟨by rw [HE.out]; rfl, ((Below.refl _ _).alloc (Nat.le_refl _) _).trans (hb.mono (by simp))⟩
      · have q3 : (k == 3) = false := by simpa using h3
        by_cases h4 : k = 4
        · subst h4
          have hE : tokOk 4 t.data.toList = decide ((t.size : Int) ≤ 40) := by
            show decide (t.size ≤ 40) = decide ((t.size : Int) ≤ 40)
            exact decide_eq_decide.2 (by omega)
          have HE := Lib.hid hE; clear hE
          go_enter Tryd.func38, Tryd.ntmps38
          go_wp2_with fail
          go_ret
          exact ⟨by rw [HE.out]; rfl, (Below.refl _ _).alloc (Nat.le_refl _) _⟩
        · have q4 : (k == 4) = false := by simpa using h4
          by_cases h5 : k = 5
          · subst h5
            go_enter Tryd.func38, Tryd.ntmps38
            go_wp2_with fail
            refine (signOk_impl t _).mono ?_
            rintro e w1 ⟨rfl, rfl⟩
            go_wp2_with fail
            go_ret
            exact ⟨rfl, (Below.refl _ _).alloc (Nat.le_refl _) _⟩
          · have q5 : (k == 5) = false := by simpa using h5
            have HE := Lib.hid (tokOk_other (t := t.data.toList) h1 h2 h3 h4 h5)
            clear h1 h2 h3 h4 h5
            go_enter Tryd.func38, Tryd.ntmps38
            go_wp2_with fail
            go_ret
            exact ⟨by rw [HE.out]; rfl, (Below.refl _ _).alloc (Nat.le_refl _) _⟩
end Go.Proofs.YtcadoplfgclbjaaDoor

/- The contract of the program's lexer. -/
namespace Go.Proofs.YtcadoplfgclbjaaDoor
open Go.RowKit

theorem stepE_zero {l : List UInt8} {a n : Nat} {k : Int} {t : List UInt8} (h : n = 0) : stepE l a (k, t, n) = .error a := by subst h; unfold stepE; rw [if_pos rfl]
theorem stepE_gap {l : List UInt8} {a n : Nat} {k : Int} {t : List UInt8} (h : ¬ n = 0) (hk : k = 0) : stepE l a (k, t, n) = lexF l (a + n) := by subst hk; unfold stepE; rw [if_neg h, if_pos rfl]
theorem stepE_bad {l : List UInt8} {a n : Nat} {k : Int} {t : List UInt8} (h : ¬ n = 0) (hk : ¬ k = 0) (ht : tokOk k t = false) : stepE l a (k, t, n) = .error a := by unfold stepE; rw [if_neg h, if_neg hk, if_pos ht]
theorem stepE_tok {l : List UInt8} {a n : Nat} {k : Int} {t : List UInt8} (h : ¬ n = 0) (hk : ¬ k = 0) (ht : tokOk k t = true) : stepE l a (k, t, n) = (lexF l (a + n)).map fun L => ⟨k, t, a⟩ :: L := by unfold stepE; rw [if_neg h, if_neg hk, if_neg (by rw [ht]; simp)]
theorem tok_alloc3 (w : World) (k : Int) (t : ByteArray) : TokAt (w.alloc (.cells #[.int .i64 k, .string t, .int .i64 0] 25)) w.heap.size k t 0 := heap_alloc_new w _
theorem below_alloc3 {w0 w : World} {B : Nat} (h : Below B w0 w) (hB : B ≤ w.heap.size) (k : Int) (t : ByteArray) : Below B w0 (w.alloc (.cells #[.int .i64 k, .string t, .int .i64 0] 25)) := h.alloc hB _

theorem ownT_same {w w' : World} {B : Nat} {v : Value} {L : List Tk} (h : OwnT w B v L) (hb : ∀ g, g < w.heap.size → w'.heap[g]? = w.heap[g]?) : OwnT w' B v L := by
  refine ⟨h.1, ?_⟩
  rcases h.2 with hn | ⟨g, cap, cur, rfl, hB, hgg, rest⟩
  · exact .inl hn
  · exact .inr ⟨g, cap, cur, rfl, hB, (hb g (Array.getElem?_eq_some_iff.1 hgg).1).trans hgg, rest⟩

set_option maxRecDepth 100000 in
set_option maxHeartbeats 8000000 in
theorem lex_impl (s : ByteArray) (w : World) (hs : s.size ≤ 9223372036854775807) (hm : MaxI w) :
    Calls Tryd.prog 12 #[.string s] w (LexE (lexR s.data.toList) w) := by
  have hlen : s.data.toList.length = s.size := rfl
  by_cases hbig : 2000 < s.size
  · have d : decide (2000 < (s.size : Int)) = true := by simp; omega
    have hE : lexR s.data.toList = .error 2000 := by unfold lexR; rw [if_pos (by omega)]
    have HE := Lib.hid hE; clear hE
    go_enter Tryd.func12, Tryd.ntmps12
    go_wp2_with fail
    go_step3
    go_wp2_with fail
    rw [Exit.noGoto_ret]
    go_ret2
    exact LexE.bad (L := []) (n := 2000) (by rw [HE.out]; rfl) rfl (Below.refl _ _)
  · have d : decide (2000 < (s.size : Int)) = false := by simp; omega
    have hE : lexR s.data.toList = lexF s.data.toList 0 := by unfold lexR; rw [if_neg (by omega)]
    rw [hE]; clear hE
    have hlate : ∀ W, Below w.heap.size w W → MaxI W := fun W hb => hm.later hb hm.two
    clear hm
    go_enter Tryd.func12, Tryd.ntmps12
    go_wp2_with fail
    refine wp_scope_jumps 0 (fun a' w' => ∃ (k : Nat) (u1 u2 u3 u4 u6 u7 u8 u9 u10 u11 u12 u13 u14 u15 u16 u17 u18 u19 u20 u21 u22 u23 u24 u25 u26 u27 u28 u29 u30 u31 u32 u33 u34 u35 u36 u37 u38 u39 u40 u41 u42 u43 u44 u45 u46 : Value), Hid (lexF s.data.toList 0 = .error k) ∧ Below w.heap.size w w' ∧ a' = { tmps := #[.string s, u1, u2, u3, u4, (.int .i64 (k : Int)), u6, u7, u8, u9, u10, u11, u12, u13, u14, u15, u16, u17, u18, u19, u20, u21, u22, u23, u24, u25, u26, u27, u28, u29, u30, u31, u32, u33, u34, u35, u36, u37, u38, u39, u40, u41, u42, u43, u44, u45, u46], defers := [] }) (fun _ _ => 0) rfl ?_ ?_
    · go_wp2_with fail
      go_step3
      go_wp2_with fail
      go_loopw [4, 5] (fun v i wr => ∃ (k : Nat) (L : List Tk), k ≤ s.size ∧ L.length ≤ k ∧ i = .int .i64 (k : Int) ∧ Hid (lexF s.data.toList 0 = aheadT L (lexF s.data.toList k)) ∧ OwnT wr w.heap.size v L ∧ Below w.heap.size w wr) (fun _ i _ => s.size - (intOf i).toNat)
      case atStart => exact ⟨0, [], by omega, by simp, rfl, (aheadT_nil _).symm, World.ownsRow_nil _ _ _ _, Below.refl _ _⟩
      case round =>
        obtain ⟨k, L, hk, hLk, rfl, HL, hown, hbel⟩ := hrel
        have hsz := hbel.size
        by_cases hlt : k < s.size
        · have hlt2 : (k : Int) < (s.size : Int) := by omega
          have hki : (k : Int) ≤ (s.size : Int) := by omega
          have hx := lex_el s.data.toList k hlt
          have hle := el_le (s.data.toList.drop k) (by rw [List.length_drop]; omega)
          rw [List.length_drop] at hle
          have htx := el_text (s.data.toList.drop k)
          rw [List.length_drop] at htx
          obtain ⟨X, hX⟩ : ∃ X, s.extract k s.size = X := ⟨_, rfl⟩
          have hXd : X.data.toList = s.data.toList.drop k := by
            rw [← hX, Lib.extract_data, List.take_of_length_le]
            rw [List.length_drop]; exact Nat.le_refl _
          have hXz : X.size = s.size - k := by
            show X.data.toList.length = _
            rw [hXd, List.length_drop]; rfl
          have hF := fun w hm => firstElement_impl X w (by omega) (by omega) hm
          rw [hXd] at hF
          clear hXd
          generalize el (s.data.toList.drop k) = x at hx hle htx hF
          obtain ⟨kk, t, n⟩ := x
          have hle2 : n ≤ s.size - k := hle
          have hTz : t.length ≤ s.size - k := htx
          clear hle htx
          have hF2 : ∀ w, MaxI w → Calls Tryd.prog 37 #[.string X] w (fun e w' => e = .returned (.tuple #[.agg #[.int .i64 kk, .string ⟨t.toArray⟩, .int .i64 0], .int .i64 (n : Int)]) ∧ Below w.heap.size w w') := hF
          clear hF
          obtain ⟨T, hT⟩ : ∃ T : ByteArray, T = ⟨t.toArray⟩ := ⟨_, rfl⟩
          rw [← hT] at hF2
          have htT : t = T.data.toList := by rw [hT]
          clear hT
          subst htT
          have hTz2 : T.size ≤ s.size := Nat.le_trans hTz (Nat.sub_le _ _)
          clear hTz
          have hmr := hlate _ hbel
          have e0 := fun h => hx.trans (stepE_zero h)
          have e1 := fun h h2 => hx.trans (stepE_gap h h2)
          have e2 := fun h h2 h3 => hx.trans (stepE_bad h h2 h3)
          have e3 := fun h h2 h3 => hx.trans (stepE_tok h h2 h3)
          clear hx
          go_wp2_with fail
          refine (hF2 _ hmr).mono ?_
          rintro e w1 ⟨rfl, hb1⟩
          clear hF2 hmr
          have hbb := hbel.trans (hb1.mono hsz)
          have hz1 := hbb.size
          have hown1 : OwnT w1 w.heap.size u4 L := ownT_same hown fun g hg => hb1.block g hg
          clear hb1 hbel hown
          by_cases hn0 : n = 0
          · have dn : ((n : Int) == 0) = true := by simp; omega
            have HB := Lib.hid (e0 hn0)
            clear e0 e1 e2 e3
            go_wp2_with fail
            go_step3
            refine ⟨rfl, k, _, _, _, _, _, _, _, _, _, _, _, _, _, _, _, _, _, _, _, _, _, _, _, _, _, _, _, _, _, _, _, _, _, _, _, _, _, _, _, _, _, _, _, _, _, ?_, ?_, rfl⟩
            · unfold Hid; rw [HL.out, HB.out]; rfl
            · exact hbb.alloc hz1 _
          · have dn : ((n : Int) == 0) = false := by simp; omega
            by_cases hk0 : kk = 0
            · subst hk0
              have HB := Lib.hid (e1 hn0 rfl)
              clear e0 e1 e2 e3
              go_wp2_with fail
              go_roundw
              case rel => exact ⟨k + n, L, by omega, by omega, by go_num, by unfold Hid; rw [HL.out, HB.out], World.ownsRow.alloc hown1 _, hbb.alloc hz1 _⟩
              case measure => simp [intOf]; omega
            · have dk : (kk == 0) = false := by simpa using hk0
              have hO := fun w => tokenOk_impl kk T 0 w (by omega)
              have hR := tok_alloc3 w1 kk T
              have hB1 := below_alloc3 hbb hz1 kk T
              go_wp2_with fail
              refine (hO _).mono ?_
              rintro e w2 ⟨rfl, hb2⟩
              clear hO
              have hR2 := hR.below hb2 (Array.getElem?_eq_some_iff.1 hR).1
              have hb12 : Below w1.heap.size w1 w2 := ((Below.refl _ _).alloc (Nat.le_refl _) (.cells #[.int .i64 kk, .string T, .int .i64 0] 25)).trans (hb2.mono (by simp))
              have hB2 := hbb.trans (hb12.mono hz1)
              have hz2 : w1.heap.size < w2.heap.size := (Array.getElem?_eq_some_iff.1 hR2).1
              clear hb2 hB1 hR
              cases hok : tokOk kk T.data.toList
              · have HB := Lib.hid (e2 hn0 hk0 hok)
                clear e0 e1 e2 e3 hok
                go_wp2_with fail
                go_step3
                refine ⟨rfl, k, _, _, _, _, _, _, _, _, _, _, _, _, _, _, _, _, _, _, _, _, _, _, _, _, _, _, _, _, _, _, _, _, _, _, _, _, _, _, _, _, _, _, _, _, _, ?_, ?_, rfl⟩
                · unfold Hid; rw [HL.out, HB.out]; rfl
                · exact hB2
              · have HB := Lib.hid (e3 hn0 hk0 hok)
                clear e0 e1 e2 e3 hok
                have c0 := cell_of_row w2 w1.heap.size 0 _ 25 (0, 0) hR2
                have c1 := cell_of_row w2 w1.heap.size 1 _ 25 (0, 0) hR2
                have c2 := cell_of_row w2 w1.heap.size 2 _ 25 (0, 0) hR2
                have z0 := frozen_of_row w2 w1.heap.size 0 _ 25 hR2
                have z1 := frozen_of_row w2 w1.heap.size 1 _ 25 hR2
                have z2 := frozen_of_row w2 w1.heap.size 2 _ 25 hR2
                have hown2 : OwnT (w2.setCell ⟨w1.heap.size, 2, none⟩ (.int .i64 (k : Int))) w.heap.size u4 L := ownT_same hown1 fun g hg => (heap_setCell_other w2 ⟨w1.heap.size, 2, none⟩ g _ (by show g ≠ w1.heap.size; omega)).trans (hb12.block g hg)
                have hB3 := hB2.setCell (p := ⟨w1.heap.size, 2, none⟩) hz1 (.int .i64 (k : Int))
                have hsz3 : (w2.setCell ⟨w1.heap.size, 2, none⟩ (.int .i64 (k : Int))).heap.size = w2.heap.size := by simp
                have hz3 : w.heap.size ≤ w2.heap.size := by omega
                go_wp2_with (at_builtin; go_must (refine appT rfl (.tmp 38) (.tmp 40) rfl w.heap.size u4 L ⟨kk, T.data.toList, k⟩ T rfl (w2.setCell ⟨w1.heap.size, 2, none⟩ (.int .i64 (k : Int))) w2.heap.size hsz3 rfl rfl hown2 (by omega) (by rw [hsz3]; exact hz3) ?_); intro g3 c3 w3 hown3 hbel3)
                go_roundw
                case rel => exact ⟨k + n, L ++ [⟨kk, T.data.toList, k⟩], by omega, by simp; omega, by go_num, by unfold Hid; rw [HL.out, HB.out, aheadT_cons], by have h := hown3; simpa using h, hB3.trans hbel3⟩
                case measure => simp [intOf]; omega
        · have hkk : k = s.size := by omega
          have hend := Lib.hid (lexF_end (l := s.data.toList) (a := k) (p := k) (pass_out hlt) hlt)
          go_wp2_with fail
          simp only [Exit.jump]
          go_ret2
          exact LexE.good (HL.out.trans (by rw [hend.out])) hown hbel
    · rintro a' w' ⟨k, u1, u2, u3, u4, u6, u7, u8, u9, u10, u11, u12, u13, u14, u15, u16, u17, u18, u19, u20, u21, u22, u23, u24, u25, u26, u27, u28, u29, u30, u31, u32, u33, u34, u35, u36, u37, u38, u39, u40, u41, u42, u43, u44, u45, u46, HJ, hbel, rfl⟩
      go_wp2_with fail
      simp only [Exit.jump]
      go_ret2
      exact LexE.bad (L := []) HJ.out rfl hbel
end Go.Proofs.YtcadoplfgclbjaaDoor
