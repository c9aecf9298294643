/- Joined texts: SpaceI. -/
import Derived.Test.YtcadoplfgclbjaaDoorQSpacedLaw
import Derived.Test.YtcadoplfgclbjaaDoorQSpaceI0
import Derived.Laws.BytesArg
/- The contracts of the program's writing of tokens with blanks between. -/
namespace Go.Proofs.YtcadoplfgclbjaaDoor
open Go.RowKit

set_option maxRecDepth 100000 in
set_option maxHeartbeats 8000000 in
theorem joined_gap (B : Nat) (a : Option Addr) (n ca : Nat) (f : Nat → Int × ByteArray × Int) (w : World) (ha : TokSl w B a n f) (hn : n ≤ 4000000) (hf : Hid (∀ j, j < n → (f j).2.1.size ≤ 9223372036854775807)) (hm : MaxI w) :
    Calls Tryd.prog 44 #[.slice a n ca, .func (.func 9) #[] #[]] w (StrE (joinL false n f) w) := by
  obtain ⟨i0, hi, hz0, hz1, hz2⟩ := info_parts Tryd.info8j
  have hlate : ∀ W, Below w.heap.size w W → MaxI W := fun W hb => hm.later hb hm.two
  clear hm
  go_enter Tryd.func44, Tryd.ntmps44
  go_wp2_with fail
  go_loopw [5, 10] (fun v i wr => ∃ (k : Nat) (l : List UInt8), k ≤ n ∧ i = .int .i64 (k : Int) ∧ RowV k v l ∧ l.length ≤ 2000 ∧ Hid (l = spL false (keyF k f)) ∧ Hid ((List.range k).all (okAt f) = true) ∧ OwnB 5 wr w.heap.size v l ∧ Below w.heap.size w wr) (fun _ i _ => n - (intOf i).toNat)
  case atStart => exact ⟨0, [], by omega, rfl, .inl ⟨rfl, rfl, rfl⟩, by simp, rfl, rfl, OwnB.nil _ _ _, Below.refl _ _⟩
  case round =>
    obtain ⟨k, l, hk, rfl, hV, hl, HL, HO, hown, hbel⟩ := hrel
    have hsz := hbel.size
    by_cases hlt : k < n
    · have hlt2 : (k : Int) < (n : Int) := by omega
      have r4 := ha.below (hbel)
      obtain ⟨b, rfl, _, hbl, c0, c1, c2, _⟩ := r4 k hlt
      have hT := hf.out k hlt
      have hOk := fun w => tokenOk_impl (f k).1 (f k).2.1 (f k).2.2 w hT
      have hTx := fun w hm => tokenText_impl (f k).1 (f k).2.1 (f k).2.2 w hT hm
      have hstep := spL_step false f k
      have hoks := ok_step f k
      have hno := @joinL_no false n k f hlt
      have htl := @text_len (f k).1 (f k).2.1.data.toList
      have hok : tokOk (f k).1 (f k).2.1.data.toList = okAt f k := rfl
      have hne := @tokText_ne (f k).1 (f k).2.1.data.toList
      rw [hok] at hOk htl hne
      unfold StrE at hTx
      generalize hX : (⟨(tokTextL (f k).1 (f k).2.1.data.toList).toArray⟩ : ByteArray) = X at hTx
      have hXl : X.data.toList = tokTextL (f k).1 (f k).2.1.data.toList := by rw [← hX]
      have hXs : X.size = (tokTextL (f k).1 (f k).2.1.data.toList).length := by rw [← hXl]; rfl
      have hXne : okAt f k = true → 0 < X.size := fun h => by rw [hXs]; exact List.length_pos_iff.2 (hne h)
      rw [← hXl] at hstep
      rw [← hXs] at htl
      clear hX hXl hXs hok hne
      have n0 : Below wr.heap.size wr (tokNew (f k).1 (f k).2.1 (f k).2.2 wr) := tokNew_below _ _ _ _
      cases ho : okAt f k
      · rw [ho] at hOk
        have HN := Lib.hid (hno ho)
        clear hstep hoks hno htl ho hTx hXne
        go_wp2_with fail
        refine (hOk _).mono ?_
        rintro e w1 ⟨rfl, hb1⟩
        have b1 := hbel.trans ((n0.trans (hb1.mono (by simp))).mono hsz)
        go_wp2_with fail
        go_ret
        exact ⟨by rw [HN.out]; rfl, b1⟩
      · rw [ho] at hOk hoks
        rw [HO.out] at hoks
        have htl := htl ho
        have hXp := hXne ho
        have HO2 := Lib.hid (show (List.range (k + 1)).all (okAt f) = true from hoks)
        clear hno ho hoks hXne
        rw [← HL.out] at hstep
        rcases hV with ⟨rfl, rfl, rfl⟩ | ⟨hk0, g, cap, rfl⟩
        · have hb : blankB false f 0 = false := rfl
          have HS0 := Lib.hid (show spL false (keyF (0 + 1) f) = X.data.toList by rw [hstep, hb]; simp)
          clear hstep hb
          go_wp2_with fail
          refine (hOk _).mono ?_
          rintro e w1 ⟨rfl, hb1⟩
          have m1 : Below (wr.heap.size + 1) (tokNew (f 0).1 (f 0).2.1 (f 0).2.2 wr) w1 := hb1.mono (by simp)
          have n1 : Below wr.heap.size wr w1 := n0.trans (m1.mono (by omega))
          go_wp2_with fail
          refine region_lat (by kernel_rfl) (by kernel_rfl) ?_
          iterate 12 (go_big_quiet_step (fail))
          refine wpQuiet_nil ?_
          rintro _ ⟨nq, rfl⟩
          have hl1 := lat_below w1 nq
          have m2 : Below (wr.heap.size + 1) (tokNew (f 0).1 (f 0).2.1 (f 0).2.2 wr) (lat w1 nq) := m1.trans (hl1.mono (by have := m1.size; rw [tokNew_size] at this; exact this))
          clear hl1 m1 n1 hb1
          generalize lat w1 nq = wq at m2 ⊢
          obtain ⟨d0, d1, d2⟩ := tokNew_cells m2
          have n2 : Below wr.heap.size wr wq := n0.trans (m2.mono (by omega))
          have b2 := hbel.trans (n2.mono hsz)
          go_wp2_with fail
          refine (hTx _ (hlate _ b2)).mono ?_
          rintro e w3 ⟨rfl, hb3⟩
          have b3 := b2.trans (hb3.mono b2.size)
          have z3 := b3.size
          obtain ⟨l2, HL2⟩ : ∃ l2, Hid (l2 = X.data.toList) := ⟨X.data.toList, rfl⟩
          have HS := Lib.hid (HS0.out.trans HL2.out.symm)
          have hln : l2.length ≤ 4083 := by rw [HL2.out]; show X.size ≤ _; omega
          by_cases h2 : 2000 < l2.length
          · have d : decide ((2000 : Int) < (l2.length : Int)) = true := by simp; omega
            have HJ := Lib.hid (@joinL_long false (0 + 1) n f (by omega) (by rw [HS.out]; exact h2))
            go_wp2_with (at_builtin; go_must (refine appS0 Tryd.underlying22 Tryd.underlying9 hi hz0 hz1 hz2 rfl (.tmp 33) (.tmp 35) rfl w.heap.size X w3 rfl rfl hXp (by omega) z3 ?_); intro g4 c4 w4 hown4 hbel4; rw [← HL2.out] at hown4 ⊢; have b4 := b3.trans hbel4)
            go_ret
            exact ⟨by rw [HJ.out]; rfl, b4⟩
          · have d : decide ((2000 : Int) < (l2.length : Int)) = false := by simp; omega
            go_wp2_with (at_builtin; go_must (refine appS0 Tryd.underlying22 Tryd.underlying9 hi hz0 hz1 hz2 rfl (.tmp 33) (.tmp 35) rfl w.heap.size X w3 rfl rfl hXp (by omega) z3 ?_); intro g4 c4 w4 hown4 hbel4; rw [← HL2.out] at hown4 ⊢; have b4 := b3.trans hbel4)
            go_roundw
            case rel => exact ⟨0 + 1, l2, by omega, by go_num, .inr ⟨by omega, g4, c4, rfl⟩, by omega, HS.out.symm, HO2.out, hown4, b4⟩
            case measure => simp [intOf]; omega
        · have dk : decide (0 < k) = true := by simp; omega
          have dk2 : decide ((0 : Int) < (k : Int)) = true := by simp; omega
          have hb1k : blankB false f k = (false || gapB (f (k - 1)).1 (f (k - 1)).2.1.data.toList (f k).1 (f k).2.1.data.toList) := by unfold blankB; rw [dk, Bool.true_and]
          have hGp := fun w => gap_impl (f (k - 1)).1 (f (k - 1)).2.1 (f (k - 1)).2.2 (f k).1 (f k).2.1 (f k).2.2 w (hf.out (k - 1) (by omega)) (hf.out k hlt)
          rw [Bool.false_or] at hb1k
          cases hgb : gapB (f (k - 1)).1 (f (k - 1)).2.1.data.toList (f k).1 (f k).2.1.data.toList
          · have hb := hb1k.trans hgb
            rw [hgb] at hGp
            clear hb1k hgb
            go_wp2_with fail
            refine (hOk _).mono ?_
            rintro e w1 ⟨rfl, hb1⟩
            have m1 : Below (wr.heap.size + 1) (tokNew (f k).1 (f k).2.1 (f k).2.2 wr) w1 := hb1.mono (by simp)
            have n1 : Below wr.heap.size wr w1 := n0.trans (m1.mono (by omega))
            obtain ⟨e0, e1, e2⟩ := tokNew_cells m1
            have x0 := lat_cell e0
            have x1 := lat_cell e1
            have x2 := lat_cell e2
            obtain ⟨p0, p1, p2⟩ := TokSl.at_k ha (hbel.trans (n1.mono hsz)) (show k - 1 < n by omega)
            have y0 := lat_cell p0
            have y1 := lat_cell p1
            have y2 := lat_cell p2
            go_wp2_with fail
            refine region_lat (by kernel_rfl) (by kernel_rfl) ?_
            iterate 12 (go_big_quiet_step ((refine (hGp (lat w1 _)).mono ?_; rintro e w'' ⟨rfl, hb''⟩; exact ⟨rfl, lat_to hb''⟩)))
            refine wpQuiet_nil ?_
            rintro _ ⟨nq, rfl⟩
            have hl1 := lat_below w1 nq
            have m2 : Below (wr.heap.size + 1) (tokNew (f k).1 (f k).2.1 (f k).2.2 wr) (lat w1 nq) := m1.trans (hl1.mono (by have := m1.size; rw [tokNew_size] at this; exact this))
            clear x0 x1 x2 y0 y1 y2 p0 p1 p2 e0 e1 e2 hl1 m1 n1 hb1
            generalize lat w1 nq = wq at m2 ⊢
            obtain ⟨d0, d1, d2⟩ := tokNew_cells m2
            have n2 : Below wr.heap.size wr wq := n0.trans (m2.mono (by omega))
            have b2 := hbel.trans (n2.mono hsz)
            have HS0 := Lib.hid (show spL false (keyF (k + 1) f) = l ++ X.data.toList by rw [hstep, hb]; simp)
            clear hstep hb
            go_wp2_with fail
            refine (hTx _ (hlate _ b2)).mono ?_
            rintro e w3 ⟨rfl, hb3⟩
            have n3 := n2.trans (hb3.mono n2.size)
            have b3 := b2.trans (hb3.mono b2.size)
            have z3 := b3.size
            have hown3 := hown.later n3
            obtain ⟨l2, HL2⟩ : ∃ l2, Hid (l2 = l ++ X.data.toList) := ⟨l ++ X.data.toList, rfl⟩
            have HS := Lib.hid (HS0.out.trans HL2.out.symm)
            have hln : l2.length ≤ 4083 := by rw [HL2.out]; rw [List.length_append]; show l.length + X.size ≤ _; omega
            by_cases h2 : 2000 < l2.length
            · have d : decide ((2000 : Int) < (l2.length : Int)) = true := by simp; omega
              have HJ := Lib.hid (@joinL_long false (k + 1) n f (by omega) (by rw [HS.out]; exact h2))
              go_wp2_with (at_builtin; go_must (refine appS Tryd.underlying22 Tryd.underlying9 hi hz0 hz1 hz2 rfl (.tmp 33) (.tmp 35) rfl w.heap.size (.slice (some ⟨g, 0, none⟩) l.length cap) l X w3 rfl rfl ⟨_, _, _, rfl⟩ hown3 (by omega) z3 ?_); intro g4 c4 w4 hown4 hbel4; rw [← HL2.out] at hown4 ⊢; have b4 := b3.trans hbel4)
              go_ret
              exact ⟨by rw [HJ.out]; rfl, b4⟩
            · have d : decide ((2000 : Int) < (l2.length : Int)) = false := by simp; omega
              go_wp2_with (at_builtin; go_must (refine appS Tryd.underlying22 Tryd.underlying9 hi hz0 hz1 hz2 rfl (.tmp 33) (.tmp 35) rfl w.heap.size (.slice (some ⟨g, 0, none⟩) l.length cap) l X w3 rfl rfl ⟨_, _, _, rfl⟩ hown3 (by omega) z3 ?_); intro g4 c4 w4 hown4 hbel4; rw [← HL2.out] at hown4 ⊢; have b4 := b3.trans hbel4)
              go_roundw
              case rel => exact ⟨k + 1, l2, by omega, by go_num, .inr ⟨by omega, g4, c4, rfl⟩, by omega, HS.out.symm, HO2.out, hown4, b4⟩
              case measure => simp [intOf]; omega
          · have hb := hb1k.trans hgb
            rw [hgb] at hGp
            clear hb1k hgb
            go_wp2_with fail
            refine (hOk _).mono ?_
            rintro e w1 ⟨rfl, hb1⟩
            have m1 : Below (wr.heap.size + 1) (tokNew (f k).1 (f k).2.1 (f k).2.2 wr) w1 := hb1.mono (by simp)
            have n1 : Below wr.heap.size wr w1 := n0.trans (m1.mono (by omega))
            obtain ⟨e0, e1, e2⟩ := tokNew_cells m1
            have x0 := lat_cell e0
            have x1 := lat_cell e1
            have x2 := lat_cell e2
            obtain ⟨p0, p1, p2⟩ := TokSl.at_k ha (hbel.trans (n1.mono hsz)) (show k - 1 < n by omega)
            have y0 := lat_cell p0
            have y1 := lat_cell p1
            have y2 := lat_cell p2
            go_wp2_with fail
            refine region_lat (by kernel_rfl) (by kernel_rfl) ?_
            iterate 12 (go_big_quiet_step ((refine (hGp (lat w1 _)).mono ?_; rintro e w'' ⟨rfl, hb''⟩; exact ⟨rfl, lat_to hb''⟩)))
            refine wpQuiet_nil ?_
            rintro _ ⟨nq, rfl⟩
            have hl1 := lat_below w1 nq
            have m2 : Below (wr.heap.size + 1) (tokNew (f k).1 (f k).2.1 (f k).2.2 wr) (lat w1 nq) := m1.trans (hl1.mono (by have := m1.size; rw [tokNew_size] at this; exact this))
            clear x0 x1 x2 y0 y1 y2 p0 p1 p2 e0 e1 e2 hl1 m1 n1 hb1
            generalize lat w1 nq = wq at m2 ⊢
            obtain ⟨d0, d1, d2⟩ := tokNew_cells m2
            have n2 : Below wr.heap.size wr wq := n0.trans (m2.mono (by omega))
            have b2 := hbel.trans (n2.mono hsz)
            have HS0 := Lib.hid (show spL false (keyF (k + 1) f) = (l ++ [32]) ++ X.data.toList by rw [hstep, hb]; rfl)
            clear hstep hb
            have z2 := b2.size
            have hown2 := hown.later n2
            have hgb := hown.blk
            have hzq : wr.heap.size + 1 ≤ wq.heap.size := by have h2 := m2.size; rw [tokNew_size] at h2; exact h2
            go_wp2_with (at_builtin; go_must (refine appB2 Tryd.underlying22 hi hz0 hz1 hz2 rfl (.tmp 30) (.tmp 31) rfl w.heap.size g cap l 32 _ wq rfl rfl hown2 rfl (by omega) z2 ?_); intro g5 c5 w5 hown5 hbel5 hz5 hk5; have b5 := b2.trans hbel5; have t0 := (cell_kept (hk5 wr.heap.size (by omega) (by omega)) d0); have t1 := (cell_kept (hk5 wr.heap.size (by omega) (by omega)) d1); have t2 := (cell_kept (hk5 wr.heap.size (by omega) (by omega)) d2))
            refine (hTx _ (hlate _ b5)).mono ?_
            rintro e w3 ⟨rfl, hb3⟩
            have b3 := b5.trans (hb3.mono b5.size)
            have z3 := b3.size
            have hown3 : OwnB 5 w3 w.heap.size (.slice (some ⟨g5, 0, none⟩) (l.length + 1) c5) (l ++ [32]) := OwnB.later hown5 hb3
            obtain ⟨l2, HL2⟩ : ∃ l2, Hid (l2 = l ++ [32] ++ X.data.toList) := ⟨l ++ [32] ++ X.data.toList, rfl⟩
            have HS := Lib.hid (HS0.out.trans HL2.out.symm)
            have hln : l2.length ≤ 4083 := by rw [HL2.out]; rw [List.length_append, List.length_append]; show l.length + 1 + X.size ≤ _; omega
            by_cases h2 : 2000 < l2.length
            · have d : decide ((2000 : Int) < (l2.length : Int)) = true := by simp; omega
              have HJ := Lib.hid (@joinL_long false (k + 1) n f (by omega) (by rw [HS.out]; exact h2))
              go_wp2_with (at_builtin; go_must (refine appS Tryd.underlying22 Tryd.underlying9 hi hz0 hz1 hz2 rfl (.tmp 33) (.tmp 35) rfl w.heap.size (.slice (some ⟨g5, 0, none⟩) (l.length + 1) c5) (l ++ [32]) X w3 rfl rfl ⟨_, _, _, rfl⟩ hown3 (by simp; omega) z3 ?_); intro g4 c4 w4 hown4 hbel4; rw [← HL2.out] at hown4 ⊢; have b4 := b3.trans hbel4)
              go_ret
              exact ⟨by rw [HJ.out]; rfl, b4⟩
            · have d : decide ((2000 : Int) < (l2.length : Int)) = false := by simp; omega
              go_wp2_with (at_builtin; go_must (refine appS Tryd.underlying22 Tryd.underlying9 hi hz0 hz1 hz2 rfl (.tmp 33) (.tmp 35) rfl w.heap.size (.slice (some ⟨g5, 0, none⟩) (l.length + 1) c5) (l ++ [32]) X w3 rfl rfl ⟨_, _, _, rfl⟩ hown3 (by simp; omega) z3 ?_); intro g4 c4 w4 hown4 hbel4; rw [← HL2.out] at hown4 ⊢; have b4 := b3.trans hbel4)
              go_roundw
              case rel => exact ⟨k + 1, l2, by omega, by go_num, .inr ⟨by omega, g4, c4, rfl⟩, by omega, HS.out.symm, HO2.out, hown4, b4⟩
              case measure => simp [intOf]; omega
    · have e : k = n := by omega
      subst e
      have hJ := @joinL_yes false k f HO.out
      rw [← HL.out, if_neg (by omega)] at hJ
      have HJ := Lib.hid hJ; clear hJ
      rcases hV with ⟨rfl, rfl, rfl⟩ | ⟨hk0, g, cap, rfl⟩
      · have hcv := fun W => run_convert_bytes_nil (P := Tryd.prog) W 22 5 Tryd.underlying22 Tryd.underlying5 0 0 9 Tryd.underlying9
        go_wp2_with fail
        go_ret
        exact ⟨by rw [HJ.out]; rfl, hbel⟩
      · have hcv := OwnB.string (src := 22) (dst := 9) hown rfl Tryd.underlying22 Tryd.underlying5 Tryd.underlying9
        go_wp2_with fail
        go_ret
        exact ⟨by rw [HJ.out]; rfl, hbel⟩
set_option maxRecDepth 100000 in
set_option maxHeartbeats 8000000 in
theorem joined_all (B : Nat) (a : Option Addr) (n ca : Nat) (f : Nat → Int × ByteArray × Int) (w : World) (ha : TokSl w B a n f) (hn : n ≤ 4000000) (hf : Hid (∀ j, j < n → (f j).2.1.size ≤ 9223372036854775807)) (hm : MaxI w) :
    Calls Tryd.prog 44 #[.slice a n ca, .func (.func 46) #[] #[]] w (StrE (joinL true n f) w) := by
  obtain ⟨i0, hi, hz0, hz1, hz2⟩ := info_parts Tryd.info8j
  have hlate : ∀ W, Below w.heap.size w W → MaxI W := fun W hb => hm.later hb hm.two
  clear hm
  go_enter Tryd.func44, Tryd.ntmps44
  go_wp2_with fail
  go_loopw [5, 10] (fun v i wr => ∃ (k : Nat) (l : List UInt8), k ≤ n ∧ i = .int .i64 (k : Int) ∧ RowV k v l ∧ l.length ≤ 2000 ∧ Hid (l = spL true (keyF k f)) ∧ Hid ((List.range k).all (okAt f) = true) ∧ OwnB 5 wr w.heap.size v l ∧ Below w.heap.size w wr) (fun _ i _ => n - (intOf i).toNat)
  case atStart => exact ⟨0, [], by omega, rfl, .inl ⟨rfl, rfl, rfl⟩, by simp, rfl, rfl, OwnB.nil _ _ _, Below.refl _ _⟩
  case round =>
    obtain ⟨k, l, hk, rfl, hV, hl, HL, HO, hown, hbel⟩ := hrel
    have hsz := hbel.size
    by_cases hlt : k < n
    · have hlt2 : (k : Int) < (n : Int) := by omega
      have r4 := ha.below (hbel)
      obtain ⟨b, rfl, _, hbl, c0, c1, c2, _⟩ := r4 k hlt
      have hT := hf.out k hlt
      have hOk := fun w => tokenOk_impl (f k).1 (f k).2.1 (f k).2.2 w hT
      have hTx := fun w hm => tokenText_impl (f k).1 (f k).2.1 (f k).2.2 w hT hm
      have hstep := spL_step true f k
      have hoks := ok_step f k
      have hno := @joinL_no true n k f hlt
      have htl := @text_len (f k).1 (f k).2.1.data.toList
      have hok : tokOk (f k).1 (f k).2.1.data.toList = okAt f k := rfl
      have hne := @tokText_ne (f k).1 (f k).2.1.data.toList
      rw [hok] at hOk htl hne
      unfold StrE at hTx
      generalize hX : (⟨(tokTextL (f k).1 (f k).2.1.data.toList).toArray⟩ : ByteArray) = X at hTx
      have hXl : X.data.toList = tokTextL (f k).1 (f k).2.1.data.toList := by rw [← hX]
      have hXs : X.size = (tokTextL (f k).1 (f k).2.1.data.toList).length := by rw [← hXl]; rfl
      have hXne : okAt f k = true → 0 < X.size := fun h => by rw [hXs]; exact List.length_pos_iff.2 (hne h)
      rw [← hXl] at hstep
      rw [← hXs] at htl
      clear hX hXl hXs hok hne
      have n0 : Below wr.heap.size wr (tokNew (f k).1 (f k).2.1 (f k).2.2 wr) := tokNew_below _ _ _ _
      cases ho : okAt f k
      · rw [ho] at hOk
        have HN := Lib.hid (hno ho)
        clear hstep hoks hno htl ho hTx hXne
        go_wp2_with fail
        refine (hOk _).mono ?_
        rintro e w1 ⟨rfl, hb1⟩
        have b1 := hbel.trans ((n0.trans (hb1.mono (by simp))).mono hsz)
        go_wp2_with fail
        go_ret
        exact ⟨by rw [HN.out]; rfl, b1⟩
      · rw [ho] at hOk hoks
        rw [HO.out] at hoks
        have htl := htl ho
        have hXp := hXne ho
        have HO2 := Lib.hid (show (List.range (k + 1)).all (okAt f) = true from hoks)
        clear hno ho hoks hXne
        rw [← HL.out] at hstep
        rcases hV with ⟨rfl, rfl, rfl⟩ | ⟨hk0, g, cap, rfl⟩
        · have hb : blankB true f 0 = false := rfl
          have HS0 := Lib.hid (show spL true (keyF (0 + 1) f) = X.data.toList by rw [hstep, hb]; simp)
          clear hstep hb
          go_wp2_with fail
          refine (hOk _).mono ?_
          rintro e w1 ⟨rfl, hb1⟩
          have m1 : Below (wr.heap.size + 1) (tokNew (f 0).1 (f 0).2.1 (f 0).2.2 wr) w1 := hb1.mono (by simp)
          have n1 : Below wr.heap.size wr w1 := n0.trans (m1.mono (by omega))
          go_wp2_with fail
          refine region_lat (by kernel_rfl) (by kernel_rfl) ?_
          iterate 12 (go_big_quiet_step (fail))
          refine wpQuiet_nil ?_
          rintro _ ⟨nq, rfl⟩
          have hl1 := lat_below w1 nq
          have m2 : Below (wr.heap.size + 1) (tokNew (f 0).1 (f 0).2.1 (f 0).2.2 wr) (lat w1 nq) := m1.trans (hl1.mono (by have := m1.size; rw [tokNew_size] at this; exact this))
          clear hl1 m1 n1 hb1
          generalize lat w1 nq = wq at m2 ⊢
          obtain ⟨d0, d1, d2⟩ := tokNew_cells m2
          have n2 : Below wr.heap.size wr wq := n0.trans (m2.mono (by omega))
          have b2 := hbel.trans (n2.mono hsz)
          go_wp2_with fail
          refine (hTx _ (hlate _ b2)).mono ?_
          rintro e w3 ⟨rfl, hb3⟩
          have b3 := b2.trans (hb3.mono b2.size)
          have z3 := b3.size
          obtain ⟨l2, HL2⟩ : ∃ l2, Hid (l2 = X.data.toList) := ⟨X.data.toList, rfl⟩
          have HS := Lib.hid (HS0.out.trans HL2.out.symm)
          have hln : l2.length ≤ 4083 := by rw [HL2.out]; show X.size ≤ _; omega
          by_cases h2 : 2000 < l2.length
          · have d : decide ((2000 : Int) < (l2.length : Int)) = true := by simp; omega
            have HJ := Lib.hid (@joinL_long true (0 + 1) n f (by omega) (by rw [HS.out]; exact h2))
            go_wp2_with (at_builtin; go_must (refine appS0 Tryd.underlying22 Tryd.underlying9 hi hz0 hz1 hz2 rfl (.tmp 33) (.tmp 35) rfl w.heap.size X w3 rfl rfl hXp (by omega) z3 ?_); intro g4 c4 w4 hown4 hbel4; rw [← HL2.out] at hown4 ⊢; have b4 := b3.trans hbel4)
            go_ret
            exact ⟨by rw [HJ.out]; rfl, b4⟩
          · have d : decide ((2000 : Int) < (l2.length : Int)) = false := by simp; omega
            go_wp2_with (at_builtin; go_must (refine appS0 Tryd.underlying22 Tryd.underlying9 hi hz0 hz1 hz2 rfl (.tmp 33) (.tmp 35) rfl w.heap.size X w3 rfl rfl hXp (by omega) z3 ?_); intro g4 c4 w4 hown4 hbel4; rw [← HL2.out] at hown4 ⊢; have b4 := b3.trans hbel4)
            go_roundw
            case rel => exact ⟨0 + 1, l2, by omega, by go_num, .inr ⟨by omega, g4, c4, rfl⟩, by omega, HS.out.symm, HO2.out, hown4, b4⟩
            case measure => simp [intOf]; omega
        · have dk : decide (0 < k) = true := by simp; omega
          have dk2 : decide ((0 : Int) < (k : Int)) = true := by simp; omega
          have hb1k : blankB true f k = (true || gapB (f (k - 1)).1 (f (k - 1)).2.1.data.toList (f k).1 (f k).2.1.data.toList) := by unfold blankB; rw [dk, Bool.true_and]
          have hGp := fun w => alwaysGap_impl (f (k - 1)).1 (f (k - 1)).2.1 (f (k - 1)).2.2 (f k).1 (f k).2.1 (f k).2.2 w
          have hb : blankB true f k = true := by rw [hb1k]; rfl
          clear hb1k
          go_wp2_with fail
          refine (hOk _).mono ?_
          rintro e w1 ⟨rfl, hb1⟩
          have m1 : Below (wr.heap.size + 1) (tokNew (f k).1 (f k).2.1 (f k).2.2 wr) w1 := hb1.mono (by simp)
          have n1 : Below wr.heap.size wr w1 := n0.trans (m1.mono (by omega))
          obtain ⟨e0, e1, e2⟩ := tokNew_cells m1
          have x0 := lat_cell e0
          have x1 := lat_cell e1
          have x2 := lat_cell e2
          obtain ⟨p0, p1, p2⟩ := TokSl.at_k ha (hbel.trans (n1.mono hsz)) (show k - 1 < n by omega)
          have y0 := lat_cell p0
          have y1 := lat_cell p1
          have y2 := lat_cell p2
          go_wp2_with fail
          refine region_lat (by kernel_rfl) (by kernel_rfl) ?_
          iterate 12 (go_big_quiet_step ((refine (hGp (lat w1 _)).mono ?_; rintro e w'' ⟨rfl, hb''⟩; exact ⟨rfl, lat_to hb''⟩)))
          refine wpQuiet_nil ?_
          rintro _ ⟨nq, rfl⟩
          have hl1 := lat_below w1 nq
          have m2 : Below (wr.heap.size + 1) (tokNew (f k).1 (f k).2.1 (f k).2.2 wr) (lat w1 nq) := m1.trans (hl1.mono (by have := m1.size; rw [tokNew_size] at this; exact this))
          clear x0 x1 x2 y0 y1 y2 p0 p1 p2 e0 e1 e2 hl1 m1 n1 hb1
          generalize lat w1 nq = wq at m2 ⊢
          obtain ⟨d0, d1, d2⟩ := tokNew_cells m2
          have n2 : Below wr.heap.size wr wq := n0.trans (m2.mono (by omega))
          have b2 := hbel.trans (n2.mono hsz)
          have HS0 := Lib.hid (show spL true (keyF (k + 1) f) = (l ++ [32]) ++ X.data.toList by rw [hstep, hb]; rfl)
          clear hstep hb
          have z2 := b2.size
          have hown2 := hown.later n2
          have hgb := hown.blk
          have hzq : wr.heap.size + 1 ≤ wq.heap.size := by have h2 := m2.size; rw [tokNew_size] at h2; exact h2
          go_wp2_with (at_builtin; go_must (refine appB2 Tryd.underlying22 hi hz0 hz1 hz2 rfl (.tmp 30) (.tmp 31) rfl w.heap.size g cap l 32 _ wq rfl rfl hown2 rfl (by omega) z2 ?_); intro g5 c5 w5 hown5 hbel5 hz5 hk5; have b5 := b2.trans hbel5; have t0 := (cell_kept (hk5 wr.heap.size (by omega) (by omega)) d0); have t1 := (cell_kept (hk5 wr.heap.size (by omega) (by omega)) d1); have t2 := (cell_kept (hk5 wr.heap.size (by omega) (by omega)) d2))
          refine (hTx _ (hlate _ b5)).mono ?_
          rintro e w3 ⟨rfl, hb3⟩
          have b3 := b5.trans (hb3.mono b5.size)
          have z3 := b3.size
          have hown3 : OwnB 5 w3 w.heap.size (.slice (some ⟨g5, 0, none⟩) (l.length + 1) c5) (l ++ [32]) := OwnB.later hown5 hb3
          obtain ⟨l2, HL2⟩ : ∃ l2, Hid (l2 = l ++ [32] ++ X.data.toList) := ⟨l ++ [32] ++ X.data.toList, rfl⟩
          have HS := Lib.hid (HS0.out.trans HL2.out.symm)
          have hln : l2.length ≤ 4083 := by rw [HL2.out]; rw [List.length_append, List.length_append]; show l.length + 1 + X.size ≤ _; omega
          by_cases h2 : 2000 < l2.length
          · have d : decide ((2000 : Int) < (l2.length : Int)) = true := by simp; omega
            have HJ := Lib.hid (@joinL_long true (k + 1) n f (by omega) (by rw [HS.out]; exact h2))
            go_wp2_with (at_builtin; go_must (refine appS Tryd.underlying22 Tryd.underlying9 hi hz0 hz1 hz2 rfl (.tmp 33) (.tmp 35) rfl w.heap.size (.slice (some ⟨g5, 0, none⟩) (l.length + 1) c5) (l ++ [32]) X w3 rfl rfl ⟨_, _, _, rfl⟩ hown3 (by simp; omega) z3 ?_); intro g4 c4 w4 hown4 hbel4; rw [← HL2.out] at hown4 ⊢; have b4 := b3.trans hbel4)
            go_ret
            exact ⟨by rw [HJ.out]; rfl, b4⟩
          · have d : decide ((2000 : Int) < (l2.length : Int)) = false := by simp; omega
            go_wp2_with (at_builtin; go_must (refine appS Tryd.underlying22 Tryd.underlying9 hi hz0 hz1 hz2 rfl (.tmp 33) (.tmp 35) rfl w.heap.size (.slice (some ⟨g5, 0, none⟩) (l.length + 1) c5) (l ++ [32]) X w3 rfl rfl ⟨_, _, _, rfl⟩ hown3 (by simp; omega) z3 ?_); intro g4 c4 w4 hown4 hbel4; rw [← HL2.out] at hown4 ⊢; have b4 := b3.trans hbel4)
            go_roundw
            case rel => exact ⟨k + 1, l2, by omega, by go_num, .inr ⟨by omega, g4, c4, rfl⟩, by omega, HS.out.symm, HO2.out, hown4, b4⟩
            case measure => simp [intOf]; omega
    · have e : k = n := by omega
      subst e
      have hJ := @joinL_yes true k f HO.out
      rw [← HL.out, if_neg (by omega)] at hJ
      have HJ := Lib.hid hJ; clear hJ
      rcases hV with ⟨rfl, rfl, rfl⟩ | ⟨hk0, g, cap, rfl⟩
      · have hcv := fun W => run_convert_bytes_nil (P := Tryd.prog) W 22 5 Tryd.underlying22 Tryd.underlying5 0 0 9 Tryd.underlying9
        go_wp2_with fail
        go_ret
        exact ⟨by rw [HJ.out]; rfl, hbel⟩
      · have hcv := OwnB.string (src := 22) (dst := 9) hown rfl Tryd.underlying22 Tryd.underlying5 Tryd.underlying9
        go_wp2_with fail
        go_ret
        exact ⟨by rw [HJ.out]; rfl, hbel⟩
set_option maxRecDepth 100000 in
set_option maxHeartbeats 400000 in
theorem spaced_impl : JoinI false 18 := by
  intro B a n ca f w ha hn hf hm
  have hJ := joined_gap B a n ca f w ha (by omega) hf hm
  unfold StrE at hJ ⊢
  generalize (⟨(joinL false n f).toArray⟩ : ByteArray) = X at hJ ⊢
  go_enter Tryd.func18, Tryd.ntmps18
  go_wp2_with fail
  refine hJ.mono ?_
  rintro e w1 ⟨rfl, hb1⟩
  go_wp2_with fail
  go_ret
  exact ⟨rfl, hb1⟩
set_option maxRecDepth 100000 in
set_option maxHeartbeats 400000 in
theorem loose_impl : JoinI true 21 := by
  intro B a n ca f w ha hn hf hm
  have hJ := joined_all B a n ca f w ha (by omega) hf hm
  unfold StrE at hJ ⊢
  generalize (⟨(joinL true n f).toArray⟩ : ByteArray) = X at hJ ⊢
  go_enter Tryd.func21, Tryd.ntmps21
  go_wp2_with fail
  refine hJ.mono ?_
  rintro e w1 ⟨rfl, hb1⟩
  go_wp2_with fail
  go_ret
  exact ⟨rfl, hb1⟩
theorem gap_implM (k : Int) (t : ByteArray) (a k' : Int) (t' : ByteArray) (a' : Int) (w : World) (ht : t.size ≤ 9223372036854775807) (ht' : t'.size ≤ 9223372036854775807) (_ : MaxI w) :
    Calls Tryd.prog 9 #[.agg #[.int .i64 k, .string t, .int .i64 a], .agg #[.int .i64 k', .string t', .int .i64 a']] w (BoolE (gapB k t.data.toList k' t'.data.toList) w) :=
  gap_impl k t a k' t' a' w ht ht'
end Go.Proofs.YtcadoplfgclbjaaDoor
