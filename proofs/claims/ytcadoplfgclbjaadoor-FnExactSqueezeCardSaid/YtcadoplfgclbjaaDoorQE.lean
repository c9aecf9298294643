/- Joined texts: SignS LexS LexQ LexP. -/
import Derived.Test.YtcadoplfgclbjaaDoorQD
import Derived.Test.YtcadoplfgclbjaaDoorQB
import Derived.Lib.SlicesS
/- The contract of the model's test on operators. -/
namespace Go.Proofs.YtcadoplfgclbjaaDoor
open Go.RowKit

set_option maxRecDepth 100000 in
set_option maxHeartbeats 1200000 in
theorem signOk_spec (s : ByteArray) (w : World) : Calls Tryd.prog 36 #[.string s] w (PureE (.bool (signB s.data.toList)) w) := by
  cases h : signB s.data.toList
  · obtain ⟨h0, h1, h2, h3, h4, h5, h6, h7, h8, h9, h10, h11, h12, h13, h14, h15⟩ := signB_not h
    have q0 : (s.toList == [40]) = false := by rw [beq_lit, decide_eq_false h0]
    have q1 : (s.toList == [41]) = false := by rw [beq_lit, decide_eq_false h1]
    have q2 : (s.toList == [44]) = false := by rw [beq_lit, decide_eq_false h2]
    have q3 : (s.toList == [46]) = false := by rw [beq_lit, decide_eq_false h3]
    have q4 : (s.toList == [42]) = false := by rw [beq_lit, decide_eq_false h4]
    have q5 : (s.toList == [43]) = false := by rw [beq_lit, decide_eq_false h5]
    have q6 : (s.toList == [45]) = false := by rw [beq_lit, decide_eq_false h6]
    have q7 : (s.toList == [47]) = false := by rw [beq_lit, decide_eq_false h7]
    have q8 : (s.toList == [37]) = false := by rw [beq_lit, decide_eq_false h8]
    have q9 : (s.toList == [61]) = false := by rw [beq_lit, decide_eq_false h9]
    have q10 : (s.toList == [60, 62]) = false := by rw [beq_lit, decide_eq_false h10]
    have q11 : (s.toList == [60]) = false := by rw [beq_lit, decide_eq_false h11]
    have q12 : (s.toList == [60, 61]) = false := by rw [beq_lit, decide_eq_false h12]
    have q13 : (s.toList == [62]) = false := by rw [beq_lit, decide_eq_false h13]
    have q14 : (s.toList == [62, 61]) = false := by rw [beq_lit, decide_eq_false h14]
    have q15 : (s.toList == [124, 124]) = false := by rw [beq_lit, decide_eq_false h15]
    clear h h0 h1 h2 h3 h4 h5 h6 h7 h8 h9 h10 h11 h12 h13 h14 h15
    go_enter Tryd.func36, Tryd.ntmps36
    go_wp2
    go_ret
    exact ⟨rfl, rfl⟩
  · rcases signB_cases h with h | h | h | h | h | h | h | h | h | h | h | h | h | h | h | h <;>
    (obtain rfl := ba_of h
     go_enter Tryd.func36, Tryd.ntmps36
     go_wp2
     go_ret
     exact ⟨rfl, rfl⟩)

end Go.Proofs.YtcadoplfgclbjaaDoor

/- Contracts of the model's scanning functions: l1Min, l3Run. -/
namespace Go.Proofs.YtcadoplfgclbjaaDoor
open Go.RowKit

theorem min_spec (a b : Nat) (w : World) : Calls Tryd.prog 94 #[.int .i64 (a : Int), .int .i64 (b : Int)] w (PureE (.int .i64 ((min a b : Nat) : Int)) w) := by
  by_cases h : a < b
  · have hd : decide ((a : Int) < (b : Int)) = true := by simpa using h
    have e : min a b = a := Nat.min_eq_left (by omega)
    rw [e]
    go_enter Tryd.func94, Tryd.ntmps94
    go_wp2
    go_ret
    exact ⟨rfl, rfl⟩
  · have hd : decide ((a : Int) < (b : Int)) = false := by simpa using h
    have e : min a b = b := Nat.min_eq_right (by omega)
    rw [e]
    go_enter Tryd.func94, Tryd.ntmps94
    go_wp2
    go_ret
    exact ⟨rfl, rfl⟩

set_option maxRecDepth 100000 in
set_option maxHeartbeats 800000 in
theorem run_spec (s : ByteArray) (a : Nat) (w : World) (ha : a ≤ s.size) (hs : s.size ≤ 9000000000000000000) :
    Calls Tryd.prog 95 #[.string s, .int .i64 (a : Int)] w (PureE (.int .i64 (runEnd s.data.toList a : Nat)) w) := by
  have hlen : s.data.toList.length = s.size := rfl
  go_enter Tryd.func95, Tryd.ntmps95
  go_wp2_with fail
  go_loopw [1] (fun i wr => ∃ k : Nat, k ≤ s.size ∧ i = .int .i64 (k : Int) ∧ Hid (runEnd s.data.toList a = runEnd s.data.toList k) ∧ wr = w) (fun i _ => s.size - (intOf i).toNat)
  case atStart => exact ⟨a, ha, rfl, rfl, rfl⟩
  case round =>
    obtain ⟨k, hk, rfl, HK, rfl⟩ := hrel
    by_cases hlt : k < s.size
    · have hlt2 : (k : Int) < (s.size : Int) := by omega
      go_wp2_with fail
      refine (l2Letter_any _ _).mono ?_
      rintro e w1 ⟨rfl, rfl⟩
      rw [lstr_at hlt]
      cases h1 : (ltr ((s.data.toList.getD k 0).toNat : Int) || ((s.data.toList.getD k 0).toNat : Int) == 95)
      · go_wp2_with fail
        refine (l2Figure_any _ _).mono ?_
        rintro e w1 ⟨rfl, rfl⟩
        rw [lstr_at hlt]
        cases h2 : dg ((s.data.toList.getD k 0).toNat : Int)
        · have hf := Lib.hid (runEnd_no (l := s.data.toList) (k := k) hlt (by rw [lwd_eq, h1, h2]; rfl))
          clear h1 h2
          go_wp2_with fail
          go_ret
          exact ⟨by rw [HK.out, hf.out]; rfl, rfl⟩
        · have hf := Lib.hid (runEnd_yes (l := s.data.toList) (k := k) hlt (by rw [lwd_eq, h1, h2]; rfl))
          clear h1 h2
          go_wp2_with fail
          go_roundw
          case rel => exact ⟨k + 1, by omega, by go_num, by rw [HK.out, hf.out]; rfl, trivial⟩
          case measure => simp [intOf]; omega
      · have hf := Lib.hid (runEnd_yes (l := s.data.toList) (k := k) hlt (by rw [lwd_eq, h1]; simp))
        clear h1
        go_wp2_with fail
        go_roundw
        case rel => exact ⟨k + 1, by omega, by go_num, by rw [HK.out, hf.out]; rfl, trivial⟩
        case measure => simp [intOf]; omega
    · have hf := Lib.hid (runEnd_out (l := s.data.toList) (k := k) hlt)
      go_wp2_with fail
      go_ret
      exact ⟨by rw [HK.out, hf.out]; rfl, rfl⟩
end Go.Proofs.YtcadoplfgclbjaaDoor

/- The contract of the model's reading of what stands between quotes. -/
namespace Go.Proofs.YtcadoplfgclbjaaDoor
open Go.RowKit


theorem Tryd.info8l : (Tryd.prog.info? 5).map (fun i => (i.zero, i.size, i.bytes)) = some (some (.int .u8 0), 1, 1) := by kernel_rfl

def quoV : Option (List UInt8 × Nat) → Value
  | some x => .tuple #[.string ⟨x.1.toArray⟩, .int .i64 (x.2 : Int)]
  | none => .tuple #[.string ⟨#[]⟩, .int .i64 (-1)]
/-- what l3Quoted hands back -/
def QuoE (r : Option (List UInt8 × Nat)) (w : World) (e : Ending) (w' : World) : Prop :=
  e = .returned (quoV r) ∧ Below w.heap.size w w'

theorem quo_ret {r : Option (List UInt8 × Nat)} {out : List UInt8} {r2 : Option (List UInt8 × Nat)} {k : Nat} {x : Int} (h : r = ahead out r2) (h2 : r2 = some ([], k + 1)) (hx : x = (k : Int) + 1 := by rfl) :
    Ending.returned (.tuple #[.string ⟨out.toArray⟩, .int .i64 x]) = .returned (quoV r) := by
  subst h2 h hx
  simp [ahead, quoV]

set_option maxRecDepth 100000 in
set_option maxHeartbeats 1600000 in
theorem quoted_spec (s : ByteArray) (a : Nat) (w : World) (ha : a < s.size) (hs : s.size ≤ 4000000) :
    Calls Tryd.prog 96 #[.string s, .int .i64 (a : Int)] w (QuoE (quo (s.data.toList.getD a 0) s.data.toList (a + 1)) w) := by
  obtain ⟨i0, hi, hz0, hz1, hz2⟩ := info_parts Tryd.info8l
  have hlen : s.data.toList.length = s.size := rfl
  have ha2 : (a : Int) < (s.size : Int) := by omega
  obtain ⟨q, hq⟩ : ∃ q, q = s[a] := ⟨_, rfl⟩
  have hqd : s.data.toList.getD a 0 = q := by rw [hq, lstr_at ha]
  rw [hqd]
  have hq1 : ((s[a]).toNat : Int) = (q.toNat : Int) := by rw [hq]
  have HQ := Lib.hid hq1; have HQD := Lib.hid hqd; clear hq hq1 hqd
  go_enter Tryd.func96, Tryd.ntmps96
  go_wp2_with fail
  rw [HQ.out]
  go_loopw [7, 8] (fun v i wr => ∃ (k g cap : Nat) (out : List UInt8), k ≤ s.size ∧ out.length ≤ k ∧ i = .int .i64 (k : Int) ∧ v = .slice (some ⟨g, 0, none⟩) out.length cap ∧ Hid (quo q s.data.toList (a + 1) = ahead out (quo q s.data.toList k)) ∧ OwnB 5 wr w.heap.size (.slice (some ⟨g, 0, none⟩) out.length cap) out ∧ Below w.heap.size w wr) (fun _ i _ => s.size - (intOf i).toNat)
  case atStart => exact ⟨a + 1, w.heap.size, 0, [], by omega, by simp, by go_num, rfl, (ahead_nil _).symm, World.ownsRow_lit w #[] 0 (Nat.le_refl _) (by unfold maxLen; omega) rfl, (Below.refl _ _).alloc (Nat.le_refl _) _⟩
  case round =>
    obtain ⟨k, g, cap, out, hk, hol, rfl, rfl, HL, hown, hbel⟩ := hrel
    have hsz := hbel.size
    by_cases hlt : k < s.size
    · have hlt2 : (k : Int) < (s.size : Int) := by omega
      have HB := Lib.hid (lstr_at hlt)
      by_cases he : s[k] = q
      · have q1 := u8_eq he
        have he' : s.data.toList.getD k 0 = q := by rw [← HB.out]; exact he
        have HE := Lib.hid he; clear he
        by_cases h2 : k + 1 < s.size
        · have h2i : (k : Int) + 1 < (s.size : Int) := by omega
          have d2 : decide ((s.size : Int) ≤ (k : Int) + 1) = false := by simp; omega
          by_cases he2 : s[k + 1] = q
          · have q2 := u8_eq he2
            have HN := Lib.hid (quo_two (l := s.data.toList) (k := k) hlt he' h2 (by rw [← lstr_at h2]; exact he2))
            clear he2 he'
            go_wp2_with (at_builtin; refine appB Tryd.underlying22 hi hz0 hz1 hz2 rfl (.tmp 49) (.tmp 51) rfl w.heap.size (.slice (some ⟨g, 0, none⟩) out.length cap) out q _ wr rfl rfl hown rfl (by omega) (by omega) ?_; intro g3 c3 w3 hown3 hbel3)
            go_roundw
            case rel => exact ⟨k + 2, g3, c3, out ++ [q], by omega, by simp; omega, by go_num, by simp, by unfold Hid; rw [HL.out, HN.out, ahead_cons], by have h := hown3; simpa using h, hbel.trans hbel3⟩
            case measure => simp [intOf]; omega
          · have q2 := u8_ne he2
            have HN := Lib.hid (quo_stop (l := s.data.toList) (k := k) hlt he' (by rintro ⟨_, h⟩; exact he2 (by rw [lstr_at h2]; exact h)))
            clear he2 he'
            have hcv := OwnB.string (src := 22) (dst := 9) hown rfl Tryd.underlying22 Tryd.underlying5 Tryd.underlying9
            go_wp2_with fail
            go_ret2
            exact ⟨quo_ret HL.out HN.out, hbel⟩
        · have d2 : decide ((s.size : Int) ≤ (k : Int) + 1) = true := by simp; omega
          have HN := Lib.hid (quo_stop (l := s.data.toList) (k := k) hlt he' (by rintro ⟨h, _⟩; omega))
          clear he'
          have hcv := OwnB.string (src := 22) (dst := 9) hown rfl Tryd.underlying22 Tryd.underlying5 Tryd.underlying9
          go_wp2_with fail
          go_ret2
          exact ⟨quo_ret HL.out HN.out, hbel⟩
      · have q1 := u8_ne he
        have HN := Lib.hid (quo_other (q := q) (l := s.data.toList) (k := k) hlt (by rw [← HB.out]; exact he))
        clear he
        go_wp2_with (at_builtin; refine appB Tryd.underlying22 hi hz0 hz1 hz2 rfl (.tmp 26) (.tmp 30) rfl w.heap.size (.slice (some ⟨g, 0, none⟩) out.length cap) out s[k] _ wr rfl rfl hown rfl (by omega) (by omega) ?_; intro g3 c3 w3 hown3 hbel3)
        go_roundw
        case rel => exact ⟨k + 1, g3, c3, out ++ [s[k]], by omega, by simp; omega, by go_num, by simp, by unfold Hid; rw [HL.out, HN.out, ahead_cons, ← HB.out], by have h := hown3; simpa using h, hbel.trans hbel3⟩
        case measure => simp [intOf]; omega
    · have HN := Lib.hid (quo_out (q := q) (l := s.data.toList) (k := k) hlt)
      go_wp2_with fail
      go_ret2
      exact ⟨by rw [HL.out, HN.out]; rfl, hbel⟩
end Go.Proofs.YtcadoplfgclbjaaDoor

/- The contract of the model's passing over of white space and comments. -/
namespace Go.Proofs.YtcadoplfgclbjaaDoor
open Go.RowKit

set_option maxRecDepth 100000 in
set_option maxHeartbeats 2000000 in
theorem pass_spec (s : ByteArray) (a : Nat) (w : World) (ha : a ≤ s.size) (hs : s.size ≤ 4000000) :
    Calls Tryd.prog 74 #[.string s, .int .i64 (a : Int)] w (PureE (.int .i64 (pass s.data.toList a)) w) := by
  have hlen : s.data.toList.length = s.size := rfl
  go_enter Tryd.func74, Tryd.ntmps74
  go_wp2_with fail
  go_loopw [1] (fun i wr => ∃ k : Nat, k ≤ s.size ∧ i = .int .i64 (k : Int) ∧ Hid (pass s.data.toList a = pass s.data.toList k) ∧ wr = w) (fun i _ => s.size - (intOf i).toNat)
  case atStart => exact ⟨a, ha, rfl, rfl, rfl⟩
  case round =>
    obtain ⟨k, hk, rfl, HK, rfl⟩ := hrel
    by_cases hlt : k < s.size
    · have hlt2 : (k : Int) < (s.size : Int) := by omega
      have HB := Lib.hid (lstr_at hlt)
      have hmin : min s.size (k + 2) ≤ s.size ∧ k ≤ min s.size (k + 2) := by omega
      have hm := fun w => min_spec s.size (k + 2) w
      have h45 := two_is (s := s) (a := k) (x := 45) (y := 45) hlt
      have h47 := two_is (s := s) (a := k) (x := 47) (y := 42) hlt
      obtain ⟨mn, hmn⟩ : ∃ mn, mn = min s.size (k + 2) := ⟨_, rfl⟩
      rw [← hmn] at hm hmin h45 h47
      obtain ⟨hm1, hm2⟩ := hmin
      have hm1i : (mn : Int) ≤ (s.size : Int) := by omega
      have hm2i : (k : Int) ≤ (mn : Int) := by omega
      obtain ⟨tw, htw⟩ : ∃ tw, s.extract k mn = tw := ⟨_, rfl⟩
      rw [htw] at h45 h47
      clear hmn
      go_wp2_with fail
      rw [show ((k : Int) + 2) = ((k + 2 : Nat) : Int) from by omega]
      refine (hm _).mono ?_
      rintro e w1 ⟨rfl, rfl⟩
      clear hm
      rcases sp_cases (s[k]) with ⟨hsp, q1, q2, q3, q4⟩ | ⟨hsp, hb⟩
      · rw [HB.out] at hsp
        cases t45 : is2 s.data.toList k 45 45
        · rw [t45] at h45
          cases t47 : is2 s.data.toList k 47 42
          · rw [t47] at h47
            have HF := Lib.hid (pass_stop (l := s.data.toList) (k := k) hlt hsp t45 t47)
            clear hsp t45 t47
            go_wp2_with fail
            go_ret
            exact ⟨by rw [HK.out, HF.out]; rfl, rfl⟩
          · rw [t47] at h47
            have HF := Lib.hid (pass_long (l := s.data.toList) (k := k) hlt hsp t45 t47)
            have HK2 := is2_lt t47
            clear hsp t45 t47
            go_wp2_with fail
            go_loopw [6] (fun i wr => ∃ j : Nat, k + 2 ≤ j ∧ j ≤ s.size ∧ i = .int .i64 (j : Int) ∧ Hid (closeAt s.data.toList (k + 2) = closeAt s.data.toList j) ∧ wr = w1) (fun i _ => s.size - (intOf i).toNat)
            case atStart => exact ⟨k + 2, by omega, by omega, by go_num, rfl, rfl⟩
            case round =>
              obtain ⟨j, hj1, hj2, rfl, HJ, rfl⟩ := hrel
              by_cases hjl : j < s.size
              · have hjl2 : (j : Int) < (s.size : Int) := by omega
                have d2 : decide ((s.size : Int) ≤ (j : Int)) = false := by simp; omega
                have hmin2 : min s.size (j + 2) ≤ s.size ∧ j ≤ min s.size (j + 2) := by omega
                have hn := fun w => min_spec s.size (j + 2) w
                have h42 := two_is (s := s) (a := j) (x := 42) (y := 47) hjl
                obtain ⟨nn, hnn⟩ : ∃ nn, nn = min s.size (j + 2) := ⟨_, rfl⟩
                rw [← hnn] at hn hmin2 h42
                obtain ⟨hn1, hn2⟩ := hmin2
                have hn1i : (nn : Int) ≤ (s.size : Int) := by omega
                have hn2i : (j : Int) ≤ (nn : Int) := by omega
                obtain ⟨tv, htv⟩ : ∃ tv, s.extract j nn = tv := ⟨_, rfl⟩
                rw [htv] at h42
                clear hnn
                go_wp2_with fail
                rw [show ((j : Int) + 2) = ((j + 2 : Nat) : Int) from by omega]
                refine (hn _).mono ?_
                rintro e w2 ⟨rfl, rfl⟩
                clear hn
                cases t42 : is2 s.data.toList j 42 47
                · rw [t42] at h42
                  have HE := Lib.hid (close_on (l := s.data.toList) (k := j) hjl t42)
                  clear t42
                  go_wp2_with fail
                  go_roundw
                  case rel => exact ⟨j + 1, by omega, by omega, by go_num, by rw [HJ.out, HE.out]; rfl, trivial⟩
                  case measure => simp [intOf]; omega
                · rw [t42] at h42
                  have hj3 := is2_lt t42
                  have HE := Lib.hid (close_stop (l := s.data.toList) (k := j) hjl t42)
                  clear t42
                  go_wp2_with fail
                  go_roundw
                  case rel => exact ⟨j + 2, by omega, by go_num, by unfold Hid; rw [HK.out, HF.out, HJ.out, HE.out, if_pos (show j < s.data.toList.length from hjl)], trivial⟩
                  case measure => simp [intOf]; omega
              · have d2 : decide ((s.size : Int) ≤ (j : Int)) = true := by simp; omega
                have HE := Lib.hid (close_out (l := s.data.toList) (k := j) hjl)
                go_wp2_with fail
                go_ret
                exact ⟨by rw [HK.out, HF.out, HJ.out, HE.out, if_neg (show ¬ j < s.data.toList.length from hjl)]; rfl, rfl⟩
        · rw [t45] at h45
          have HF := Lib.hid (pass_line (l := s.data.toList) (k := k) hlt hsp t45)
          have HL2 := line_two t45
          clear hsp t45
          go_wp2_with fail
          go_loopw [1] (fun i wr => ∃ j : Nat, k ≤ j ∧ j ≤ s.size ∧ i = .int .i64 (j : Int) ∧ Hid (lineEnd s.data.toList k = lineEnd s.data.toList j) ∧ wr = w1) (fun i _ => s.size - (intOf i).toNat)
          case atStart => exact ⟨k, by omega, by omega, rfl, rfl, rfl⟩
          case round =>
            obtain ⟨j, hj1, hj2, rfl, HJ, rfl⟩ := hrel
            by_cases hjl : j < s.size
            · have hjl2 : (j : Int) < (s.size : Int) := by omega
              by_cases h10 : s[j] = 10
              · have q : (((s[j]).toNat : Int) == 10) = true := u8_eq h10
                have HE := Lib.hid (line_stop (l := s.data.toList) (k := j) hjl (by rw [← lstr_at hjl]; exact h10))
                have hjk : k + 2 ≤ j := by rw [HJ.out, HE.out] at HL2; exact HL2
                clear h10
                go_wp2_with fail
                go_roundw
                case rel => exact ⟨j, by omega, rfl, by unfold Hid; rw [HK.out, HF.out, HJ.out, HE.out], trivial⟩
                case measure => simp [intOf]; omega
              · have q : (((s[j]).toNat : Int) == 10) = false := u8_ne h10
                have HE := Lib.hid (line_on (l := s.data.toList) (k := j) hjl (by rw [← lstr_at hjl]; exact h10))
                clear h10
                go_wp2_with fail
                go_roundw
                case rel => exact ⟨j + 1, by omega, by omega, by go_num, by rw [HJ.out, HE.out]; rfl, trivial⟩
                case measure => simp [intOf]; omega
            · have HE := Lib.hid (line_out (l := s.data.toList) (k := j) hjl)
              have hjk : k + 2 ≤ j := by rw [HJ.out, HE.out] at HL2; exact HL2
              go_wp2_with fail
              go_roundw
              case rel => exact ⟨j, by omega, rfl, by unfold Hid; rw [HK.out, HF.out, HJ.out, HE.out], trivial⟩
              case measure => simp [intOf]; omega
      · rw [HB.out] at hsp
        have HF := Lib.hid (pass_sp (l := s.data.toList) (k := k) hlt hsp)
        clear hsp
        have hq : ∀ c : UInt8, s[k] = c → ∀ d : UInt8, ¬ c = d → (((s[k]).toNat : Int) == (d.toNat : Int)) = false := fun c hc d hd => u8_ne (by rw [hc]; exact hd)
        have hqq : ((((s[k]).toNat : Int) == 32) = true) ∨ ((((s[k]).toNat : Int) == 32) = false ∧ (((s[k]).toNat : Int) == 9) = true) ∨
            ((((s[k]).toNat : Int) == 32) = false ∧ (((s[k]).toNat : Int) == 9) = false ∧ (((s[k]).toNat : Int) == 10) = true) ∨
            ((((s[k]).toNat : Int) == 32) = false ∧ (((s[k]).toNat : Int) == 9) = false ∧ (((s[k]).toNat : Int) == 10) = false ∧ (((s[k]).toNat : Int) == 13) = true) := by
          rcases hb with h | h | h | h
          · exact .inl (u8_eq h)
          · exact .inr (.inl ⟨hq 9 h 32 (by decide), u8_eq h⟩)
          · exact .inr (.inr (.inl ⟨hq 10 h 32 (by decide), hq 10 h 9 (by decide), u8_eq h⟩))
          · exact .inr (.inr (.inr ⟨hq 13 h 32 (by decide), hq 13 h 9 (by decide), hq 13 h 10 (by decide), u8_eq h⟩))
        clear hq hb h45 h47
        rcases hqq with q1 | ⟨q1, q2⟩ | ⟨q1, q2, q3⟩ | ⟨q1, q2, q3, q4⟩
        all_goals
          go_wp2_with fail
          go_roundw
          case rel => exact ⟨k + 1, by omega, by go_num, by rw [HK.out, HF.out]; rfl, trivial⟩
          case measure => simp [intOf]; omega
    · have hf := Lib.hid (pass_out (l := s.data.toList) (k := k) hlt)
      go_wp2_with fail
      go_ret
      exact ⟨by rw [HK.out, hf.out]; rfl, rfl⟩
end Go.Proofs.YtcadoplfgclbjaaDoor
