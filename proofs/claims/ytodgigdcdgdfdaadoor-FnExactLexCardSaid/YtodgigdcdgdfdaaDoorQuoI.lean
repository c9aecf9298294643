
/- Contracts of the program's lengths of quoted texts and of operators. -/
import Derived.Test.YtodgigdcdgdfdaaDoorElemI
import Derived.Test.YtodgigdcdgdfdaaDoorSignI
import Derived.Deep.QuietTactic
import Derived.BigQuiet
namespace Go.Proofs.YtodgigdcdgdfdaaDoor
open Go.RowKit

theorem u8_neq {a b : UInt8} (h : ¬ a = b) : ((a.toNat : Int) != (b.toNat : Int)) = true := by
  have := u8_ne h
  simp only [bne, this, Bool.not_false]
theorem u8_neqF {a b : UInt8} (h : a = b) : ((a.toNat : Int) != (b.toNat : Int)) = false := by
  have := u8_eq h
  simp only [bne, this, Bool.not_true]
/-- the place behind the quoted text, from k on -/
def quoAt (q : UInt8) (l : List UInt8) (k : Nat) : Nat := match quo q l k with
  | some r => r.2
  | none => 0
theorem quoAt_out {q : UInt8} {l : List UInt8} {k : Nat} (h : ¬ k < l.length) : quoAt q l k = 0 := by unfold quoAt; rw [quo_out h]
theorem quoAt_other {q : UInt8} {l : List UInt8} {k : Nat} (h : k < l.length) (hq : ¬ l.getD k 0 = q) : quoAt q l k = quoAt q l (k + 1) := by
  unfold quoAt; rw [quo_other h hq]; rcases quo q l (k + 1) with _ | r <;> rfl
theorem quoAt_two {q : UInt8} {l : List UInt8} {k : Nat} (h : k < l.length) (hq : l.getD k 0 = q) (h2 : k + 1 < l.length) (hq2 : l.getD (k + 1) 0 = q) : quoAt q l k = quoAt q l (k + 2) := by
  unfold quoAt; rw [quo_two h hq h2 hq2]; rcases quo q l (k + 2) with _ | r <;> rfl
theorem quoAt_stop {q : UInt8} {l : List UInt8} {k : Nat} (h : k < l.length) (hq : l.getD k 0 = q) (h2 : ¬ (k + 1 < l.length ∧ l.getD (k + 1) 0 = q)) : quoAt q l k = k + 1 := by
  unfold quoAt; rw [quo_stop h hq h2]

set_option maxRecDepth 100000 in
set_option maxHeartbeats 1600000 in
theorem quotedSize_impl (q : UInt8) (s : ByteArray) (w : World) (hs : s.size ≤ 4000000) (h0 : 0 < s.size) (hq : s.data.toList.getD 0 0 = q) :
    Calls Tryd.prog 88 #[.string s] w (IntE (quoL q s.data.toList : Nat) w) := by
  have hlen : s.data.toList.length = s.size := rfl
  have hq0 : s[0] = q := by rw [lstr_at h0]; exact hq
  have HQ := Lib.hid hq0; clear hq0
  have h0i : (0 : Int) < (s.size : Int) := by omega
  go_enter Tryd.func88, Tryd.ntmps88
  go_wp2_with fail
  go_loopw [3] (fun i wr => ∃ k : Nat, k ≤ s.size ∧ i = .int .i64 (k : Int) ∧ Hid (quoL q s.data.toList = quoAt q s.data.toList k) ∧ Below w.heap.size w wr) (fun i _ => s.size - (intOf i).toNat)
  case atStart => exact ⟨1, h0, rfl, rfl, Below.refl _ _⟩
  case round =>
    obtain ⟨k, hk, rfl, HK, hbel⟩ := hrel
    by_cases hlt : k < s.size
    · have hlt2 : (k : Int) < (s.size : Int) := by omega
      have HB := Lib.hid (lstr_at hlt)
      by_cases he : s[k] = q
      · have q1 : ((s[k].toNat : Int) != (s[0].toNat : Int)) = false := u8_neqF (by rw [HQ.out]; exact he)
        have he' : s.data.toList.getD k 0 = q := by rw [← HB.out]; exact he
        clear he
        have hw1 : IntKind.i64.wrap ((k : Int) + 1) = (k : Int) + 1 := IntWalk.i64_in _ (by omega)
        by_cases h2 : k + 1 < s.size
        · have h2i : (k : Int) + 1 < (s.size : Int) := by omega
          have d2 : ((k : Int) + 1 == (s.size : Int)) = false := by simp; omega
          have hge : (0 : Int) ≤ (k : Int) + 1 := by omega
          have htn : ((k : Int) + 1).toNat = k + 1 := by omega
          by_cases he2 : s[k + 1] = q
          · have q2 : ((s[k + 1].toNat : Int) != (s[0].toNat : Int)) = false := u8_neqF (by rw [HQ.out]; exact he2)
            have HN := Lib.hid (quoAt_two (l := s.data.toList) (k := k) hlt he' h2 (by rw [← lstr_at h2]; exact he2))
            clear he2 he'
            go_wp2_with fail
            go_quiet (fail)
            go_wp2_with fail
            go_quiet (fail)
            go_wp2_with fail
            go_roundw
            case rel => exact ⟨k + 2, by omega, by go_num, by unfold Hid; rw [HK.out, HN.out], ⟨hbel.os, hbel.tape, hbel.output, hbel.size, hbel.block⟩⟩
            case measure => simp [intOf]; omega
          · have q2 : ((s[k + 1].toNat : Int) != (s[0].toNat : Int)) = true := u8_neq (by rw [HQ.out]; exact he2)
            have HN := Lib.hid (quoAt_stop (l := s.data.toList) (k := k) hlt he' (by rintro ⟨_, h⟩; exact he2 (by rw [lstr_at h2]; exact h)))
            clear he2 he'
            go_wp2_with fail
            go_quiet (fail)
            go_wp2_with fail
            go_quiet (fail)
            go_wp2_with fail
            go_ret
            exact ⟨by rw [HK.out, HN.out]; rfl, ⟨hbel.os, hbel.tape, hbel.output, hbel.size, hbel.block⟩⟩
        · have d2 : ((k : Int) + 1 == (s.size : Int)) = true := by simp; omega
          have HN := Lib.hid (quoAt_stop (l := s.data.toList) (k := k) hlt he' (by rintro ⟨h, _⟩; omega))
          clear he'
          go_wp2_with fail
          go_quiet (fail)
          go_wp2_with fail
          go_quiet (fail)
          go_wp2_with fail
          go_ret
          exact ⟨by rw [HK.out, HN.out]; rfl, ⟨hbel.os, hbel.tape, hbel.output, hbel.size, hbel.block⟩⟩
      · have q1 : ((s[k].toNat : Int) != (s[0].toNat : Int)) = true := u8_neq (by rw [HQ.out]; exact he)
        have HN := Lib.hid (quoAt_other (q := q) (l := s.data.toList) (k := k) hlt (by rw [← HB.out]; exact he))
        clear he
        go_wp2_with fail
        go_quiet (fail)
        go_wp2_with fail
        go_roundw
        case rel => exact ⟨k + 1, by omega, by go_num, by unfold Hid; rw [HK.out, HN.out], ⟨hbel.os, hbel.tape, hbel.output, hbel.size, hbel.block⟩⟩
        case measure => simp [intOf]; omega
    · have HN := Lib.hid (quoAt_out (q := q) (l := s.data.toList) (k := k) hlt)
      go_wp2_with fail
      go_ret
      exact ⟨by rw [HK.out, HN.out]; rfl, hbel⟩

/-- the longest operator of at most k bytes at the head -/
def upTo (l : List UInt8) : Nat → Nat
  | 0 => 0
  | k + 1 => if signB (l.take (k + 1)) = true then k + 1 else upTo l k
theorem upTo_yes {l : List UInt8} {k : Nat} (h : 0 < k) (hs : signB (l.take k) = true) : upTo l k = k := by
  match k, h with
  | k + 1, _ => rw [upTo, if_pos hs]
theorem upTo_no {l : List UInt8} {k : Nat} (h : 0 < k) (hs : signB (l.take k) = false) : upTo l k = upTo l (k - 1) := by
  match k, h with
  | k + 1, _ => rw [upTo, if_neg (by rw [hs]; simp)]; rfl
theorem signLen_up (l : List UInt8) : signLen l = upTo l (min 2 l.length) := by
  unfold signLen
  by_cases h2 : 2 ≤ l.length
  · rw [Nat.min_eq_left h2]
    by_cases hs : signB (l.take 2) = true
    · rw [if_pos ⟨h2, hs⟩, upTo, if_pos hs]
    · rw [if_neg (fun h => hs h.2), upTo, if_neg hs]
      by_cases hs1 : signB (l.take 1) = true
      · rw [if_pos ⟨by omega, hs1⟩, upTo, if_pos hs1]
      · rw [if_neg (fun h => hs1 h.2), upTo, if_neg hs1]; rfl
  · rw [if_neg (fun h => h2 h.1)]
    by_cases h1 : 1 ≤ l.length
    · rw [show min 2 l.length = 1 by omega]
      by_cases hs1 : signB (l.take 1) = true
      · rw [if_pos ⟨h1, hs1⟩, upTo, if_pos hs1]
      · rw [if_neg (fun h => hs1 h.2), upTo, if_neg hs1]; rfl
    · rw [if_neg (fun h => h1 h.1), show min 2 l.length = 0 by omega]; rfl
theorem ext_pre (s : ByteArray) (n : Nat) : (s.extract 0 n).data.toList = s.data.toList.take n := by rw [Lib.extract_data]; simp

set_option maxRecDepth 100000 in
set_option maxHeartbeats 1600000 in
theorem signSize_impl (s : ByteArray) (w : World) (hs : s.size ≤ 4000000) :
    Calls Tryd.prog 71 #[.string s] w (PureE (.int .i64 (signLen s.data.toList : Nat)) w) := by
  have hlen : s.data.toList.length = s.size := rfl
  have hE := Lib.hid (signLen_up s.data.toList)
  have hm : min (2 : Int) (s.size : Int) = ((min 2 s.size : Nat) : Int) := by omega
  go_enter Tryd.func71, Tryd.ntmps71
  go_wp2_with fail
  go_loopw [3] (fun i wr => ∃ k : Nat, k ≤ 2 ∧ k ≤ s.size ∧ i = .int .i64 (k : Int) ∧ Hid (signLen s.data.toList = upTo s.data.toList k) ∧ wr = w) (fun i _ => (intOf i).toNat)
  case atStart => exact ⟨min 2 s.size, by omega, by omega, rfl, hE.out, rfl⟩
  case round =>
    obtain ⟨k, hk2, hk, rfl, HK, rfl⟩ := hrel
    by_cases h0 : 0 < k
    · have d0 : decide ((0 : Int) < (k : Int)) = true := by simpa using h0
      have hki : (k : Int) ≤ (s.size : Int) := by omega
      have hS := fun w => signOk_impl (s.extract 0 k) w
      rw [ext_pre] at hS
      have hy := upTo_yes (l := s.data.toList) h0
      have hn := upTo_no (l := s.data.toList) h0
      generalize signB (s.data.toList.take k) = b at hS hy hn
      cases b
      · have HN := Lib.hid (hn rfl)
        clear hn hy
        go_wp2_with fail
        refine (hS _).mono ?_
        rintro e w1 ⟨rfl, rfl⟩
        go_wp2_with fail
        go_roundw
        case rel => exact ⟨k - 1, by omega, by omega, by congr 1; omega, by unfold Hid; rw [HK.out, HN.out], trivial⟩
        case measure => simp [intOf]; omega
      · have HN := Lib.hid (hy rfl)
        clear hn hy
        go_wp2_with fail
        refine (hS _).mono ?_
        rintro e w1 ⟨rfl, rfl⟩
        go_wp2_with fail
        go_ret
        exact ⟨by rw [HK.out, HN.out]; rfl, rfl⟩
    · have hk0 : k = 0 := by omega
      subst hk0
      go_wp2_with fail
      go_ret
      exact ⟨by rw [HK.out]; rfl, rfl⟩
end Go.Proofs.YtodgigdcdgdfdaaDoor
