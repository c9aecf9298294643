/- The contract of the model's reading of what stands between quotes. -/
import Derived.Test.YtodgigdcdgdfdaaDoorLexS
namespace Go.Proofs.YtodgigdcdgdfdaaDoor
open Go.RowKit


theorem Tryd.info8l : (Tryd.prog.info? 5).map (fun i => (i.zero, i.size, i.bytes)) = some (some (.int .u8 0), 1, 1) := by kernel_rfl

def quoV : Option (List UInt8 × Nat) → Value
  | some x => .tuple #[.string ⟨x.1.toArray⟩, .int .i64 (x.2 : Int)]
  | none => .tuple #[.string ⟨#[]⟩, .int .i64 (-1)]
/-- what l3Quoted hands back -/
def QuoE (r : Option (List UInt8 × Nat)) (w : World) (e : Ending) (w' : World) : Prop :=
  e = .returned (quoV r) ∧ Below w.heap.size w w'

theorem quo_ret {r : Option (List UInt8 × Nat)} {out : List UInt8} {r2 : Option (List UInt8 × Nat)} {k : Nat} {x : Int} (h : r = ahead out r2) (h2 : r2 = some ([], k + 1)) (hx : x = (k : Int) + 1 := by rfl) :
    Ending.returned (.tuple #[.string ⟨out.toArray⟩, .int .i64 x]) = .returned (quoV r) := by
  subst h2 h hx
  simp [ahead, quoV]

set_option maxRecDepth 100000 in
set_option maxHeartbeats 1600000 in
theorem quoted_spec (s : ByteArray) (a : Nat) (w : World) (ha : a < s.size) (hs : s.size ≤ 4000000) :
    Calls Tryd.prog 79 #[.string s, .int .i64 (a : Int)] w (QuoE (quo (s.data.toList.getD a 0) s.data.toList (a + 1)) w) := by
  obtain ⟨i0, hi, hz0, hz1, hz2⟩ := info_parts Tryd.info8l
  have hlen : s.data.toList.length = s.size := rfl
  have ha2 : (a : Int) < (s.size : Int) := by omega
  obtain ⟨q, hq⟩ : ∃ q, q = s[a] := ⟨_, rfl⟩
  have hqd : s.data.toList.getD a 0 = q := by rw [hq, lstr_at ha]
  rw [hqd]
  have hq1 : ((s[a]).toNat : Int) = (q.toNat : Int) := by rw [hq]
  have HQ := Lib.hid hq1; have HQD := Lib.hid hqd; clear hq hq1 hqd
  go_enter Tryd.func79, Tryd.ntmps79
  go_wp2_with fail
  rw [HQ.out]
  go_loopw [7, 8] (fun v i wr => ∃ (k g cap : Nat) (out : List UInt8), k ≤ s.size ∧ out.length ≤ k ∧ i = .int .i64 (k : Int) ∧ v = .slice (some ⟨g, 0, none⟩) out.length cap ∧ Hid (quo q s.data.toList (a + 1) = ahead out (quo q s.data.toList k)) ∧ OwnB 5 wr w.heap.size (.slice (some ⟨g, 0, none⟩) out.length cap) out ∧ Below w.heap.size w wr) (fun _ i _ => s.size - (intOf i).toNat)
  case atStart => exact ⟨a + 1, w.heap.size, 0, [], by omega, by simp, by go_num, rfl, (ahead_nil _).symm, World.ownsRow_lit w #[] 0 (Nat.le_refl _) (by unfold maxLen; omega) rfl, (Below.refl _ _).alloc (Nat.le_refl _) _⟩
  case round =>
    obtain ⟨k, g, cap, out, hk, hol, rfl, rfl, HL, hown, hbel⟩ := hrel
    have hsz := hbel.size
    by_cases hlt : k < s.size
    · have hlt2 : (k : Int) < (s.size : Int) := by omega
      have HB := Lib.hid (lstr_at hlt)
      by_cases he : s[k] = q
      · have q1 := u8_eq he
        have he' : s.data.toList.getD k 0 = q := by rw [← HB.out]; exact he
        have HE := Lib.hid he; clear he
        by_cases h2 : k + 1 < s.size
        · have h2i : (k : Int) + 1 < (s.size : Int) := by omega
          have d2 : decide ((s.size : Int) ≤ (k : Int) + 1) = false := by simp; omega
          by_cases he2 : s[k + 1] = q
          · have q2 := u8_eq he2
            have HN := Lib.hid (quo_two (l := s.data.toList) (k := k) hlt he' h2 (by rw [← lstr_at h2]; exact he2))
            clear he2 he'
            go_wp2_with (at_builtin; refine appB Tryd.underlying22 hi hz0 hz1 hz2 rfl (.tmp 49) (.tmp 51) rfl w.heap.size (.slice (some ⟨g, 0, none⟩) out.length cap) out q _ wr rfl rfl hown rfl (by omega) (by omega) ?_; intro g3 c3 w3 hown3 hbel3)
            go_roundw
            case rel => exact ⟨k + 2, g3, c3, out ++ [q], by omega, by simp; omega, by go_num, by simp, by unfold Hid; rw [HL.out, HN.out, ahead_cons], by have h := hown3; simpa using h, hbel.trans hbel3⟩
            case measure => simp [intOf]; omega
          · have q2 := u8_ne he2
            have HN := Lib.hid (quo_stop (l := s.data.toList) (k := k) hlt he' (by rintro ⟨_, h⟩; exact he2 (by rw [lstr_at h2]; exact h)))
            clear he2 he'
            have hcv := OwnB.string (src := 22) (dst := 9) hown rfl Tryd.underlying22 Tryd.underlying5 Tryd.underlying9
            go_wp2_with fail
            go_ret2
            exact ⟨quo_ret HL.out HN.out, hbel⟩
        · have d2 : decide ((s.size : Int) ≤ (k : Int) + 1) = true := by simp; omega
          have HN := Lib.hid (quo_stop (l := s.data.toList) (k := k) hlt he' (by rintro ⟨h, _⟩; omega))
          clear he'
          have hcv := OwnB.string (src := 22) (dst := 9) hown rfl Tryd.underlying22 Tryd.underlying5 Tryd.underlying9
          go_wp2_with fail
          go_ret2
          exact ⟨quo_ret HL.out HN.out, hbel⟩
      · have q1 := u8_ne he
        have HN := Lib.hid (quo_other (q := q) (l := s.data.toList) (k := k) hlt (by rw [← HB.out]; exact he))
        clear he
        go_wp2_with (at_builtin; refine appB Tryd.underlying22 hi hz0 hz1 hz2 rfl (.tmp 26) (.tmp 30) rfl w.heap.size (.slice (some ⟨g, 0, none⟩) out.length cap) out s[k] _ wr rfl rfl hown rfl (by omega) (by omega) ?_; intro g3 c3 w3 hown3 hbel3)
        go_roundw
        case rel => exact ⟨k + 1, g3, c3, out ++ [s[k]], by omega, by simp; omega, by go_num, by simp, by unfold Hid; rw [HL.out, HN.out, ahead_cons, ← HB.out], by have h := hown3; simpa using h, hbel.trans hbel3⟩
        case measure => simp [intOf]; omega
    · have HN := Lib.hid (quo_out (q := q) (l := s.data.toList) (k := k) hlt)
      go_wp2_with fail
      go_ret2
      exact ⟨by rw [HL.out, HN.out]; rfl, hbel⟩
end Go.Proofs.YtodgigdcdgdfdaaDoor
