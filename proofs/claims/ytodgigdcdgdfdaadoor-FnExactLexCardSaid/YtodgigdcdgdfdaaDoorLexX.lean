
/- The contract of the model's lexer. -/
import Derived.Test.YtodgigdcdgdfdaaDoorLexP
import Derived.Test.YtodgigdcdgdfdaaDoorLexO
import Derived.Test.YtodgigdcdgdfdaaDoorToks
import Derived.Deep.DeepMust
namespace Go.Proofs.YtodgigdcdgdfdaaDoor
open Go.RowKit

theorem LexE.bad {r : Except Nat (List Tk)} {L : List Tk} {n : Nat} {x : Int} {a : Option Addr} {cap : Nat} {w w' : World} (h : r = aheadT L (.error n)) (hx : x = (n : Int)) (hb : Below w.heap.size w w') : LexE r w (.returned (.tuple #[.slice a 0 cap, .int .i64 x])) w' := by
  subst h hx
  exact ⟨⟨a, cap, rfl⟩, hb⟩
theorem LexE.good {r : Except Nat (List Tk)} {L : List Tk} {v : Value} {w w' : World} (h : r = aheadT L (.ok [])) (ho : OwnT w' w.heap.size v L) (hb : Below w.heap.size w w') : LexE r w (.returned (.tuple #[v, .int .i64 (-1)])) w' := by
  subst h
  refine ⟨?_, hb⟩
  show ∃ v', _ ∧ OwnT w' w.heap.size v' (L ++ [])
  rw [List.append_nil]
  exact ⟨v, rfl, ho⟩

set_option maxRecDepth 100000 in
set_option maxHeartbeats 2000000 in
theorem lex_spec (s : ByteArray) (w : World) (hs : s.size ≤ 9223372036854775807) :
    Calls Tryd.prog 20 #[.string s] w (LexE (lexR s.data.toList) w) := by
  have hlen : s.data.toList.length = s.size := rfl
  by_cases hbig : 2000 < s.size
  · have d : decide (2000 < (s.size : Int)) = true := by simp; omega
    have hE : lexR s.data.toList = .error 2000 := by unfold lexR; rw [if_pos (by omega)]
    have HE := Lib.hid hE; clear hE
    go_enter Tryd.func20, Tryd.ntmps20
    go_wp2_with fail
    go_ret2
    exact LexE.bad (L := []) (n := 2000) (by rw [HE.out]; rfl) rfl ((Below.refl _ _).alloc (Nat.le_refl _) _)
  · have d : decide (2000 < (s.size : Int)) = false := by simp; omega
    have hE : lexR s.data.toList = lexF s.data.toList 0 := by unfold lexR; rw [if_neg (by omega)]
    rw [hE]; clear hE
    go_enter Tryd.func20, Tryd.ntmps20
    go_wp2_with fail
    go_loopw [4, 5] (fun v i wr => ∃ (k g cap : Nat) (L : List Tk), k ≤ s.size ∧ L.length ≤ k ∧ i = .int .i64 (k : Int) ∧ v = .slice (some ⟨g, 0, none⟩) L.length cap ∧ Hid (lexF s.data.toList 0 = aheadT L (lexF s.data.toList k)) ∧ OwnT wr w.heap.size (.slice (some ⟨g, 0, none⟩) L.length cap) L ∧ Below w.heap.size w wr) (fun _ i _ => s.size - (intOf i).toNat)
    case atStart => exact ⟨0, w.heap.size, 0, [], by omega, by simp, rfl, rfl, (aheadT_nil _).symm, World.ownsRow_lit w #[] 0 (Nat.le_refl _) (by unfold maxLen; omega) rfl, (Below.refl _ _).alloc (Nat.le_refl _) _⟩
    case round =>
      obtain ⟨k, g, cap, L, hk, hLk, rfl, rfl, HL, hown, hbel⟩ := hrel
      have hsz := hbel.size
      have hpb := pass_bounds s.data.toList _ k (Nat.le_refl _) (by omega)
      have hpg := pass_ge s.data.toList _ k (Nat.le_refl _)
      have hbad := lexF_bad (l := s.data.toList) (a := k)
      have hend := fun p => lexF_end (l := s.data.toList) (a := k) (p := p)
      have hnone := fun p => lexF_none (l := s.data.toList) (a := k) (p := p)
      have hsome := fun p e t => lexF_some (l := s.data.toList) (a := k) (p := p) (e := e) (t := t)
      have hP := fun w => pass_spec s k w hk (by omega)
      generalize pass s.data.toList k = p at hpb hpg hbad hend hnone hsome hP
      go_wp2_with fail
      refine (hP _).mono ?_
      rintro e w1 ⟨rfl, rfl⟩
      clear hP
      by_cases hp0 : p < 0
      · have dp : decide (p < 0) = true := by simpa using hp0
        have HB := Lib.hid (hbad hp0)
        clear hbad hend hnone hsome
        go_wp2_with fail
        go_ret2
        exact LexE.bad (HL.out.trans (by rw [HB.out])) (by omega) (hbel.alloc hsz _)
      · have dp : decide (p < 0) = false := by simpa using hp0
        obtain ⟨q, rfl⟩ := Int.eq_ofNat_of_zero_le (show 0 ≤ p by omega)
        by_cases hq : q < s.size
        · have dq : decide ((s.size : Int) ≤ (q : Int)) = false := by simp; omega
          go_wp2_with fail
          refine (one_spec s q _ hq (by omega)).mono ?_
          rintro e w2 ⟨h1, hb2⟩
          rcases ho : one s.data.toList q with _ | ⟨t, n⟩
          · rw [ho] at h1
            obtain ⟨kk, xx, nn, rfl⟩ := h1
            have HB := Lib.hid (hnone q rfl hq ho)
            clear hbad hend hnone hsome ho
            have hbb := hbel.trans (hb2.mono hsz)
            have hz2 := hbb.size
            go_wp2_with fail
            go_ret2
            exact LexE.bad (HL.out.trans (by rw [HB.out])) rfl ((hbb.alloc hz2 _).alloc (by simp; omega) _)
          · rw [ho] at h1
            have h1' : e = .returned (.tuple #[.agg #[.int .i64 t.k, .string ⟨t.t.toArray⟩, .int .i64 (t.a : Int)], .int .i64 (n : Int)]) := h1
            subst h1'
            obtain ⟨hn1, hn2, -, -⟩ := one_end (by omega) ho
            have HB := Lib.hid (hsome q n t rfl hq ho)
            have hkq : k ≤ q := by rcases hpg with h | h <;> omega
            have dn : decide ((n : Int) < 0) = false := by simp
            clear hbad hend hnone hsome ho h1
            have hbb := hbel.trans (hb2.mono hsz)
            have hz2 := hbb.size
            have hown2 : OwnT w2 w.heap.size (.slice (some ⟨g, 0, none⟩) L.length cap) L := World.ownsRow.kept hown (row := none) ⟨hb2.os, hb2.tape, hb2.output, hb2.size, fun k hk _ => hb2.block k hk⟩ (.inr (fun e => by cases e))
            have hown2' := World.ownsRow.alloc hown2 (.cells #[.int .i64 t.k, .string ⟨t.t.toArray⟩, .int .i64 (t.a : Int)] 31)
            go_wp2_with (at_builtin; go_must (refine appT rfl (.tmp 37) (.tmp 39) rfl w.heap.size (.slice (some ⟨g, 0, none⟩) L.length cap) L t _ rfl _ (w2.heap.size + 1) (by simp) rfl rfl hown2' (by omega) (by simp; omega) ?_); intro g3 c3 w3 hown3 hbel3)
            go_roundw
            case rel => exact ⟨n, g3, c3, L ++ [t], by omega, by simp; omega, rfl, by simp, by unfold Hid; exact HL.out.trans (by rw [HB.out, aheadT_cons]), by have h := hown3; simpa using h, (hbb.alloc hz2 _).trans hbel3⟩
            case measure => simp [intOf]; omega
        · have dq : decide ((s.size : Int) ≤ (q : Int)) = true := by simp; omega
          have HB := Lib.hid (hend q rfl hq)
          clear hbad hend hnone hsome
          go_wp2_with fail
          go_ret2
          exact LexE.good (HL.out.trans (by rw [HB.out])) hown hbel
end Go.Proofs.YtodgigdcdgdfdaaDoor
