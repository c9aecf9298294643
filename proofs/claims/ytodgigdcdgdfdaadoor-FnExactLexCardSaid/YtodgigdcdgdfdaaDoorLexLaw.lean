
/- The walk of the law FnExactLex, from the contract of the program's lexer. -/
import Derived.Test.YtodgigdcdgdfdaaDoorLexX
import Derived.Test.YtodgigdcdgdfdaaDoorMaxI
import Derived.Test.YtodgigdcdgdfdaaDoorTokMk
import Derived.Test.YtodgigdcdgdfdaaDoorLexRow
namespace Go.Proofs.YtodgigdcdgdfdaaDoor
open Go.RowKit

set_option maxRecDepth 100000 in
set_option maxHeartbeats 1600000 in
theorem exactLex_walk (hI : ∀ (s : ByteArray) (w : World), s.size ≤ 9223372036854775807 → MaxI w → Calls Tryd.prog 12 #[.string s] w (LexE (lexR s.data.toList) w))
    (s : ByteArray) (w : World) (hs : s.size ≤ maxLen) (hm : MaxI w) : Calls Tryd.prog 8 #[.string s] w (BoolE true w) := by
  have hs2 : s.size ≤ 9223372036854775807 := hs
  by_cases hbig : 1048576 < s.size
  · have hd : decide (1048576 < (s.size : Int)) = true := by simp; omega
    go_enter Tryd.func8, Tryd.ntmps8
    go_wp2
    go_ret
    exact ⟨rfl, Below.refl _ _⟩
  · have hd : decide (1048576 < (s.size : Int)) = false := by simp; omega
    have hn := rn_le s.data.toList
    have HS := Lib.hid (fun (w : World) => lex_spec s w hs2)
    have HI := Lib.hid (fun (w : World) (h : MaxI w) => hI s w hs2 h)
    have HM := Lib.hid (fun (w' : World) (h : Below w.heap.size w w') => hm.later h hm.two)
    clear hm
    have HR := Lib.hid (fun (w w' : World) (e : Ending) (h : LexE (lexR s.data.toList) w e w') => h.row)
    clear hI
    generalize lexR s.data.toList = r at *
    generalize rn r = n at *
    generalize rx r = x at *
    generalize rf r = f at *
    have hnn : decide (3 * (n : Int) + 1 < 0) = false := by simp; omega
    go_enter Tryd.func8, Tryd.ntmps8
    go_wp2_with fail
    refine (HS.out _).mono ?_
    intro e w1 h1
    obtain ⟨a1, c1, rfl, r1, b1⟩ := HR.out _ _ _ h1
    clear h1
    go_wp2_with fail
    refine (HI.out _ (HM.out _ b1)).mono ?_
    intro e w2 h2
    obtain ⟨a2, c2, rfl, r2, b2⟩ := HR.out _ _ _ h2
    clear h2
    have r1' := r1.below b2
    have bb2 := b1.trans (b2.mono b1.size)
    have b1s := b1.size
    -- the block of the first slice lies below that of the second
    have hap : ∀ g, a1 = some ⟨g, 0, none⟩ → 0 < n → g < w1.heap.size := fun g e hn0 => by
      obtain ⟨g', e', _, hl, _⟩ := r1 0 hn0
      rw [e] at e'
      have : g = g' := by simpa using e'
      omega
    go_wp2_with fail
    refine (eqToks_any _ _ a2 a1 n c2 c1 f _ r2 r1' (by omega)).mono ?_
    rintro e w3 ⟨rfl, b3⟩
    have r1a := r1'.below b3
    have r2a := r2.below b3
    have bb3 := bb2.trans (b3.mono bb2.size)
    clear r1 r2 r1' b1
    go_wp2_with fail
    refine (markToks_any _ a2 n c2 f _ r2a (by omega)).mono ?_
    rintro e w4 ⟨rfl, r2b, tr4, hz4⟩
    have hg2 : ∀ g, a2 = some ⟨g, 0, none⟩ → 0 < n → w1.heap.size ≤ g := fun g e hn0 => by
      obtain ⟨g', e', hB, _⟩ := r2a 0 hn0
      rw [e] at e'
      have : g = g' := by simpa using e'
      omega
    have hrow4 : ∀ k, 0 < n → a2.map (·.block) = some k → w1.heap.size ≤ k := fun k hn0 hk => by
      obtain ⟨g', e', hB, _⟩ := r2a 0 hn0
      rw [e'] at hk
      have : g' = k := by simpa using hk
      omega
    have r1b : TokSl w4 w.heap.size a1 n f := by
      rcases Nat.eq_zero_or_pos n with h0 | h0
      · intro j hj; omega
      · exact r1a.keep tr4.size fun g e _ hlt => tr4.block g hlt (fun eq => by
          have h1 := hap g e h0
          have h2 := hrow4 g h0 eq.symm
          omega)
    have bb4 : Below w.heap.size w w4 := by
      rcases Nat.eq_zero_or_pos n with h0 | h0
      · rw [hz4 h0]; exact bb3
      · exact bb3.grown tr4 bb3.size (fun k hk => by
          have h2 := hrow4 k h0 hk
          have h3 := b1s
          omega)
    clear hz4 tr4 hrow4 hg2 hap r1a r2a b3 b2
    go_wp2_with fail
    refine (heldToks_any _ a2 n c2 _ r2b (by omega)).mono ?_
    rintro e w5 ⟨rfl, b5⟩
    have r1c := r1b.below b5
    have r2c := r2b.below b5
    have bb5 := bb4.trans (b5.mono bb4.size)
    clear r1b r2b b5
    go_wp2_with fail
    refine (HI.out _ (HM.out _ bb5)).mono ?_
    intro e w6 h6
    obtain ⟨a3, c3, rfl, r3, b6⟩ := HR.out _ _ _ h6
    clear h6
    have r1d := r1c.below b6
    have r2d := r2c.below b6
    have bb6 := bb5.trans (b6.mono bb5.size)
    clear r1c r2c b6
    go_wp2_with fail
    refine (eqToks_any _ _ a3 a1 n c3 c1 f _ r3 r1d (by omega)).mono ?_
    rintro e w7 ⟨rfl, b7⟩
    have r2e := r2d.below b7
    have bb7 := bb6.trans (b7.mono bb6.size)
    clear r1d r2d r3 b7
    go_wp2_with fail
    refine (heldToks_any _ a2 n c2 _ r2e (by omega)).mono ?_
    rintro e w8 ⟨rfl, b8⟩
    have bb8 := bb7.trans (b8.mono bb7.size)
    go_wp2_with fail
    go_ret
    exact ⟨rfl, bb8⟩
end Go.Proofs.YtodgigdcdgdfdaaDoor
