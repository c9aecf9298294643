/- The walk of the law FnExactParts. -/
import Derived.Test.YtojafonpfcpmjaaDoorStr
import Derived.Test.YtojafonpfcpmjaaDoorItoa
namespace Go.Proofs.YtojafonpfcpmjaaDoor
open Go.RowKit

/-- a slice of the parts, as the walks take it -/
theorem PartsE.row {c : UInt8} {s : ByteArray} {w w' : World} {e : Ending} (h : PartsE c s w e w') :
    ∃ (g cap : Nat), e = .returned (.slice (some ⟨g, 0, none⟩) (pieces c s.data.toList).length cap) ∧ w.heap.size ≤ g ∧ StrRow w' g (pieces c s.data.toList).length (fun j => ⟨((pieces c s.data.toList).getD j []).toArray⟩) ∧ Below w.heap.size w w' := by
  obtain ⟨g, cap, e1, h2, h3⟩ := h
  exact ⟨g, cap, e1, h2.row.1, h2.row.2, h3⟩

set_option maxRecDepth 100000 in
set_option maxHeartbeats 800000 in
theorem exactParts_walk (s : ByteArray) (c : UInt8) (w : World) (hs : s.size ≤ maxLen) (hm : MaxI w) :
    Calls Tryd.prog 6 #[.string s, .int .u8 (c.toNat : Int)] w (TrueE w) := by
  unfold maxLen at hs
  have h2 := hm.two
  by_cases hbig : 1048576 < s.size
  · go_enter Tryd.func6, Tryd.ntmps6
    go_wp2_with fail
    go_ret
    exact ⟨rfl, Below.refl _ _⟩
  · have hs2 : s.size ≤ 1048576 := by omega
    have hn : (pieces c s.data.toList).length ≤ 1048577 := by have := pieces_le c s.data.toList; have e : s.data.toList.length = s.size := rfl; omega
    have HR := fun (w w' : World) (e : Ending) (h : PartsE c s w e w') => h.row
    have HSP := Lib.hid (fun w : World => parts_spec s c w hs2)
    have HIM := Lib.hid (fun w : World => parts_impl s c w hs2)
    generalize (pieces c s.data.toList).length = n at *
    generalize (fun j => (⟨((pieces c s.data.toList).getD j []).toArray⟩ : ByteArray)) = f at *
    have HRR := Lib.hid HR
    clear HR
    go_enter Tryd.func6, Tryd.ntmps6
    go_wp2_with fail
    refine (HSP.out _).mono ?_
    intro e w1 hp1
    obtain ⟨g1, c1, rfl, hg1, r1, b1⟩ := HRR.out _ _ _ hp1
    clear hp1
    have m1 := hm.later b1 h2
    have z1 := b1.size
    go_wp2_with fail
    refine (HIM.out _ m1).mono ?_
    intro e w2 hp2
    obtain ⟨g2, c2, rfl, hg2, r2, b2⟩ := HRR.out _ _ _ hp2
    clear hp2
    have r1' := r1.below b2 r1.1
    have hlt12 : g1 < g2 := by have := r1.1; omega
    have bb2 := b1.trans (b2.mono z1)
    have z2 := bb2.size
    go_wp2_with fail
    refine (eq_any g2 g1 n c2 c1 f _ r2 r1' hn).mono ?_
    rintro e w3 ⟨rfl, k3⟩
    have r1a := r1'.keep (w' := w3) (by rw [k3.1]) (by rw [k3.1]; exact Nat.le_refl _)
    have r2a := r2.keep (w' := w3) (by rw [k3.1]) (by rw [k3.1]; exact Nat.le_refl _)
    have bb3 := bb2.trans (k3.2.mono z2)
    have z3 := bb3.size
    clear r1 r2 r1' b1 b2 k3
    go_wp2_with fail
    refine (mark_any g2 n c2 f _ r2a hn).mono ?_
    rintro e w4 ⟨rfl, r2b, gr4⟩
    have r1b := r1a.keep (w' := w4) (gr4.block g1 r1a.1 (by simp; omega)) gr4.size
    have bb4 : Below w.heap.size w w4 := bb3.grown gr4 z3 (fun k e => by simp at e; omega)
    have z4 := bb4.size
    have m4 := hm.later bb4 h2
    clear r1a r2a gr4
    go_wp2_with fail
    refine (held_any g2 n c2 _ r2b hn).mono ?_
    rintro e w5 ⟨rfl, b5⟩
    have r1c := r1b.below b5 r1b.1
    have r2c := r2b.below b5 r2b.1
    have bb5 := bb4.trans (b5.mono z4)
    have z5 := bb5.size
    have m5 := hm.later bb5 h2
    clear r1b r2b b5 m4
    go_wp2_with fail
    refine (HIM.out _ m5).mono ?_
    intro e w6 hp6
    obtain ⟨g3, c3, rfl, hg3, r3, b6⟩ := HRR.out _ _ _ hp6
    clear hp6
    have r1d := r1c.below b6 r1c.1
    have r2d := r2c.below b6 r2c.1
    have bb6 := bb5.trans (b6.mono z5)
    have z6 := bb6.size
    clear r1c r2c b6
    go_wp2_with fail
    refine (eq_any g3 g1 n c3 c1 f _ r3 r1d hn).mono ?_
    rintro e w7 ⟨rfl, k7⟩
    have r2e := r2d.keep (w' := w7) (by rw [k7.1]) (by rw [k7.1]; exact Nat.le_refl _)
    have bb7 := bb6.trans (k7.2.mono z6)
    have z7 := bb7.size
    clear r1d r2d r3 k7
    go_wp2_with fail
    refine (held_any g2 n c2 _ r2e hn).mono ?_
    rintro e w8 ⟨rfl, b8⟩
    have bb8 := bb7.trans (b8.mono z7)
    go_wp2_with fail
    go_ret
    exact ⟨rfl, bb8⟩
end Go.Proofs.YtojafonpfcpmjaaDoor
