
/- The walk of the law on the order of rows. -/
import Derived.Test.YtelbcfipkanfkaaArgVal
import Derived.Test.YtelbcfipkanfkaaOrdS
import Derived.Test.YtelbcfipkanfkaaValSl
namespace Go.Proofs.Ytelbcfipkanfkaa
open Go.RowKit

/-- what the program's OrderRow is known to do -/
def OrdRowI : Prop := ∀ (B1 B2 : Nat) (a b : Option Addr) (n m ca cb : Nat) (f f' : Nat → Int × Int × ByteArray) (w : World), ValSl w B1 a n f → ValSl w B2 b m f' → n ≤ 4000000 → m ≤ 4000000 →
    Calls Try.prog 19 #[.slice a n ca, .slice b m cb] w (IntE (ordR (rowF n f) (rowF m f')) w)

set_option maxRecDepth 100000 in
set_option maxHeartbeats 4000000 in
theorem ex_orderRow (hII : OrdRowI) (a b : Option Addr) (n n' ca cb : Nat) (f f' : Nat → Int × Int × ByteArray) (w : World) (ha : ArgV w a n f) (hb : ArgV w b n' f') (hn : n ≤ 9223372036854775807) (hn' : n' ≤ 9223372036854775807) :
    Calls Try.prog 10 #[.slice a n ca, .slice b n' cb] w (BoolE true w) := by
  go_enter Try.func10, Try.ntmps10
  go_wp2_with fail
  refine (szValueS_any a n ca f 1048576 _ ha (by omega) (by omega) hn).mono ?_
  rintro e w1 ⟨r1, rfl, hr1, hb1⟩
  rcases hr1 with hr1 | ⟨hr1, hr1', hn1⟩
  · have d : decide (r1 < 0) = true := by simpa using hr1
    go_wp2_with fail
    go_ret
    exact ⟨rfl, hb1⟩
  · have d : decide (r1 < 0) = false := by simpa using hr1
    go_wp2_with fail
    refine (szValueS_any b n' cb f' r1 _ (hb.below hb1) hr1 hr1' hn').mono ?_
    rintro e w2 ⟨r2, rfl, hr2, hb2'⟩
    have hb2 := hb1.trans (hb2'.mono hb1.size)
    clear hb2'
    rcases hr2 with hr2 | ⟨hr2, hr2', hn2⟩
    · have d2 : decide (r2 < 0) = true := by simpa using hr2
      go_wp2_with fail
      go_ret
      exact ⟨rfl, hb2⟩
    · have d2 : decide (r2 < 0) = false := by simpa using hr2
      have hS := fun B1 B2 x y cx cy w h1 h2 => orderRow_spec B1 B2 x y n n' cx cy f f' w h1 h2 (by omega) (by omega)
      have hI := fun B1 B2 x y cx cy w h1 h2 => hII B1 B2 x y n n' cx cy f f' w h1 h2 (by omega) (by omega)
      generalize ordR (rowF n f) (rowF n' f') = x at hS hI
      have hxx : (x != x) = false := by simp
      have once : True := trivial
      cases once
      all_goals
        go_wp2_with fail
        refine (toValueS_any a n ca f _ (ha.below hb2) hn1).mono ?_
        rintro e w3 ⟨g3, rfl, s3, hb3'⟩
        have hb3 := hb2.trans (hb3'.mono hb2.size)
        clear hb3'
        go_wp2_with fail
        refine (toValueS_any b n' cb f' _ (hb.below hb3) hn2).mono ?_
        rintro e w4 ⟨g4, rfl, s4, hb4'⟩
        have hb4 := hb3.trans (hb4'.mono hb3.size)
        replace s3 := s3.below hb4'
        clear hb4'
        go_wp2_with fail
        refine (hS _ _ _ _ _ _ _ s3 s4).mono ?_
        rintro e w5 ⟨rfl, hb5'⟩
        have hb5 := hb4.trans (hb5'.mono hb4.size)
        clear hb5' s3 s4
        go_wp2_with fail
        refine (toValueS_any a n ca f _ (ha.below hb5) hn1).mono ?_
        rintro e w6 ⟨g6, rfl, s6, hb6'⟩
        have hb6 := hb5.trans (hb6'.mono hb5.size)
        clear hb6'
        go_wp2_with fail
        refine (toValueS_any b n' cb f' _ (hb.below hb6) hn2).mono ?_
        rintro e w7 ⟨g7, rfl, s7, hb7'⟩
        have hb7 := hb6.trans (hb7'.mono hb6.size)
        replace s6 := s6.below hb7'
        clear hb7'
        go_wp2_with fail
        refine (hI _ _ _ _ _ _ _ s6 s7).mono ?_
        rintro e w8 ⟨rfl, hb8'⟩
        have hb8 := hb7.trans (hb8'.mono hb7.size)
        replace s6 := s6.below hb8'
        replace s7 := s7.below hb8'
        clear hb8'
        go_wp2_with fail
        refine (toValueS_any a n ca f _ (ha.below hb8) hn1).mono ?_
        rintro e w9 ⟨g9, rfl, s9, hb9'⟩
        have hb9 := hb8.trans (hb9'.mono hb8.size)
        replace s6 := s6.below hb9'
        replace s7 := s7.below hb9'
        clear hb9'
        go_wp2_with fail
        refine (eqVals_any _ _ _ _ n _ _ f _ s6 s9 (by omega)).mono ?_
        rintro e w10 ⟨rfl, hb10'⟩
        have hb10 := hb9.trans (hb10'.mono hb9.size)
        replace s7 := s7.below hb10'
        clear hb10' s6 s9
        go_wp2_with fail
        refine (toValueS_any b n' cb f' _ (hb.below hb10) hn2).mono ?_
        rintro e w11 ⟨g11, rfl, s11, hb11'⟩
        have hb11 := hb10.trans (hb11'.mono hb10.size)
        replace s7 := s7.below hb11'
        clear hb11'
        go_wp2_with fail
        refine (eqVals_any _ _ _ _ n' _ _ f' _ s7 s11 (by omega)).mono ?_
        rintro e w12 ⟨rfl, hb12'⟩
        have hb12 := hb11.trans (hb12'.mono hb11.size)
        clear hb12' s7 s11
        go_wp2_with fail
        go_ret
        exact ⟨rfl, hb12⟩
end Go.Proofs.Ytelbcfipkanfkaa
