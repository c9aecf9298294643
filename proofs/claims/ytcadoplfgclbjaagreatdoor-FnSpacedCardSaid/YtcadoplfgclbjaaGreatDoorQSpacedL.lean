/- Joined texts: SpacedL. -/
import Derived.Test.YtcadoplfgclbjaaGreatDoorQL
import Derived.Test.YtcadoplfgclbjaaGreatDoorQSpacedLaw
import Derived.Test.YtcadoplfgclbjaaGreatDoorQS
import Derived.Test.YtcadoplfgclbjaaGreatDoorQO
import Derived.Test.YtcadoplfgclbjaaGreatDoorQR
/- The walk of the law FnSpaced, from the contracts of the program's functions. -/
namespace Go.Proofs.YtcadoplfgclbjaaGreatDoor
open Go.RowKit

theorem ba_empty {U : ByteArray} {l : List UInt8} (h : U.data.toList = l) : (U.toList == []) = decide (l = []) := by rw [beq_lit, h]

set_option maxRecDepth 100000 in
set_option maxHeartbeats 4000000 in
theorem spaced_law (hJI : JoinI false 7) (hJI2 : JoinI true 10) (hLI : LexI) (a : Option Addr) (len cap : Nat) (w : World) (hrow : RowB w.heap.size a len w) (hm : MaxI w) :
    Calls Tryz.prog 3 #[.slice a len cap] w (BoolE true w) := by
  have hlen := hrow.1
  by_cases hbig : 1048576 < len
  · go_enter Tryz.func3, Tryz.ntmps3
    go_wp2_with fail
    refine (big_yes a len cap _ hlen hbig).mono ?_
    rintro e w' ⟨rfl, rfl⟩
    go_wp2_with fail
    go_ret
    exact ⟨rfl, Below.refl _ _⟩
  · have hlate : ∀ W, Below w.heap.size w W → MaxI W := fun W hb => hm.later hb hm.two
    clear hm
    go_enter Tryz.func3, Tryz.ntmps3
    go_wp2_with fail
    refine (big_no a len cap _ hbig).mono ?_
    rintro e w' ⟨rfl, rfl⟩
    go_wp2_with fail
    refine (drawSpaced_any w.heap.size a len cap _ hrow (Nat.le_refl _)).mono ?_
    rintro e w1 ⟨a1, cp, L, hLn, hS, rfl, r1, hb1⟩
    have hf : Hid (∀ j, j < L.length → (uF L j).2.1.size ≤ 9223372036854775807) := fun j hj => by have := uF_small hS j hj; omega
    have hI := fun B w h hm => hJI B a1 L.length cp (uF L) w h (by omega) hf hm
    have hI2 := fun B w h hm => hJI2 B a1 L.length cp (uF L) w h (by omega) hf hm
    have hS1 := fun B w h => spaced_spec B a1 L.length cp (uF L) w h (by omega) hf
    have hS2 := fun B w h => loose_spec B a1 L.length cp (uF L) w h (by omega) hf
    have hR := @spaced_reads false L.length (uF L)
    have hR2 := @spaced_reads true L.length (uF L)
    have hs1 := joinL_small false L.length (uF L)
    have hs2 := joinL_small true L.length (uF L)
    unfold StrE at hI hI2 hS1 hS2
    generalize hj : joinL false L.length (uF L) = J at hI hS1 hR hs1
    generalize hj2 : joinL true L.length (uF L) = J2 at hI2 hS2 hR2 hs2
    clear hj hj2 hf hS hJI hJI2
    obtain ⟨U, hU⟩ : ∃ U : ByteArray, U = ⟨J.toArray⟩ := ⟨_, rfl⟩
    obtain ⟨U2, hU2⟩ : ∃ U2 : ByteArray, U2 = ⟨J2.toArray⟩ := ⟨_, rfl⟩
    have hUl : U.data.toList = J := by rw [hU]
    have hUl2 : U2.data.toList = J2 := by rw [hU2]
    have hUz : U.size ≤ 2000 := by show U.data.toList.length ≤ 2000; rw [hUl]; exact hs1
    have hUz2 : U2.size ≤ 2000 := by show U2.data.toList.length ≤ 2000; rw [hUl2]; exact hs2
    have hE := ba_empty hUl
    have hE2 := ba_empty hUl2
    rw [← hU] at hI hS1
    rw [← hU2] at hI2 hS2
    rw [← hUl] at hR
    rw [← hUl2] at hR2
    clear hU hU2 hs1 hs2
    by_cases hj : J = []
    · rw [decide_eq_true hj] at hE
      clear hR hR2 hUl hUl2 hE2 hj
      go_wp2_with fail
      refine (hI _ _ r1 (hlate _ hb1)).mono ?_
      rintro e w2 ⟨rfl, hb2'⟩
      have hb2 := hb1.trans (hb2'.mono hb1.size)
      have r2 := r1.below hb2'
      clear hb2' r1
      go_wp2_with fail
      refine (hS1 _ _ r2).mono ?_
      rintro e w3 ⟨rfl, hb3'⟩
      have hb3 := hb2.trans (hb3'.mono hb2.size)
      go_wp2_with fail
      go_ret
      exact ⟨rfl, hb3⟩
    · rw [decide_eq_false hj] at hE
      obtain ⟨M, hM, hMn, hMs⟩ := hR (by rw [hUl]; exact hj)
      have hM := Lib.hid hM
      have hMs' : sameB M.length L.length (tokF M) (uF L) = true := by rw [hMn]; exact hMs
      have hMz : M.length ≤ 4000000 := by omega
      have hSame := fun B1 B2 a b ca cb w h1 h2 => same_spec B1 B2 a b M.length L.length ca cb (tokF M) (uF L) w h1 h2 hMz (by omega)
      rw [hMs'] at hSame
      clear hMn hMs hMs' hUl hj hR
      go_wp2_with fail
      refine (hI _ _ r1 (hlate _ hb1)).mono ?_
      rintro e w2 ⟨rfl, hb2'⟩
      have hb2 := hb1.trans (hb2'.mono hb1.size)
      have r2 := r1.below hb2'
      clear hb2' r1
      go_wp2_with fail
      refine (hS1 _ _ r2).mono ?_
      rintro e w3 ⟨rfl, hb3'⟩
      have hb3 := hb2.trans (hb3'.mono hb2.size)
      have r3 := r2.below hb3'
      clear hb3' r2 hS1 hI
      go_wp2_with fail
      refine (hLI U _ (by omega) (hlate _ hb3)).mono ?_
      intro e w4 h4
      rw [hM.out] at h4
      obtain ⟨a4, c4, rfl, q4, hb4'⟩ := h4.row
      have hb4 := hb3.trans (hb4'.mono hb3.size)
      have r4 := r3.below hb4'
      have hx4 : rx (.ok M : Except Nat (List Tk)) = -1 := rfl
      have hn4 : rn (.ok M : Except Nat (List Tk)) = M.length := rfl
      have hf4 : rf (.ok M : Except Nat (List Tk)) = tokF M := rfl
      rw [hn4, hf4] at q4
      rw [hx4, hn4]
      clear hb4' r3 h4 hx4 hn4 hf4 hM
      go_wp2_with fail
      refine (hI2 _ _ r4 (hlate _ hb4)).mono ?_
      rintro e w5 ⟨rfl, hb5'⟩
      have hb5 := hb4.trans (hb5'.mono hb4.size)
      have r5 := r4.below hb5'
      have q5 := q4.below hb5'
      clear hb5' r4 q4 hI2
      by_cases hj2 : J2 = []
      · rw [decide_eq_true hj2] at hE2
        clear hR2 hUl2 hj2
        go_wp2_with fail
        refine (hLI U2 _ (by omega) (hlate _ hb5)).mono ?_
        intro e w6 h6
        obtain ⟨a6, c6, rfl, -, hb6'⟩ := h6.row
        have hb6 := hb5.trans (hb6'.mono hb5.size)
        have r6 := r5.below hb6'
        have q6 := q5.below hb6'
        clear hb6' r5 q5 h6
        generalize rn (lexR U2.data.toList) = n6
        generalize rx (lexR U2.data.toList) = x6
        go_wp2_with fail
        refine (hSame _ _ _ _ _ _ _ q6 r6).mono ?_
        rintro e w7 ⟨rfl, hb7'⟩
        have hb7 := hb6.trans (hb7'.mono hb6.size)
        have r7 := r6.below hb7'
        clear hb7' r6 q6
        go_wp2_with fail
        refine (hS2 _ _ r7).mono ?_
        rintro e w8 ⟨rfl, hb8'⟩
        have hb8 := hb7.trans (hb8'.mono hb7.size)
        have dz : decide ((U.size : Int) ≤ 2000) = true := by simp; omega
        go_wp2_with fail
        go_ret
        exact ⟨rfl, hb8⟩
      · rw [decide_eq_false hj2] at hE2
        obtain ⟨M2, hM2, hMn2, hMs2⟩ := hR2 (by rw [hUl2]; exact hj2)
        have hM2 := Lib.hid hM2
        have hMs2' : sameB M2.length L.length (tokF M2) (uF L) = true := by rw [hMn2]; exact hMs2
        have hMz2 : M2.length ≤ 4000000 := by omega
        have hSame2 := fun B1 B2 a b ca cb w h1 h2 => same_spec B1 B2 a b M2.length L.length ca cb (tokF M2) (uF L) w h1 h2 hMz2 (by omega)
        rw [hMs2'] at hSame2
        clear hMn2 hMs2 hMs2' hUl2 hj2 hR2
        go_wp2_with fail
        refine (hLI U2 _ (by omega) (hlate _ hb5)).mono ?_
        intro e w6 h6
        rw [hM2.out] at h6
        obtain ⟨a6, c6, rfl, p6, hb6'⟩ := h6.row
        have hx6 : rx (.ok M2 : Except Nat (List Tk)) = -1 := rfl
        have hn6 : rn (.ok M2 : Except Nat (List Tk)) = M2.length := rfl
        have hf6 : rf (.ok M2 : Except Nat (List Tk)) = tokF M2 := rfl
        rw [hn6, hf6] at p6
        rw [hx6, hn6]
        have hb6 := hb5.trans (hb6'.mono hb5.size)
        have r6 := r5.below hb6'
        have q6 := q5.below hb6'
        clear hb6' r5 q5 h6 hx6 hn6 hf6 hM2
        go_wp2_with fail
        refine (hSame _ _ _ _ _ _ _ q6 r6).mono ?_
        rintro e w7 ⟨rfl, hb7'⟩
        have hb7 := hb6.trans (hb7'.mono hb6.size)
        have r7 := r6.below hb7'
        have p7 := p6.below hb7'
        clear hb7' r6 q6 p6 hSame
        go_wp2_with fail
        refine (hS2 _ _ r7).mono ?_
        rintro e w8 ⟨rfl, hb8'⟩
        have hb8 := hb7.trans (hb8'.mono hb7.size)
        have r8 := r7.below hb8'
        have p8 := p7.below hb8'
        clear hb8' r7 p7
        go_wp2_with fail
        refine (hSame2 _ _ _ _ _ _ _ p8 r8).mono ?_
        rintro e w9 ⟨rfl, hb9'⟩
        have hb9 := hb8.trans (hb9'.mono hb8.size)
        have dz : decide ((U.size : Int) ≤ 2000) = true := by simp; omega
        go_wp2_with fail
        go_ret
        exact ⟨rfl, hb9⟩
end Go.Proofs.YtcadoplfgclbjaaGreatDoor
