/- Joined texts: SqzI. -/
import Derived.Test.YtcadoplfgclbjaaGreatDoorQSqzLaw
import Derived.Test.YtcadoplfgclbjaaGreatDoorQSpaceI
import Derived.Test.YtcadoplfgclbjaaGreatDoorQK
/- The contract of the program's Squeeze. -/
namespace Go.Proofs.YtcadoplfgclbjaaGreatDoor
open Go.RowKit

set_option maxRecDepth 100000 in
set_option maxHeartbeats 1600000 in
theorem squeeze_impl : SqzI := by
  intro s w hs hm
  have hn := rn_le s.data.toList
  have hsm := @lexR_texts s.data.toList
  have hL := fun w hm => lex_impl s w hs hm
  have hlate : ∀ W, Below w.heap.size w W → MaxI W := fun W hb => hm.later hb hm.two
  have hm0 := hlate w (Below.refl _ _)
  clear hm
  generalize lexR s.data.toList = r at hn hsm hL ⊢
  rcases r with p | L
  · have d : decide ((0 : Int) ≤ (p : Int)) = true := by simp
    go_enter Tryz.func14, Tryz.ntmps14
    go_wp2_with fail
    refine (hL _ hm0).mono ?_
    intro e w2 h2
    obtain ⟨a2, c2, rfl, r2, hb2⟩ := h2.row
    have hx : rx (.error p : Except Nat (List Tk)) = (p : Int) := rfl
    have hn0 : rn (.error p : Except Nat (List Tk)) = 0 := rfl
    rw [hx, hn0]
    clear hx hn0 h2 r2 hL hsm
    go_wp2_with fail
    go_ret2
    exact ⟨rfl, hb2⟩
  · have hf := hsm rfl
    have hnL : rn (.ok L : Except Nat (List Tk)) = L.length := rfl
    have hx : rx (.ok L : Except Nat (List Tk)) = -1 := rfl
    have hfL : rf (.ok L : Except Nat (List Tk)) = tokF L := rfl
    rw [hnL] at hn
    have hJ := fun B a c w (h : TokSl w B a L.length (tokF L)) hm => spaced_impl B a L.length c (tokF L) w h (by omega) (fun j hj => by have := hf j hj; omega) hm
    have HE : Hid (sqR (.ok L) = (joinL false L.length (tokF L), -1)) := rfl
    unfold StrE at hJ
    generalize joinL false L.length (tokF L) = J at hJ HE
    clear hsm hf
    go_enter Tryz.func14, Tryz.ntmps14
    go_wp2_with fail
    refine (hL _ hm0).mono ?_
    intro e w2 h2
    obtain ⟨a2, c2, rfl, r2, hb2⟩ := h2.row
    rw [hx, hnL]
    rw [hnL, hfL] at r2
    clear hx hnL hfL h2 hL
    have hJ2 := hJ _ _ c2 _ r2 (hlate _ hb2)
    clear hJ r2
    go_wp2_with fail
    refine hJ2.mono ?_
    rintro e w3 ⟨rfl, hb3⟩
    have hb := hb2.trans (hb3.mono hb2.size)
    go_wp2_with fail
    go_ret2
    exact ⟨by rw [HE.out]; rfl, hb⟩
end Go.Proofs.YtcadoplfgclbjaaGreatDoor
