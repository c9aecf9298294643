/- The walks of the laws FnZig, FnVar, FnCrcTurn. -/
import Derived.Test.YtojafonpfcpmjaaZigMath
namespace Go.Proofs.Ytojafonpfcpmjaa
open Go.RowKit

theorem big_yes (a : Option Addr) (len cap : Nat) (w : World) (hl : len ≤ 9223372036854775807) (h : 1048576 < len) :
    Calls Try.prog 12 #[.slice a len cap] w fun e w' => e = .returned (.bool true) ∧ w = w' := by
  have hd : decide (1048576 < (len : Int)) = true := by simp; omega
  go_enter Try.func12, Try.ntmps12
  go_wp2
  go_ret
  exact ⟨rfl, rfl⟩
theorem big_no (a : Option Addr) (len cap : Nat) (w : World) (h : ¬ 1048576 < len) :
    Calls Try.prog 12 #[.slice a len cap] w fun e w' => e = .returned (.bool false) ∧ w = w' := by
  have hd : decide (1048576 < (len : Int)) = false := by simp; omega
  go_enter Try.func12, Try.ntmps12
  go_wp2
  go_ret
  exact ⟨rfl, rfl⟩

/-- a law's end: true, and nothing that was there has turned -/
def LawE (w : World) (e : Ending) (w' : World) : Prop := e = .returned (.bool true) ∧ Below w.heap.size w w'

set_option maxRecDepth 100000 in
set_option maxHeartbeats 400000 in
theorem zig_law (a : Option Addr) (len cap : Nat) (w : World) (hrow : RowB w.heap.size a len w) : Calls Try.prog 3 #[.slice a len cap] w (LawE w) := by
  have hlen := hrow.1
  by_cases hbig : 1048576 < len
  · go_enter Try.func3, Try.ntmps3
    go_wp2_with fail
    refine (big_yes a len cap _ hlen hbig).mono ?_
    rintro e w' ⟨rfl, rfl⟩
    go_wp2_with fail
    go_ret
    exact ⟨rfl, Below.refl _ _⟩
  · go_enter Try.func3, Try.ntmps3
    go_wp2_with fail
    refine (big_no a len cap _ hbig).mono ?_
    rintro e w' ⟨rfl, rfl⟩
    go_wp2_with fail
    refine (drawZig_any w.heap.size a len cap _ hrow (Nat.le_refl _)).mono ?_
    rintro e w1 ⟨x, hx0, hx1, rfl, hb⟩
    go_wp2_with fail
    refine (zig_impl x _ hx0 hx1).mono ?_
    rintro e w' ⟨rfl, rfl⟩
    obtain ⟨b0, b1⟩ := zigV_bds x hx0 hx1
    have e1 := unzig_zig x
    have e2 := zig_flip x hx0 hx1
    have e3 := unzig_zig (-1 - x)
    obtain ⟨b2, b3⟩ := zigV_bds (-1 - x) (by omega) (by omega)
    go_wp2_with fail
    refine (unzig_impl _ _ b0 b1).mono ?_
    rw [e1]
    rintro e w' ⟨rfl, rfl⟩
    go_wp2_with fail
    refine (zig_spec x _ hx0 hx1).mono ?_
    rintro e w' ⟨rfl, rfl⟩
    go_wp2_with fail
    refine (unzig_impl _ _ b2 b3).mono ?_
    rw [e3]
    rintro e w' ⟨rfl, rfl⟩
    go_wp2
    go_ret
    exact ⟨rfl, hb⟩
end Go.Proofs.Ytojafonpfcpmjaa
