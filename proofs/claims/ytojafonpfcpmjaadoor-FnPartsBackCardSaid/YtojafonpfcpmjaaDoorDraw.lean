/- Contracts of the drawing functions: what is drawn lies within bounds. -/
import Derived.Test.YtojafonpfcpmjaaDoorCur
namespace Go.Proofs.YtojafonpfcpmjaaDoor
open Go.RowKit

theorem grown_alloc (W : World) (o : Obj) (r : Option Nat) : W.grownBy (W.alloc o) r := ⟨rfl, rfl, rfl, by simp, fun k hk _ => Below.heap_alloc _ _ _ hk⟩
theorem Cur.lt {B C : Nat} {a : Option Addr} {len cap : Nat} {W : World} (H : Cur B C a len cap W) : C < W.heap.size := by
  obtain ⟨_, ⟨_, _, _, hc⟩, _⟩ := H
  exact (Array.getElem?_eq_some_iff.1 hc).1
theorem Cur.alloc {B C : Nat} {a : Option Addr} {len cap : Nat} {W : World} (H : Cur B C a len cap W) (o : Obj) : Cur B C a len cap (W.alloc o) := by
  have hC := H.lt
  have H0 := H
  obtain ⟨_, ⟨i, h, hi, hc⟩, _⟩ := H
  exact H0.kept (grown_alloc W o _) ⟨i, h, hi, (Below.heap_alloc W o C hC).trans hc⟩
theorem DrawE.weaken {lo hi lo' hi' : Int} {B C : Nat} {a : Option Addr} {len cap : Nat} {W W0 : World} {e : Ending} {W' : World} (H : DrawE lo hi B C a len cap W e W') (h1 : lo' ≤ lo) (h2 : hi ≤ hi') (g : W0.grownBy W (some C)) : DrawE lo' hi' B C a len cap W0 e W' := by
  obtain ⟨x, a1, a2, a3, a4, a5⟩ := H
  exact ⟨x, by omega, by omega, a3, a4, grown_tr g a5⟩

set_option maxRecDepth 100000 in
set_option maxHeartbeats 400000 in
theorem pickInt_any (L m : Nat) (lo hi : Int) (B C : Nat) (a : Option Addr) (len cap : Nat) (W : World) (H : Cur B C a len cap W) (hm : 1 ≤ m) (hm2 : m ≤ 1000) (hL : L < W.heap.size) (hLC : L ≠ C)
    (hv : ∀ j, j < m → ∃ v : Int, lo ≤ v ∧ v ≤ hi ∧ W.cell? ⟨L, j, none⟩ = some (.int .i64 v)) :
    Calls Tryd.prog 24 #[.pointer (some ⟨C, 0, none⟩), .slice (some ⟨L, 0, none⟩) m m] W (DrawE lo hi B C a len cap W) := by
  go_enter Tryd.func24, Tryd.ntmps24
  go_wp2_with fail
  refine (below_any (m : Int) B C a len cap _ H (by omega) (by omega)).mono ?_
  rintro e W1 ⟨x, hx0, hx1, rfl, hc, hg⟩
  obtain ⟨j, rfl⟩ := Int.eq_ofNat_of_zero_le hx0
  obtain ⟨v, hv0, hv1, hvc⟩ := hv j (by omega)
  have hjm : j < m := by omega
  have hcell : W1.cell? ⟨L, j, none⟩ = some (.int .i64 v) := by
    rw [World.cell?_of_block (w := W) (w' := W1) (a := ⟨L, j, none⟩) (hg.block L hL (fun e => hLC (by simpa using e)))]
    exact hvc
  go_wp2_with fail
  go_ret
  exact ⟨v, hv0, hv1, rfl, hc, hg⟩

set_option maxRecDepth 100000 in
set_option maxHeartbeats 400000 in
theorem whole_any (B C : Nat) (a : Option Addr) (len cap : Nat) (W : World) (H : Cur B C a len cap W) :
    Calls Tryd.prog 18 #[.pointer (some ⟨C, 0, none⟩)] W (DrawE (-9223372036854775808) 9223372036854775807 B C a len cap W) := by
  go_enter Tryd.func18, Tryd.ntmps18
  go_wp2_with fail
  refine (below_any 3 B C a len cap _ H (by omega) (by omega)).mono ?_
  rintro e W1 ⟨x, hx0, hx1, rfl, hc, hg⟩
  rcases (show x = 0 ∨ x = 1 ∨ x = 2 by omega) with rfl | rfl | rfl
  · have hlt := hc.lt
    go_wp2_with fail
    refine (pickInt_any W1.heap.size 14 (-9223372036854775808) 9223372036854775807 B C a len cap _ (hc.alloc _) (by omega) (by omega) (by simp) (by omega) ?_).mono ?_
    · intro j hj
      rw [cell_of_row _ W1.heap.size j _ 3 (0, 0) (heap_alloc_new W1 _)]
      rcases (show j = 0 ∨ j = 1 ∨ j = 2 ∨ j = 3 ∨ j = 4 ∨ j = 5 ∨ j = 6 ∨ j = 7 ∨ j = 8 ∨ j = 9 ∨ j = 10 ∨ j = 11 ∨ j = 12 ∨ j = 13 by omega) with rfl | rfl | rfl | rfl | rfl | rfl | rfl | rfl | rfl | rfl | rfl | rfl | rfl | rfl <;> exact ⟨_, by decide, by decide, rfl⟩
    · rintro e W2 ⟨y, hy0, hy1, rfl, hc2, hg2⟩
      have hg3 := grown_tr hg (grown_tr (grown_alloc W1 _ (some C)) hg2)
      go_wp2_with fail
      go_ret
      exact ⟨y, hy0, hy1, rfl, hc2, hg3⟩
  · go_wp2_with fail
    refine (below_any 1000000 B C a len cap _ hc (by omega) (by omega)).mono ?_
    rintro e W2 ⟨y, hy0, hy1, rfl, hc2, hg2⟩
    go_wp2_with fail
    go_ret
    exact ⟨_, by omega, by omega, rfl, hc2, grown_tr hg hg2⟩
  · go_wp2_with fail
    refine (below_any 20 B C a len cap _ hc (by omega) (by omega)).mono ?_
    rintro e W2 ⟨y, hy0, hy1, rfl, hc2, hg2⟩
    go_wp2_with fail
    go_ret
    exact ⟨_, by omega, by omega, rfl, hc2, grown_tr hg hg2⟩

/-- the bytes that came in: a nil slice, or one whose cells lie below block B -/
def RowB (B : Nat) (a : Option Addr) (len : Nat) (W : World) : Prop :=
  len ≤ 9223372036854775807 ∧ (∀ j, j < len → ∃ (b off : Nat) (n : Int), a = some ⟨b, off, none⟩ ∧ b < B ∧ 0 ≤ n ∧ n ≤ 255 ∧ W.cell? ⟨b, off + j, none⟩ = some (.int .u8 n))

def NewE (B : Nat) (a : Option Addr) (len cap : Nat) (W : World) (e : Ending) (W' : World) : Prop :=
  e = .returned (.pointer (some ⟨W.heap.size, 0, none⟩)) ∧ Cur B W.heap.size a len cap W' ∧ Below B W W'

theorem new_end {B : Nat} {a : Option Addr} {len cap : Nat} {W : World} (H : RowB B a len W) (hB : B ≤ W.heap.size) (x : Int) :
    NewE B a len cap W (.returned (.pointer (some ⟨W.heap.size, 0, none⟩))) (W.alloc (.cells #[.slice a len cap, .int .i64 0, .int .i64 x] 46)) := by
  refine ⟨rfl, ⟨hB, ⟨0, x, by omega, heap_alloc_new W _⟩, H.1, fun j hj => ?_⟩, (Below.refl _ _).alloc hB _⟩
  obtain ⟨b, off, n, e1, e2, e3, e4, e5⟩ := H.2 j hj
  refine ⟨b, off, n, e1, e2, e3, e4, ?_⟩
  rw [World.cell?_of_block (w := W) (a := ⟨b, off + j, none⟩) (Below.heap_alloc W _ b (by omega))]
  exact e5

set_option maxRecDepth 100000 in
set_option maxHeartbeats 400000 in
theorem new_any (B : Nat) (a : Option Addr) (len cap : Nat) (W : World) (H : RowB B a len W) (hB : B ≤ W.heap.size) :
    Calls Tryd.prog 19 #[.slice a len cap] W (NewE B a len cap W) := by
  have hl := H.1
  have hl2 : (len : Int) ≤ 9223372036854775807 := by omega
  go_enter Tryd.func19, Tryd.ntmps19
  go_wp2
  go_loop [3, 4] (fun h i => ∃ (k : Nat) (x : Int), k ≤ len ∧ i = .int .i64 (k : Int) ∧ h = .int .i64 x) (fun _ i => len - (intOf i).toNat)
  case atStart => exact ⟨0, _, by omega, rfl, rfl⟩
  case round =>
    obtain ⟨k, x, hk, rfl, rfl⟩ := hrel
    by_cases hlt : k < len
    · by_cases h4 : k < 4000
      · have hd : decide ((k : Int) < (len : Int)) = true := by simpa using hlt
        have hd2 : decide ((k : Int) < 4000) = true := by simp; omega
        obtain ⟨b, off, n, rfl, e2, e3, e4, e5⟩ := H.2 k hlt
        go_wp2_with fail
        go_round
        case rel => exact ⟨k + 1, _, by omega, by go_num, rfl⟩
        case measure => simp [intOf]; omega
      · have hd2 : decide ((k : Int) < 4000) = false := by simp; omega
        go_wp2_with fail
        go_ret
        exact new_end H hB x
    · go_wp2_with fail
      go_ret
      exact new_end H hB x

theorem RowB.later {B : Nat} {a : Option Addr} {len : Nat} {W W' : World} (H : RowB B a len W) (g : Below B W W') : RowB B a len W' := by
  refine ⟨H.1, fun j hj => ?_⟩
  obtain ⟨b, off, n, e1, e2, e3, e4, e5⟩ := H.2 j hj
  exact ⟨b, off, n, e1, e2, e3, e4, (World.cell?_of_block (w := W) (w' := W') (a := ⟨b, off + j, none⟩) (g.block b e2)).trans e5⟩

/-- a number within bounds comes back; nothing below B is written -/
def GiveE (k : IntKind) (lo hi : Int) (B : Nat) (W : World) (e : Ending) (W' : World) : Prop := ∃ x : Int, lo ≤ x ∧ x ≤ hi ∧ e = .returned (.int k x) ∧ Below B W W'

theorem below_of_grown {B C : Nat} {W0 W W' : World} (h : Below B W0 W) (g : W.grownBy W' (some C)) (hBC : B ≤ C) (hBW : B ≤ W.heap.size) : Below B W0 W' := h.grown g hBW (fun k e => by simp at e; omega)
end Go.Proofs.YtojafonpfcpmjaaDoor
