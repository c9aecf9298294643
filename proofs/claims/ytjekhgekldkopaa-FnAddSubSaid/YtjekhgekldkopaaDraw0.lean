
/- The contract of the maker of the cursor; what is drawn lies within bounds. -/
import Derived.Test.YtjekhgekldkopaaCur
namespace Go.Proofs.Ytjekhgekldkopaa
open Go.RowKit

theorem grown_alloc (W : World) (o : Obj) (r : Option Nat) : W.grownBy (W.alloc o) r := ⟨rfl, rfl, rfl, by simp, fun k hk _ => Below.heap_alloc _ _ _ hk⟩
theorem Cur.lt {B C : Nat} {a : Option Addr} {len cap : Nat} {W : World} (H : Cur B C a len cap W) : C < W.heap.size := by
  obtain ⟨_, ⟨_, _, _, hc⟩, _⟩ := H
  exact (Array.getElem?_eq_some_iff.1 hc).1
theorem Cur.alloc {B C : Nat} {a : Option Addr} {len cap : Nat} {W : World} (H : Cur B C a len cap W) (o : Obj) : Cur B C a len cap (W.alloc o) := by
  have hC := H.lt
  have H0 := H
  obtain ⟨_, ⟨i, h, hi, hc⟩, _⟩ := H
  exact H0.kept (grown_alloc W o _) ⟨i, h, hi, (Below.heap_alloc W o C hC).trans hc⟩
theorem DrawE.weaken {lo hi lo' hi' : Int} {B C : Nat} {a : Option Addr} {len cap : Nat} {W W0 : World} {e : Ending} {W' : World} (H : DrawE lo hi B C a len cap W e W') (h1 : lo' ≤ lo) (h2 : hi ≤ hi') (g : W0.grownBy W (some C)) : DrawE lo' hi' B C a len cap W0 e W' := by
  obtain ⟨x, a1, a2, a3, a4, a5⟩ := H
  exact ⟨x, by omega, by omega, a3, a4, grown_tr g a5⟩

/-- the bytes that came in: a nil slice, or one whose cells lie below block B -/
def RowB (B : Nat) (a : Option Addr) (len : Nat) (W : World) : Prop :=
  len ≤ 9223372036854775807 ∧ (∀ j, j < len → ∃ (b off : Nat) (n : Int), a = some ⟨b, off, none⟩ ∧ b < B ∧ 0 ≤ n ∧ n ≤ 255 ∧ W.cell? ⟨b, off + j, none⟩ = some (.int .u8 n))

def NewE (B : Nat) (a : Option Addr) (len cap : Nat) (W : World) (e : Ending) (W' : World) : Prop :=
  e = .returned (.pointer (some ⟨W.heap.size, 0, none⟩)) ∧ Cur B W.heap.size a len cap W' ∧ Below B W W'

theorem new_end {B : Nat} {a : Option Addr} {len cap : Nat} {W : World} (H : RowB B a len W) (hB : B ≤ W.heap.size) (x : Int) :
    NewE B a len cap W (.returned (.pointer (some ⟨W.heap.size, 0, none⟩))) (W.alloc (.cells #[.slice a len cap, .int .i64 0, .int .i64 x] 75)) := by
  refine ⟨rfl, ⟨hB, ⟨0, x, by omega, heap_alloc_new W _⟩, H.1, fun j hj => ?_⟩, (Below.refl _ _).alloc hB _⟩
  obtain ⟨b, off, n, e1, e2, e3, e4, e5⟩ := H.2 j hj
  refine ⟨b, off, n, e1, e2, e3, e4, ?_⟩
  rw [World.cell?_of_block (w := W) (a := ⟨b, off + j, none⟩) (Below.heap_alloc W _ b (by omega))]
  exact e5

set_option maxRecDepth 100000 in
set_option maxHeartbeats 400000 in
theorem new_any (B : Nat) (a : Option Addr) (len cap : Nat) (W : World) (H : RowB B a len W) (hB : B ≤ W.heap.size) :
    Calls Try.prog 62 #[.slice a len cap] W (NewE B a len cap W) := by
  have hl := H.1
  have hl2 : (len : Int) ≤ 9223372036854775807 := by omega
  go_enter Try.func62, Try.ntmps62
  go_wp2
  go_loop [3, 4] (fun h i => ∃ (k : Nat) (x : Int), k ≤ len ∧ i = .int .i64 (k : Int) ∧ h = .int .i64 x) (fun _ i => len - (intOf i).toNat)
  case atStart => exact ⟨0, _, by omega, rfl, rfl⟩
  case round =>
    obtain ⟨k, x, hk, rfl, rfl⟩ := hrel
    by_cases hlt : k < len
    · by_cases h4 : k < 4000
      · have hd : decide ((k : Int) < (len : Int)) = true := by simpa using hlt
        have hd2 : decide ((k : Int) < 4000) = true := by simp; omega
        obtain ⟨b, off, n, rfl, e2, e3, e4, e5⟩ := H.2 k hlt
        go_wp2_with fail
        go_round
        case rel => exact ⟨k + 1, _, by omega, by go_num, rfl⟩
        case measure => simp [intOf]; omega
      · have hd2 : decide ((k : Int) < 4000) = false := by simp; omega
        go_wp2_with fail
        go_ret
        exact new_end H hB x
    · go_wp2_with fail
      go_ret
      exact new_end H hB x

theorem RowB.later {B : Nat} {a : Option Addr} {len : Nat} {W W' : World} (H : RowB B a len W) (g : Below B W W') : RowB B a len W' := by
  refine ⟨H.1, fun j hj => ?_⟩
  obtain ⟨b, off, n, e1, e2, e3, e4, e5⟩ := H.2 j hj
  exact ⟨b, off, n, e1, e2, e3, e4, (World.cell?_of_block (w := W) (w' := W') (a := ⟨b, off + j, none⟩) (g.block b e2)).trans e5⟩

/-- a number within bounds comes back; nothing below B is written -/
def GiveE (k : IntKind) (lo hi : Int) (B : Nat) (W : World) (e : Ending) (W' : World) : Prop := ∃ x : Int, lo ≤ x ∧ x ≤ hi ∧ e = .returned (.int k x) ∧ Below B W W'

theorem below_of_grown {B C : Nat} {W0 W W' : World} (h : Below B W0 W) (g : W.grownBy W' (some C)) (hBC : B ≤ C) (hBW : B ≤ W.heap.size) : Below B W0 W' := h.grown g hBW (fun k e => by simp at e; omega)

/-- what turns nothing that was there turns at most the cursor -/
theorem grown_of_new {W W' : World} (h : Below W.heap.size W W') (r : Option Nat) : W.grownBy W' r := ⟨h.os, h.tape, h.output, h.size, fun k hk _ => h.block k hk⟩
theorem grown_below {W W1 W2 : World} {r : Option Nat} (h : W.grownBy W1 r) (g : Below W.heap.size W1 W2) : W.grownBy W2 r :=
  ⟨g.os.trans h.os, g.tape.trans h.tape, g.output.trans h.output, Nat.le_trans h.size g.size, fun k hk hr => (g.block k hk).trans (h.block k hk hr)⟩
theorem Cur.later {B C : Nat} {a : Option Addr} {len cap : Nat} {W W' : World} (H : Cur B C a len cap W) (g : Below W.heap.size W W') : Cur B C a len cap W' := by
  have hC := H.lt
  have H0 := H
  obtain ⟨_, ⟨i, h, hi, hc⟩, _⟩ := H
  exact H0.kept (grown_of_new g _) ⟨i, h, hi, (g.block C hC).trans hc⟩
end Go.Proofs.Ytjekhgekldkopaa
