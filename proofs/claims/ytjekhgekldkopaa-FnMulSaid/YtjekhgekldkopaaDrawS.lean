
/- Contracts of the functions that pick a string, and that say yes once in a while. -/
import Derived.Test.YtjekhgekldkopaaDrawB0
namespace Go.Proofs.Ytjekhgekldkopaa
open Go.RowKit

/-- some bool comes back, the cursor goes on -/
def OnceE (B C : Nat) (a : Option Addr) (len cap : Nat) (W : World) (e : Ending) (W' : World) : Prop :=
  ∃ x : Bool, e = .returned (.bool x) ∧ Cur B C a len cap W' ∧ W.grownBy W' (some C)
theorem once_any (n : Int) (B C : Nat) (a : Option Addr) (len cap : Nat) (W : World) (H : Cur B C a len cap W) (hn : 1 ≤ n) (hn2 : n ≤ 1000000) :
    Calls Try.prog 64 #[.pointer (some ⟨C, 0, none⟩), .int .i64 n] W (OnceE B C a len cap W) := by
  go_enter Try.func64, Try.ntmps64
  go_wp2_with fail
  refine (below_any n B C a len cap _ H hn hn2).mono ?_
  rintro e W1 ⟨x, hx0, hx1, rfl, hc, hg⟩
  go_wp2_with fail
  go_ret
  exact ⟨_, rfl, hc, hg⟩

/-- some string of at most M bytes comes back, the cursor goes on -/
def TextE (M : Nat) (B C : Nat) (a : Option Addr) (len cap : Nat) (W : World) (e : Ending) (W' : World) : Prop :=
  ∃ S : ByteArray, S.size ≤ M ∧ e = .returned (.string S) ∧ Cur B C a len cap W' ∧ W.grownBy W' (some C)

set_option maxRecDepth 100000 in
set_option maxHeartbeats 400000 in
theorem pick_any (M L m : Nat) (B C : Nat) (a : Option Addr) (len cap : Nat) (W : World) (H : Cur B C a len cap W) (hm : 1 ≤ m) (hm2 : m ≤ 1000) (hL : L < W.heap.size) (hLC : L ≠ C)
    (hv : ∀ j, j < m → ∃ S : ByteArray, S.size ≤ M ∧ W.cell? ⟨L, j, none⟩ = some (.string S)) :
    Calls Try.prog 68 #[.pointer (some ⟨C, 0, none⟩), .slice (some ⟨L, 0, none⟩) m m] W (TextE M B C a len cap W) := by
  go_enter Try.func68, Try.ntmps68
  go_wp2_with fail
  refine (below_any (m : Int) B C a len cap _ H (by omega) (by omega)).mono ?_
  rintro e W1 ⟨x, hx0, hx1, rfl, hc, hg⟩
  obtain ⟨j, rfl⟩ := Int.eq_ofNat_of_zero_le hx0
  obtain ⟨S, hS, hvc⟩ := hv j (by omega)
  have hjm : j < m := by omega
  have hcell : W1.cell? ⟨L, j, none⟩ = some (.string S) := by
    rw [World.cell?_of_block (w := W) (w' := W1) (a := ⟨L, j, none⟩) (hg.block L hL (fun e => hLC (by simpa using e)))]
    exact hvc
  go_wp2_with fail
  go_ret
  exact ⟨S, hS, rfl, hc, hg⟩
end Go.Proofs.Ytjekhgekldkopaa
