
/- The contract of the function that draws bytes. -/
import Derived.Test.YtjekhgekldkopaaDraw0
import Derived.Test.YtjekhgekldkopaaOwn
namespace Go.Proofs.Ytjekhgekldkopaa
open Go.RowKit

theorem Try.info5b : (Try.prog.info? 5).map (fun i => (i.zero, i.size, i.bytes)) = some (some (.int .u8 0), 1, 1) := by kernel_rfl

theorem Cur.below {B C B' : Nat} {a : Option Addr} {len cap : Nat} {W W' : World} (H : Cur B C a len cap W) (g : Below B' W W') (hC : C < B') : Cur B C a len cap W' := by
  obtain ⟨h1, ⟨i, h, hi, hc⟩, h3, h4⟩ := H
  refine ⟨h1, ⟨i, h, hi, (g.block C hC).trans hc⟩, h3, fun j hj => ?_⟩
  obtain ⟨b, off, n, e1, e2, e3, e4, e5⟩ := h4 j hj
  exact ⟨b, off, n, e1, e2, e3, e4, (World.cell?_of_block (w := W) (w' := W') (a := ⟨b, off + j, none⟩) (g.block b (by omega))).trans e5⟩
theorem OwnB.turn {e : TypeId} {Bo C : Nat} {v : Value} {l : List UInt8} {W W' : World} (H : OwnB e W Bo v l) (g : W.grownBy W' (some C)) (hC : C < Bo) : OwnB e W' Bo v l :=
  World.ownsRow.kept H g (by
    rcases h : v.ownBlock with _ | k
    · exact .inl rfl
    · refine .inr fun e => ?_
      have := (World.ownsRow.lt H k h).1
      simp at e; omega)

def BytesE (B C : Nat) (a : Option Addr) (len cap n : Nat) (W : World) (e : Ending) (W' : World) : Prop :=
  ∃ (l : List UInt8) (g c : Nat), l.length = n ∧ e = .returned (.slice (some ⟨g, 0, none⟩) n c) ∧ OwnB 5 W' W.heap.size (.slice (some ⟨g, 0, none⟩) n c) l ∧ Cur B C a len cap W' ∧ W.grownBy W' (some C)

def StringE (m : Nat) (B : Nat) (W : World) (e : Ending) (W' : World) : Prop := ∃ S : ByteArray, S.size ≤ m ∧ e = .returned (.string S) ∧ Below B W W'
end Go.Proofs.Ytjekhgekldkopaa
