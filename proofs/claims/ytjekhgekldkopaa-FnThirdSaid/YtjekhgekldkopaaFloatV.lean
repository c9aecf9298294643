
/- The allocation of a value and the store into it, whatever the frame. -/
import Derived.Test.YtjekhgekldkopaaFloat
import Derived.Test.YtjekhgekldkopaaCalcDef
namespace Go.Proofs.Ytjekhgekldkopaa
open Go.RowKit

theorem alloc_val (A : Act) (w : World) (dst : Option Tmp) (ty : TypeId) (pos : String) (af) (g) :
    (execOp A.eval { dst := dst, op := .alloc 27, type := ty, pos := pos, after := af, guard := g }).run Try.prog w =
      .ok (.value (.pointer (some ⟨w.heap.size, 0, none⟩))) (w.alloc (.cells #[.int .i64 0, .int .i64 0, .string ⟨#[]⟩] 27)) := by
  simp [go_sem]
def GoodV (u : Value) (cs : Array Value) : Prop := ∃ (k n : Int) (t : ByteArray), u = .agg #[.int .i64 k, .int .i64 n, .string t] ∧ cs = #[.int .i64 k, .int .i64 n, .string t]
theorem store_val (A : Act) (w : World) (b : Nat) (cs : Array Value) (d e : Tmp) (dst : Option Tmp) (ty : TypeId) (pos : String) (af) (g) (hp : A.eval (.tmp d) = .pointer (some ⟨b, 0, none⟩)) (hg : GoodV (A.eval (.tmp e)) cs)
    (hh : w.heap[b]? = some (.cells #[.int .i64 0, .int .i64 0, .string ⟨#[]⟩] 27 (0, 0))) :
    ∃ w', (execOp A.eval { dst := dst, op := .store 27 (.tmp d) (.tmp e), type := ty, pos := pos, after := af, guard := g }).run Try.prog w = .ok .skip w' ∧
      w'.heap[b]? = some (.cells cs 27 (0, 0)) ∧ Below b w w' := by
  obtain ⟨k, n, t, hu, rfl⟩ := hg
  have r0 : ValAt w b 0 0 ⟨#[]⟩ := hh
  obtain ⟨z0, z1, z2⟩ := r0.soft
  obtain ⟨g0, g1, g2⟩ := r0.cells
  refine ⟨put w b k n t, ?_, r0.puts k n t, put_below (Below.refl _ _) (Nat.le_refl _) k n t⟩
  simp only [Act.eval] at hp hu
  simp [go_sem, hp, hu, z0, z1, z2, g0, g1, g2]
  rfl
end Go.Proofs.Ytjekhgekldkopaa
