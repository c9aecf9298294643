/- Joined texts: ArgTree. -/
import Derived.Test.YtcliijfdlcagoaaGreatQZAZ
import Derived.Test.YtcliijfdlcagoaaGreatQZAA
namespace Go.Proofs.YtcliijfdlcagoaaGreat
set_option linter.unusedVariables false
set_option linter.unusedSimpArgs false
open Go.ChangeShapes Go.WideShapes Go.ChangeAt Go.RowKit Go.Deep
section
variable {H : Type} {enc : TypeId × Value → H} {W : World}
theorem Cells.dat {tys : List Ty} {n : Nat} {cs : List Value} (h : Cells enc W tys n cs) (j : Nat) (hj : j < tys.length) (hp : plainTy tys[j] = true := by rfl) : ∃ d, Rd W 0 (cs.getD j undef) d ∧ Fits d tys[j] := by
  obtain ⟨m, y, _, ht⟩ := h.2 j hj
  exact cell_dat m _ _ y hp ht
end
end Go.Proofs.YtcliijfdlcagoaaGreat
