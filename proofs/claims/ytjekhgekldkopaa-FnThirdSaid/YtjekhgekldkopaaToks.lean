
/- Slices of tokens that a call owns; what a lexer hands back. -/
import Derived.Test.YtjekhgekldkopaaLexMath
import Derived.Test.YtjekhgekldkopaaOwn
namespace Go.Proofs.Ytjekhgekldkopaa
open Go.RowKit

/-- a token's cells -/
def tkCells (t : Tk) : List Value := [.int .i64 t.k, .string ⟨t.t.toArray⟩, .int .i64 (t.a : Int)]
def toksCells (L : List Tk) : List Value := L.flatMap tkCells
theorem toksCells_snoc (L : List Tk) (t : Tk) : toksCells (L ++ [t]) = toksCells L ++ tkCells t := by simp [toksCells]
end Go.Proofs.Ytjekhgekldkopaa
