/-
  DERIVED. GIVEN WITH THE SEED: THE CARDS: each row of YtcadoplfgclbjaaGreatDoorRows.lean that lists a variable, with what it lists TIED to the program's text (the seventh form; the later family's looks); each row that meets fmt, with fmt's text TOLD by the authors' own Lean function (tested against real Go, not proved from fmt's source: count such statements apart). THE CARD IS WHAT COUNTS. Prove the row's statement (the work); the ties are given (YtcadoplfgclbjaaGreatDoorTie.lean); close each card by the builder's one call (the guide's Derived/Test/ToyasCard.lean, 'card_holds'). Laid BY PROGRAM, IN A SANDBOX (cutbox-door.mjs). By AI agents, Wed Nov 11 2026. No macro, syntax, notation, axiom, sorry.
-/
import Derived.Test.YtcadoplfgclbjaaGreatDoorRows
import GoSem.ClaimSeven
namespace Go.Proofs.YtcadoplfgclbjaaGreatDoor
namespace Rows

/-- THE TIED CARD OF 'laws.FnSpaced'. -/
def fnSpacedCard : Claim7 := { stood := { row := fnSpacedRow, standIns := [], harness := (true, "37a51a62871f94edb9d318ee35f9f8891a8fba62ce26c9b51965b72681870b3f"), looks := false }, kinds := [], alts := [], laidByText := true, laidKinds := [.data, .pinned], laidTests := true, laidLooks := .later }
def FnSpacedCardSaid : Prop := Claim7.holds Tryz.pinned (.plain (OpenSpec.ofChange fnSpacedSpec)) fnSpacedCard

/-- THE TIED CARD OF 'laws.FnSqueeze'. -/
def fnSqueezeCard : Claim7 := { stood := { row := fnSqueezeRow, standIns := [], harness := (true, "37a51a62871f94edb9d318ee35f9f8891a8fba62ce26c9b51965b72681870b3f"), looks := false }, kinds := [], alts := [], laidByText := true, laidKinds := [.data, .pinned], laidTests := true, laidLooks := .later }
def FnSqueezeCardSaid : Prop := Claim7.holds Tryz.pinned (.plain (OpenSpec.ofChange fnSqueezeSpec)) fnSqueezeCard

/-- THE SECOND FORM's CARD OF 'laws.FnSpaced'. -/
def fnSpacedUptoCard : Claim7 := { stood := { row := fnSpacedUptoRow, standIns := [], harness := (true, "37a51a62871f94edb9d318ee35f9f8891a8fba62ce26c9b51965b72681870b3f"), looks := false }, kinds := [], alts := [], laidByText := true, laidKinds := [.data, .pinned], laidTests := true, laidLooks := .later }
def FnSpacedUptoCardSaid : Prop := Claim7.holds Tryz.pinned (.plain (OpenSpec.upto fnSpacedSpec)) fnSpacedUptoCard

/-- THE SECOND FORM's CARD OF 'laws.FnSqueeze'. -/
def fnSqueezeUptoCard : Claim7 := { stood := { row := fnSqueezeUptoRow, standIns := [], harness := (true, "37a51a62871f94edb9d318ee35f9f8891a8fba62ce26c9b51965b72681870b3f"), looks := false }, kinds := [], alts := [], laidByText := true, laidKinds := [.data, .pinned], laidTests := true, laidLooks := .later }
def FnSqueezeUptoCardSaid : Prop := Claim7.holds Tryz.pinned (.plain (OpenSpec.upto fnSqueezeSpec)) fnSqueezeUptoCard
end Rows
end Go.Proofs.YtcadoplfgclbjaaGreatDoor
