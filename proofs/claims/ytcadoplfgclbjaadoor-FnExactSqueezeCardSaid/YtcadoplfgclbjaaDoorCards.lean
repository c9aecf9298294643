/-
  DERIVED. GIVEN WITH THE SEED: THE CARDS: each row of YtcadoplfgclbjaaDoorRows.lean that lists a variable, with what it lists TIED to the program's text (the seventh form; the later family's looks); each row that meets fmt, with fmt's text TOLD by the authors' own Lean function (tested against real Go, not proved from fmt's source: count such statements apart). THE CARD IS WHAT COUNTS. Prove the row's statement (the work); the ties are given (YtcadoplfgclbjaaDoorTie.lean); close each card by the builder's one call (the guide's Derived/Test/ToyasCard.lean, 'card_holds'). Laid BY PROGRAM, IN A SANDBOX (cutbox-door.mjs). By AI agents, Wed Nov 11 2026. No macro, syntax, notation, axiom, sorry.
-/
import Derived.Test.YtcadoplfgclbjaaDoorRows
import GoSem.ClaimSeven
namespace Go.Proofs.YtcadoplfgclbjaaDoor
namespace Rows

/-- THE TIED CARD OF 'laws.FnNoNeedless'. -/
def fnNoNeedlessCard : Claim7 := { stood := { row := fnNoNeedlessRow, standIns := [], harness := (true, "715f5ccaca56ed61dee0438360863cc218a89e531c25967118f73af5f4628c8c"), looks := false }, kinds := [], alts := [], laidByText := true, laidKinds := [.data, .pinned], laidTests := true, laidLooks := .later }
def FnNoNeedlessCardSaid : Prop := Claim7.holds Tryd.pinned (.plain (OpenSpec.ofChange fnNoNeedlessSpec)) fnNoNeedlessCard

/-- THE TIED CARD OF 'laws.FnExactSpaced'. -/
def fnExactSpacedCard : Claim7 := { stood := { row := fnExactSpacedRow, standIns := [], harness := (true, "715f5ccaca56ed61dee0438360863cc218a89e531c25967118f73af5f4628c8c"), looks := false }, kinds := [], alts := [], laidByText := true, laidKinds := [.data, .pinned], laidTests := true, laidLooks := .later }
def FnExactSpacedCardSaid : Prop := Claim7.holds Tryd.pinned (.plain (OpenSpec.ofChange fnExactSpacedSpec)) fnExactSpacedCard

/-- THE TIED CARD OF 'laws.FnExactLoose'. -/
def fnExactLooseCard : Claim7 := { stood := { row := fnExactLooseRow, standIns := [], harness := (true, "715f5ccaca56ed61dee0438360863cc218a89e531c25967118f73af5f4628c8c"), looks := false }, kinds := [], alts := [], laidByText := true, laidKinds := [.data, .pinned], laidTests := true, laidLooks := .later }
def FnExactLooseCardSaid : Prop := Claim7.holds Tryd.pinned (.plain (OpenSpec.ofChange fnExactLooseSpec)) fnExactLooseCard

/-- THE TIED CARD OF 'laws.FnExactSqueeze'. -/
def fnExactSqueezeCard : Claim7 := { stood := { row := fnExactSqueezeRow, standIns := [], harness := (true, "715f5ccaca56ed61dee0438360863cc218a89e531c25967118f73af5f4628c8c"), looks := false }, kinds := [], alts := [], laidByText := true, laidKinds := [.data, .pinned], laidTests := true, laidLooks := .later }
def FnExactSqueezeCardSaid : Prop := Claim7.holds Tryd.pinned (.plain (OpenSpec.ofChange fnExactSqueezeSpec)) fnExactSqueezeCard

/-- THE SECOND FORM's CARD OF 'laws.FnNoNeedless'. -/
def fnNoNeedlessUptoCard : Claim7 := { stood := { row := fnNoNeedlessUptoRow, standIns := [], harness := (true, "715f5ccaca56ed61dee0438360863cc218a89e531c25967118f73af5f4628c8c"), looks := false }, kinds := [], alts := [], laidByText := true, laidKinds := [.data, .pinned], laidTests := true, laidLooks := .later }
def FnNoNeedlessUptoCardSaid : Prop := Claim7.holds Tryd.pinned (.plain (OpenSpec.upto fnNoNeedlessSpec)) fnNoNeedlessUptoCard

/-- THE SECOND FORM's CARD OF 'laws.FnExactSpaced'. -/
def fnExactSpacedUptoCard : Claim7 := { stood := { row := fnExactSpacedUptoRow, standIns := [], harness := (true, "715f5ccaca56ed61dee0438360863cc218a89e531c25967118f73af5f4628c8c"), looks := false }, kinds := [], alts := [], laidByText := true, laidKinds := [.data, .pinned], laidTests := true, laidLooks := .later }
def FnExactSpacedUptoCardSaid : Prop := Claim7.holds Tryd.pinned (.plain (OpenSpec.upto fnExactSpacedSpec)) fnExactSpacedUptoCard

/-- THE SECOND FORM's CARD OF 'laws.FnExactLoose'. -/
def fnExactLooseUptoCard : Claim7 := { stood := { row := fnExactLooseUptoRow, standIns := [], harness := (true, "715f5ccaca56ed61dee0438360863cc218a89e531c25967118f73af5f4628c8c"), looks := false }, kinds := [], alts := [], laidByText := true, laidKinds := [.data, .pinned], laidTests := true, laidLooks := .later }
def FnExactLooseUptoCardSaid : Prop := Claim7.holds Tryd.pinned (.plain (OpenSpec.upto fnExactLooseSpec)) fnExactLooseUptoCard

/-- THE SECOND FORM's CARD OF 'laws.FnExactSqueeze'. -/
def fnExactSqueezeUptoCard : Claim7 := { stood := { row := fnExactSqueezeUptoRow, standIns := [], harness := (true, "715f5ccaca56ed61dee0438360863cc218a89e531c25967118f73af5f4628c8c"), looks := false }, kinds := [], alts := [], laidByText := true, laidKinds := [.data, .pinned], laidTests := true, laidLooks := .later }
def FnExactSqueezeUptoCardSaid : Prop := Claim7.holds Tryd.pinned (.plain (OpenSpec.upto fnExactSqueezeSpec)) fnExactSqueezeUptoCard
end Rows
end Go.Proofs.YtcadoplfgclbjaaDoor
