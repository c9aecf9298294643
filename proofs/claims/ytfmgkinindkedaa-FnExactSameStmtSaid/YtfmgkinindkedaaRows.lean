/-
  NARROWER THAN 'FOR EVERY INPUT', by the rows' own cells (each row's printed sentence says how): FnExactStmtSize: loops · FnExactLevelOf: loops · FnExactNeeds: loops · FnExactWrapped: loops · FnExactWraps: loops · FnExactWrapsIn: loops · FnExactSameStmt: loops · FnExactExprsOf: loops · FnExactTablesIn: loops.
  DERIVED. THE GIVEN ROWS OF THIS SEAT. 10 by the template 'for every input the law returns true; each argument reads behind the call as it read before'; 0 by the template 'total and deterministic' (their statements: YtfmgkinindkedaaTotals.lean).
  GIVEN WITH THE SEED: the statements are not yours to turn. If you find one false, say at which input.
  Laid BY PROGRAM, IN A SANDBOX (cutbox-rows.mjs): the forced cells as the released guide's own fill.sh prints them over the translation f62896c463ea08c2… (all of the seat's roots in one cut). By AI agents, Wed Nov 11 2026. No macro, syntax, notation, axiom, sorry.
-/
import Derived.Test.YtfmgkinindkedaaChecked
import GoSem.Claim
import GoSem.ClaimJoined
import GoSem.ClaimMapViews
import Derived.JoinedTies
import Derived.KernelRfl
namespace Go.Proofs.Ytfmgkinindkedaa
/- THE CELL 'sum', in the pinned program and in every row, IS THE sha256 OF THE DUMP (.gsa) THAT YtfmgkinindkedaaProg.lean LOADS. Nothing in Lean hashes anything: it is a label: what it is worth is what the hold of that sum in a sandbox is worth. -/
noncomputable def Try.pinned : Pinned := { name := "ytfmgkinindkedaa", sum := "f62896c463ea08c2f7c91c5f79057355c8e64aa717bd0a95d21570cc8a1fb47d", checked := Try.checked }
namespace Rows
def none {H : Type} : Left H := { results := [], args := [] }

/-- 'laws.FnExactStmtSize': WHATEVER THE INPUT: true; the input reads as it did. -/
def fnExactStmtSizeSpec : ChangeSpec := { name := "fnExactStmtSize", fn := fun _ => fun
  | [d] => { results := [.lit (.bool true)], args := [d] }
  | _ => none }
def fnExactStmtSizeRow : OpenClaim := { program := "ytfmgkinindkedaa", sum := "f62896c463ea08c2f7c91c5f79057355c8e64aa717bd0a95d21570cc8a1fb47d", func := "loop.example/g00495/laws.FnExactStmtSize", spec := "fnExactStmtSize", unfollowed := true, recurses := true, loops := true, apart := false }
def FnExactStmtSizeSaid : Prop := fnExactStmtSizeRow.holds Try.pinned (OpenSpec.ofChange fnExactStmtSizeSpec)

/-- ITS FALSE NEIGHBOUR: 'it returns false'. Refute it at one input. -/
def fnExactStmtSizeWrong : ChangeSpec := { name := "fnExactStmtSize", fn := fun _ => fun
  | [d] => { results := [.lit (.bool false)], args := [d] }
  | _ => none }
def FnExactStmtSizeWrongFalsely : Prop := fnExactStmtSizeRow.holds Try.pinned (OpenSpec.ofChange fnExactStmtSizeWrong)

/-- 'laws.FnExactLevelOf': WHATEVER THE INPUT: true; the input reads as it did. -/
def fnExactLevelOfSpec : ChangeSpec := { name := "fnExactLevelOf", fn := fun _ => fun
  | [d] => { results := [.lit (.bool true)], args := [d] }
  | _ => none }
def fnExactLevelOfRow : OpenClaim := { program := "ytfmgkinindkedaa", sum := "f62896c463ea08c2f7c91c5f79057355c8e64aa717bd0a95d21570cc8a1fb47d", func := "loop.example/g00495/laws.FnExactLevelOf", spec := "fnExactLevelOf", recurses := true, loops := true, apart := false }
def FnExactLevelOfSaid : Prop := fnExactLevelOfRow.holds Try.pinned (OpenSpec.ofChange fnExactLevelOfSpec)

/-- ITS FALSE NEIGHBOUR: 'it returns false'. Refute it at one input. -/
def fnExactLevelOfWrong : ChangeSpec := { name := "fnExactLevelOf", fn := fun _ => fun
  | [d] => { results := [.lit (.bool false)], args := [d] }
  | _ => none }
def FnExactLevelOfWrongFalsely : Prop := fnExactLevelOfRow.holds Try.pinned (OpenSpec.ofChange fnExactLevelOfWrong)

/-- 'laws.FnExactNeeds': WHATEVER THE INPUT: true; the input reads as it did. -/
def fnExactNeedsSpec : ChangeSpec := { name := "fnExactNeeds", fn := fun _ => fun
  | [d1, d2] => { results := [.lit (.bool true)], args := [d1, d2] }
  | _ => none }
def fnExactNeedsRow : OpenClaim := { program := "ytfmgkinindkedaa", sum := "f62896c463ea08c2f7c91c5f79057355c8e64aa717bd0a95d21570cc8a1fb47d", func := "loop.example/g00495/laws.FnExactNeeds", spec := "fnExactNeeds", unfollowed := true, recurses := true, loops := true, apart := false }
def FnExactNeedsSaid : Prop := fnExactNeedsRow.holds Try.pinned (OpenSpec.ofChange fnExactNeedsSpec)

/-- ITS FALSE NEIGHBOUR: 'it returns false'. Refute it at one input. -/
def fnExactNeedsWrong : ChangeSpec := { name := "fnExactNeeds", fn := fun _ => fun
  | [d1, d2] => { results := [.lit (.bool false)], args := [d1, d2] }
  | _ => none }
def FnExactNeedsWrongFalsely : Prop := fnExactNeedsRow.holds Try.pinned (OpenSpec.ofChange fnExactNeedsWrong)

/-- 'laws.FnExactWrapped': WHATEVER THE INPUT: true; the input reads as it did. -/
def fnExactWrappedSpec : ChangeSpec := { name := "fnExactWrapped", fn := fun _ => fun
  | [d1, d2] => { results := [.lit (.bool true)], args := [d1, d2] }
  | _ => none }
def fnExactWrappedRow : OpenClaim := { program := "ytfmgkinindkedaa", sum := "f62896c463ea08c2f7c91c5f79057355c8e64aa717bd0a95d21570cc8a1fb47d", func := "loop.example/g00495/laws.FnExactWrapped", spec := "fnExactWrapped", unfollowed := true, recurses := true, loops := true, apart := false }
def FnExactWrappedSaid : Prop := fnExactWrappedRow.holds Try.pinned (OpenSpec.ofChange fnExactWrappedSpec)

/-- ITS FALSE NEIGHBOUR: 'it returns false'. Refute it at one input. -/
def fnExactWrappedWrong : ChangeSpec := { name := "fnExactWrapped", fn := fun _ => fun
  | [d1, d2] => { results := [.lit (.bool false)], args := [d1, d2] }
  | _ => none }
def FnExactWrappedWrongFalsely : Prop := fnExactWrappedRow.holds Try.pinned (OpenSpec.ofChange fnExactWrappedWrong)

/-- 'laws.FnExactWraps': WHATEVER THE INPUT: true; the input reads as it did. -/
def fnExactWrapsSpec : ChangeSpec := { name := "fnExactWraps", fn := fun _ => fun
  | [d] => { results := [.lit (.bool true)], args := [d] }
  | _ => none }
def fnExactWrapsRow : OpenClaim := { program := "ytfmgkinindkedaa", sum := "f62896c463ea08c2f7c91c5f79057355c8e64aa717bd0a95d21570cc8a1fb47d", func := "loop.example/g00495/laws.FnExactWraps", spec := "fnExactWraps", unfollowed := true, recurses := true, loops := true, apart := false }
def FnExactWrapsSaid : Prop := fnExactWrapsRow.holds Try.pinned (OpenSpec.ofChange fnExactWrapsSpec)

/-- ITS FALSE NEIGHBOUR: 'it returns false'. Refute it at one input. -/
def fnExactWrapsWrong : ChangeSpec := { name := "fnExactWraps", fn := fun _ => fun
  | [d] => { results := [.lit (.bool false)], args := [d] }
  | _ => none }
def FnExactWrapsWrongFalsely : Prop := fnExactWrapsRow.holds Try.pinned (OpenSpec.ofChange fnExactWrapsWrong)

/-- 'laws.FnExactWrapsIn': WHATEVER THE INPUT: true; the input reads as it did. -/
def fnExactWrapsInSpec : ChangeSpec := { name := "fnExactWrapsIn", fn := fun _ => fun
  | [d] => { results := [.lit (.bool true)], args := [d] }
  | _ => none }
def fnExactWrapsInRow : OpenClaim := { program := "ytfmgkinindkedaa", sum := "f62896c463ea08c2f7c91c5f79057355c8e64aa717bd0a95d21570cc8a1fb47d", func := "loop.example/g00495/laws.FnExactWrapsIn", spec := "fnExactWrapsIn", unfollowed := true, recurses := true, loops := true, apart := false }
def FnExactWrapsInSaid : Prop := fnExactWrapsInRow.holds Try.pinned (OpenSpec.ofChange fnExactWrapsInSpec)

/-- ITS FALSE NEIGHBOUR: 'it returns false'. Refute it at one input. -/
def fnExactWrapsInWrong : ChangeSpec := { name := "fnExactWrapsIn", fn := fun _ => fun
  | [d] => { results := [.lit (.bool false)], args := [d] }
  | _ => none }
def FnExactWrapsInWrongFalsely : Prop := fnExactWrapsInRow.holds Try.pinned (OpenSpec.ofChange fnExactWrapsInWrong)

/-- 'laws.FnNeeds': WHATEVER THE INPUT: true; the input reads as it did. -/
def fnNeedsSpec : ChangeSpec := { name := "fnNeeds", fn := fun _ => fun
  | [d] => { results := [.lit (.bool true)], args := [d] }
  | _ => none }
def fnNeedsRow : OpenClaim := { program := "ytfmgkinindkedaa", sum := "f62896c463ea08c2f7c91c5f79057355c8e64aa717bd0a95d21570cc8a1fb47d", func := "loop.example/g00495/laws.FnNeeds", spec := "fnNeeds", unfollowed := true, recurses := true, apart := false }
def FnNeedsSaid : Prop := fnNeedsRow.holds Try.pinned (OpenSpec.ofChange fnNeedsSpec)

/-- ITS FALSE NEIGHBOUR: 'it returns false'. Refute it at one input. -/
def fnNeedsWrong : ChangeSpec := { name := "fnNeeds", fn := fun _ => fun
  | [d] => { results := [.lit (.bool false)], args := [d] }
  | _ => none }
def FnNeedsWrongFalsely : Prop := fnNeedsRow.holds Try.pinned (OpenSpec.ofChange fnNeedsWrong)

/-- 'laws.FnExactSameStmt': WHATEVER THE INPUT: true; the input reads as it did. -/
def fnExactSameStmtSpec : ChangeSpec := { name := "fnExactSameStmt", fn := fun _ => fun
  | [d1, d2] => { results := [.lit (.bool true)], args := [d1, d2] }
  | _ => none }
def fnExactSameStmtRow : OpenClaim := { program := "ytfmgkinindkedaa", sum := "f62896c463ea08c2f7c91c5f79057355c8e64aa717bd0a95d21570cc8a1fb47d", func := "loop.example/g00495/laws.FnExactSameStmt", spec := "fnExactSameStmt", unfollowed := true, recurses := true, loops := true, apart := false }
def FnExactSameStmtSaid : Prop := fnExactSameStmtRow.holds Try.pinned (OpenSpec.ofChange fnExactSameStmtSpec)

/-- ITS FALSE NEIGHBOUR: 'it returns false'. Refute it at one input. -/
def fnExactSameStmtWrong : ChangeSpec := { name := "fnExactSameStmt", fn := fun _ => fun
  | [d1, d2] => { results := [.lit (.bool false)], args := [d1, d2] }
  | _ => none }
def FnExactSameStmtWrongFalsely : Prop := fnExactSameStmtRow.holds Try.pinned (OpenSpec.ofChange fnExactSameStmtWrong)

/-- 'laws.FnExactExprsOf': WHATEVER THE INPUT: true; the input reads as it did. -/
def fnExactExprsOfSpec : ChangeSpec := { name := "fnExactExprsOf", fn := fun _ => fun
  | [d] => { results := [.lit (.bool true)], args := [d] }
  | _ => none }
def fnExactExprsOfRow : OpenClaim := { program := "ytfmgkinindkedaa", sum := "f62896c463ea08c2f7c91c5f79057355c8e64aa717bd0a95d21570cc8a1fb47d", func := "loop.example/g00495/laws.FnExactExprsOf", spec := "fnExactExprsOf", unfollowed := true, recurses := true, loops := true, apart := false }
def FnExactExprsOfSaid : Prop := fnExactExprsOfRow.holds Try.pinned (OpenSpec.ofChange fnExactExprsOfSpec)

/-- ITS FALSE NEIGHBOUR: 'it returns false'. Refute it at one input. -/
def fnExactExprsOfWrong : ChangeSpec := { name := "fnExactExprsOf", fn := fun _ => fun
  | [d] => { results := [.lit (.bool false)], args := [d] }
  | _ => none }
def FnExactExprsOfWrongFalsely : Prop := fnExactExprsOfRow.holds Try.pinned (OpenSpec.ofChange fnExactExprsOfWrong)

/-- 'laws.FnExactTablesIn': WHATEVER THE INPUT: true; the input reads as it did. -/
def fnExactTablesInSpec : ChangeSpec := { name := "fnExactTablesIn", fn := fun _ => fun
  | [d] => { results := [.lit (.bool true)], args := [d] }
  | _ => none }
def fnExactTablesInRow : OpenClaim := { program := "ytfmgkinindkedaa", sum := "f62896c463ea08c2f7c91c5f79057355c8e64aa717bd0a95d21570cc8a1fb47d", func := "loop.example/g00495/laws.FnExactTablesIn", spec := "fnExactTablesIn", unfollowed := true, recurses := true, loops := true, apart := false }
def FnExactTablesInSaid : Prop := fnExactTablesInRow.holds Try.pinned (OpenSpec.ofChange fnExactTablesInSpec)

/-- ITS FALSE NEIGHBOUR: 'it returns false'. Refute it at one input. -/
def fnExactTablesInWrong : ChangeSpec := { name := "fnExactTablesIn", fn := fun _ => fun
  | [d] => { results := [.lit (.bool false)], args := [d] }
  | _ => none }
def FnExactTablesInWrongFalsely : Prop := fnExactTablesInRow.holds Try.pinned (OpenSpec.ofChange fnExactTablesInWrong)

/- THE SECOND FORM. 'bulk': how many values and letters a reading holds, each counted each time it is reached (what is shared counts as often as it is met; a slice's spare places count too). A statement '..UptoSaid' is the law's where the arguments, and the package variables that the reading takes, are together of bulk at most 1048576: NARROWER than '..Said'. Prove '..Said' where nothing that the law and all that it calls make is longer than what came in: it says more and counts as full. Else prove '..UptoSaid'. A law counts once. -/
mutual
def uptoBulk {H : Type} : DataW H → Nat
  | .lit (.string bytes) => bytes.length + 1
  | .lit _ => 1
  | .nil => 1
  | .ptr d => uptoBulk d + 1
  | .slice elems spare => uptoBulkAll elems + uptoBulkAll spare + 1
  | .agg parts => uptoBulkAll parts + 1
  | .iface _ d => uptoBulk d + 1
  | .map entries => uptoBulkEntries entries + 1
  | .held _ => 1
def uptoBulkAll {H : Type} : List (DataW H) → Nat
  | [] => 0
  | d :: r => uptoBulk d + uptoBulkAll r
def uptoBulkEntries {H : Type} : List (Lit × DataW H) → Nat
  | [] => 0
  | x :: r => uptoBulkEntry x + uptoBulkEntries r
def uptoBulkEntry {H : Type} : Lit × DataW H → Nat
  | (.string bytes, d) => bytes.length + uptoBulk d + 1
  | (_, d) => uptoBulk d + 1
 end
def uptoSmall : (H : Type) → List (DataW H) → Bool := fun _ ds => decide (uptoBulkAll ds ≤ 1048576)
def OpenSpec.upto (s : _root_.Go.ChangeSpec) : _root_.Go.OpenSpec := { _root_.Go.OpenSpec.ofChange s with cond := some uptoSmall }

/-- 'laws.FnExactStmtSize', WHERE WHAT IT READS IS OF BULK AT MOST 1048576: true; the input reads as it did. -/
def fnExactStmtSizeUptoRow : OpenClaim := { program := "ytfmgkinindkedaa", sum := "f62896c463ea08c2f7c91c5f79057355c8e64aa717bd0a95d21570cc8a1fb47d", func := "loop.example/g00495/laws.FnExactStmtSize", spec := "fnExactStmtSize", unfollowed := true, recurses := true, loops := true, apart := false, narrowed := true }
def FnExactStmtSizeUptoSaid : Prop := fnExactStmtSizeUptoRow.holds Try.pinned (OpenSpec.upto fnExactStmtSizeSpec)

/-- 'laws.FnExactLevelOf', WHERE WHAT IT READS IS OF BULK AT MOST 1048576: true; the input reads as it did. -/
def fnExactLevelOfUptoRow : OpenClaim := { program := "ytfmgkinindkedaa", sum := "f62896c463ea08c2f7c91c5f79057355c8e64aa717bd0a95d21570cc8a1fb47d", func := "loop.example/g00495/laws.FnExactLevelOf", spec := "fnExactLevelOf", recurses := true, loops := true, apart := false, narrowed := true }
def FnExactLevelOfUptoSaid : Prop := fnExactLevelOfUptoRow.holds Try.pinned (OpenSpec.upto fnExactLevelOfSpec)

/-- 'laws.FnExactNeeds', WHERE WHAT IT READS IS OF BULK AT MOST 1048576: true; the input reads as it did. -/
def fnExactNeedsUptoRow : OpenClaim := { program := "ytfmgkinindkedaa", sum := "f62896c463ea08c2f7c91c5f79057355c8e64aa717bd0a95d21570cc8a1fb47d", func := "loop.example/g00495/laws.FnExactNeeds", spec := "fnExactNeeds", unfollowed := true, recurses := true, loops := true, apart := false, narrowed := true }
def FnExactNeedsUptoSaid : Prop := fnExactNeedsUptoRow.holds Try.pinned (OpenSpec.upto fnExactNeedsSpec)

/-- 'laws.FnExactWrapped', WHERE WHAT IT READS IS OF BULK AT MOST 1048576: true; the input reads as it did. -/
def fnExactWrappedUptoRow : OpenClaim := { program := "ytfmgkinindkedaa", sum := "f62896c463ea08c2f7c91c5f79057355c8e64aa717bd0a95d21570cc8a1fb47d", func := "loop.example/g00495/laws.FnExactWrapped", spec := "fnExactWrapped", unfollowed := true, recurses := true, loops := true, apart := false, narrowed := true }
def FnExactWrappedUptoSaid : Prop := fnExactWrappedUptoRow.holds Try.pinned (OpenSpec.upto fnExactWrappedSpec)

/-- 'laws.FnExactWraps', WHERE WHAT IT READS IS OF BULK AT MOST 1048576: true; the input reads as it did. -/
def fnExactWrapsUptoRow : OpenClaim := { program := "ytfmgkinindkedaa", sum := "f62896c463ea08c2f7c91c5f79057355c8e64aa717bd0a95d21570cc8a1fb47d", func := "loop.example/g00495/laws.FnExactWraps", spec := "fnExactWraps", unfollowed := true, recurses := true, loops := true, apart := false, narrowed := true }
def FnExactWrapsUptoSaid : Prop := fnExactWrapsUptoRow.holds Try.pinned (OpenSpec.upto fnExactWrapsSpec)

/-- 'laws.FnExactWrapsIn', WHERE WHAT IT READS IS OF BULK AT MOST 1048576: true; the input reads as it did. -/
def fnExactWrapsInUptoRow : OpenClaim := { program := "ytfmgkinindkedaa", sum := "f62896c463ea08c2f7c91c5f79057355c8e64aa717bd0a95d21570cc8a1fb47d", func := "loop.example/g00495/laws.FnExactWrapsIn", spec := "fnExactWrapsIn", unfollowed := true, recurses := true, loops := true, apart := false, narrowed := true }
def FnExactWrapsInUptoSaid : Prop := fnExactWrapsInUptoRow.holds Try.pinned (OpenSpec.upto fnExactWrapsInSpec)

/-- 'laws.FnNeeds', WHERE WHAT IT READS IS OF BULK AT MOST 1048576: true; the input reads as it did. -/
def fnNeedsUptoRow : OpenClaim := { program := "ytfmgkinindkedaa", sum := "f62896c463ea08c2f7c91c5f79057355c8e64aa717bd0a95d21570cc8a1fb47d", func := "loop.example/g00495/laws.FnNeeds", spec := "fnNeeds", unfollowed := true, recurses := true, apart := false, narrowed := true }
def FnNeedsUptoSaid : Prop := fnNeedsUptoRow.holds Try.pinned (OpenSpec.upto fnNeedsSpec)

/-- 'laws.FnExactSameStmt', WHERE WHAT IT READS IS OF BULK AT MOST 1048576: true; the input reads as it did. -/
def fnExactSameStmtUptoRow : OpenClaim := { program := "ytfmgkinindkedaa", sum := "f62896c463ea08c2f7c91c5f79057355c8e64aa717bd0a95d21570cc8a1fb47d", func := "loop.example/g00495/laws.FnExactSameStmt", spec := "fnExactSameStmt", unfollowed := true, recurses := true, loops := true, apart := false, narrowed := true }
def FnExactSameStmtUptoSaid : Prop := fnExactSameStmtUptoRow.holds Try.pinned (OpenSpec.upto fnExactSameStmtSpec)

/-- 'laws.FnExactExprsOf', WHERE WHAT IT READS IS OF BULK AT MOST 1048576: true; the input reads as it did. -/
def fnExactExprsOfUptoRow : OpenClaim := { program := "ytfmgkinindkedaa", sum := "f62896c463ea08c2f7c91c5f79057355c8e64aa717bd0a95d21570cc8a1fb47d", func := "loop.example/g00495/laws.FnExactExprsOf", spec := "fnExactExprsOf", unfollowed := true, recurses := true, loops := true, apart := false, narrowed := true }
def FnExactExprsOfUptoSaid : Prop := fnExactExprsOfUptoRow.holds Try.pinned (OpenSpec.upto fnExactExprsOfSpec)

/-- 'laws.FnExactTablesIn', WHERE WHAT IT READS IS OF BULK AT MOST 1048576: true; the input reads as it did. -/
def fnExactTablesInUptoRow : OpenClaim := { program := "ytfmgkinindkedaa", sum := "f62896c463ea08c2f7c91c5f79057355c8e64aa717bd0a95d21570cc8a1fb47d", func := "loop.example/g00495/laws.FnExactTablesIn", spec := "fnExactTablesIn", unfollowed := true, recurses := true, loops := true, apart := false, narrowed := true }
def FnExactTablesInUptoSaid : Prop := fnExactTablesInUptoRow.holds Try.pinned (OpenSpec.upto fnExactTablesInSpec)

end Rows
end Go.Proofs.Ytfmgkinindkedaa
