/-
  No cell of these rows narrows 'for every input' (looked for: loops, veiled, ifaces, maps, wideKeys, modest, calm, conditions, laid).
  DERIVED. THE GIVEN ROWS OF THIS SEAT. 12 by the template 'for every input the law returns true; each argument reads behind the call as it read before'; 0 by the template 'total and deterministic' (their statements: YtjekhgekldkopaaTotals.lean).
  GIVEN WITH THE SEED: the statements are not yours to turn. If you find one false, say at which input.
  Laid BY PROGRAM, IN A SANDBOX (cutbox-rows.mjs): the forced cells as the released guide's own fill.sh prints them over the translation a5bd15fd53f5bc4c… (all of the seat's roots in one cut). By AI agents, Wed Nov 11 2026. No macro, syntax, notation, axiom, sorry.
-/
import Derived.Test.YtjekhgekldkopaaChecked
import GoSem.Claim
import GoSem.ClaimJoined
import GoSem.ClaimMapViews
import Derived.JoinedTies
import Derived.KernelRfl
namespace Go.Proofs.Ytjekhgekldkopaa
/- THE CELL 'sum', in the pinned program and in every row, IS THE sha256 OF THE DUMP (.gsa) THAT YtjekhgekldkopaaProg.lean LOADS. Nothing in Lean hashes anything: it is a label: what it is worth is what the hold of that sum in a sandbox is worth. -/
noncomputable def Try.pinned : Pinned := { name := "ytjekhgekldkopaa", sum := "a5bd15fd53f5bc4cb5c4809bcbdcc4efdca99108813b118a853e4f5cd72d3862", checked := Try.checked }
namespace Rows
def none {H : Type} : Left H := { results := [], args := [] }

/-- 'laws.FnDivide': WHATEVER THE INPUT: true; the input reads as it did. -/
def fnDivideSpec : ChangeSpec := { name := "fnDivide", fn := fun _ => fun
  | [d] => { results := [.lit (.bool true)], args := [d] }
  | _ => none }
def fnDivideRow : OpenClaim := { program := "ytjekhgekldkopaa", sum := "a5bd15fd53f5bc4cb5c4809bcbdcc4efdca99108813b118a853e4f5cd72d3862", func := "loop.example/g00495/laws.FnDivide", spec := "fnDivide", inPlace := ["internal/bytealg.abigen_runtime_cmpstring"], apart := false }
def FnDivideSaid : Prop := fnDivideRow.holds Try.pinned (OpenSpec.ofChange fnDivideSpec)

/-- ITS FALSE NEIGHBOUR: 'it returns false'. Refute it at one input. -/
def fnDivideWrong : ChangeSpec := { name := "fnDivide", fn := fun _ => fun
  | [d] => { results := [.lit (.bool false)], args := [d] }
  | _ => none }
def FnDivideWrongFalsely : Prop := fnDivideRow.holds Try.pinned (OpenSpec.ofChange fnDivideWrong)

/-- 'laws.FnThird': WHATEVER THE INPUT: true; the input reads as it did. -/
def fnThirdSpec : ChangeSpec := { name := "fnThird", fn := fun _ => fun
  | [d] => { results := [.lit (.bool true)], args := [d] }
  | _ => none }
def fnThirdRow : OpenClaim := { program := "ytjekhgekldkopaa", sum := "a5bd15fd53f5bc4cb5c4809bcbdcc4efdca99108813b118a853e4f5cd72d3862", func := "loop.example/g00495/laws.FnThird", spec := "fnThird", inPlace := ["internal/bytealg.abigen_runtime_cmpstring"], apart := false }
def FnThirdSaid : Prop := fnThirdRow.holds Try.pinned (OpenSpec.ofChange fnThirdSpec)

/-- ITS FALSE NEIGHBOUR: 'it returns false'. Refute it at one input. -/
def fnThirdWrong : ChangeSpec := { name := "fnThird", fn := fun _ => fun
  | [d] => { results := [.lit (.bool false)], args := [d] }
  | _ => none }
def FnThirdWrongFalsely : Prop := fnThirdRow.holds Try.pinned (OpenSpec.ofChange fnThirdWrong)

/-- 'laws.FnCompare': WHATEVER THE INPUT: true; the input reads as it did. -/
def fnCompareSpec : ChangeSpec := { name := "fnCompare", fn := fun _ => fun
  | [d] => { results := [.lit (.bool true)], args := [d] }
  | _ => none }
def fnCompareRow : OpenClaim := { program := "ytjekhgekldkopaa", sum := "a5bd15fd53f5bc4cb5c4809bcbdcc4efdca99108813b118a853e4f5cd72d3862", func := "loop.example/g00495/laws.FnCompare", spec := "fnCompare", inPlace := ["internal/bytealg.abigen_runtime_cmpstring"], apart := false }
def FnCompareSaid : Prop := fnCompareRow.holds Try.pinned (OpenSpec.ofChange fnCompareSpec)

/-- ITS FALSE NEIGHBOUR: 'it returns false'. Refute it at one input. -/
def fnCompareWrong : ChangeSpec := { name := "fnCompare", fn := fun _ => fun
  | [d] => { results := [.lit (.bool false)], args := [d] }
  | _ => none }
def FnCompareWrongFalsely : Prop := fnCompareRow.holds Try.pinned (OpenSpec.ofChange fnCompareWrong)

/-- 'laws.FnAddSub': WHATEVER THE INPUT: true; the input reads as it did. -/
def fnAddSubSpec : ChangeSpec := { name := "fnAddSub", fn := fun _ => fun
  | [d] => { results := [.lit (.bool true)], args := [d] }
  | _ => none }
def fnAddSubRow : OpenClaim := { program := "ytjekhgekldkopaa", sum := "a5bd15fd53f5bc4cb5c4809bcbdcc4efdca99108813b118a853e4f5cd72d3862", func := "loop.example/g00495/laws.FnAddSub", spec := "fnAddSub", apart := false }
def FnAddSubSaid : Prop := fnAddSubRow.holds Try.pinned (OpenSpec.ofChange fnAddSubSpec)

/-- ITS FALSE NEIGHBOUR: 'it returns false'. Refute it at one input. -/
def fnAddSubWrong : ChangeSpec := { name := "fnAddSub", fn := fun _ => fun
  | [d] => { results := [.lit (.bool false)], args := [d] }
  | _ => none }
def FnAddSubWrongFalsely : Prop := fnAddSubRow.holds Try.pinned (OpenSpec.ofChange fnAddSubWrong)

/-- 'laws.FnMul': WHATEVER THE INPUT: true; the input reads as it did. -/
def fnMulSpec : ChangeSpec := { name := "fnMul", fn := fun _ => fun
  | [d] => { results := [.lit (.bool true)], args := [d] }
  | _ => none }
def fnMulRow : OpenClaim := { program := "ytjekhgekldkopaa", sum := "a5bd15fd53f5bc4cb5c4809bcbdcc4efdca99108813b118a853e4f5cd72d3862", func := "loop.example/g00495/laws.FnMul", spec := "fnMul", inPlace := ["internal/bytealg.abigen_runtime_cmpstring"], apart := false }
def FnMulSaid : Prop := fnMulRow.holds Try.pinned (OpenSpec.ofChange fnMulSpec)

/-- ITS FALSE NEIGHBOUR: 'it returns false'. Refute it at one input. -/
def fnMulWrong : ChangeSpec := { name := "fnMul", fn := fun _ => fun
  | [d] => { results := [.lit (.bool false)], args := [d] }
  | _ => none }
def FnMulWrongFalsely : Prop := fnMulRow.holds Try.pinned (OpenSpec.ofChange fnMulWrong)

/-- 'laws.FnExactAddNum': WHATEVER THE INPUT: true; the input reads as it did. -/
def fnExactAddNumSpec : ChangeSpec := { name := "fnExactAddNum", fn := fun _ => fun
  | [d1, d2] => { results := [.lit (.bool true)], args := [d1, d2] }
  | _ => none }
def fnExactAddNumRow : OpenClaim := { program := "ytjekhgekldkopaa", sum := "a5bd15fd53f5bc4cb5c4809bcbdcc4efdca99108813b118a853e4f5cd72d3862", func := "loop.example/g00495/laws.FnExactAddNum", spec := "fnExactAddNum", apart := false }
def FnExactAddNumSaid : Prop := fnExactAddNumRow.holds Try.pinned (OpenSpec.ofChange fnExactAddNumSpec)

/-- ITS FALSE NEIGHBOUR: 'it returns false'. Refute it at one input. -/
def fnExactAddNumWrong : ChangeSpec := { name := "fnExactAddNum", fn := fun _ => fun
  | [d1, d2] => { results := [.lit (.bool false)], args := [d1, d2] }
  | _ => none }
def FnExactAddNumWrongFalsely : Prop := fnExactAddNumRow.holds Try.pinned (OpenSpec.ofChange fnExactAddNumWrong)

/-- 'laws.FnExactSubNum': WHATEVER THE INPUT: true; the input reads as it did. -/
def fnExactSubNumSpec : ChangeSpec := { name := "fnExactSubNum", fn := fun _ => fun
  | [d1, d2] => { results := [.lit (.bool true)], args := [d1, d2] }
  | _ => none }
def fnExactSubNumRow : OpenClaim := { program := "ytjekhgekldkopaa", sum := "a5bd15fd53f5bc4cb5c4809bcbdcc4efdca99108813b118a853e4f5cd72d3862", func := "loop.example/g00495/laws.FnExactSubNum", spec := "fnExactSubNum", apart := false }
def FnExactSubNumSaid : Prop := fnExactSubNumRow.holds Try.pinned (OpenSpec.ofChange fnExactSubNumSpec)

/-- ITS FALSE NEIGHBOUR: 'it returns false'. Refute it at one input. -/
def fnExactSubNumWrong : ChangeSpec := { name := "fnExactSubNum", fn := fun _ => fun
  | [d1, d2] => { results := [.lit (.bool false)], args := [d1, d2] }
  | _ => none }
def FnExactSubNumWrongFalsely : Prop := fnExactSubNumRow.holds Try.pinned (OpenSpec.ofChange fnExactSubNumWrong)

/-- 'laws.FnExactMulNum': WHATEVER THE INPUT: true; the input reads as it did. -/
def fnExactMulNumSpec : ChangeSpec := { name := "fnExactMulNum", fn := fun _ => fun
  | [d1, d2] => { results := [.lit (.bool true)], args := [d1, d2] }
  | _ => none }
def fnExactMulNumRow : OpenClaim := { program := "ytjekhgekldkopaa", sum := "a5bd15fd53f5bc4cb5c4809bcbdcc4efdca99108813b118a853e4f5cd72d3862", func := "loop.example/g00495/laws.FnExactMulNum", spec := "fnExactMulNum", apart := false }
def FnExactMulNumSaid : Prop := fnExactMulNumRow.holds Try.pinned (OpenSpec.ofChange fnExactMulNumSpec)

/-- ITS FALSE NEIGHBOUR: 'it returns false'. Refute it at one input. -/
def fnExactMulNumWrong : ChangeSpec := { name := "fnExactMulNum", fn := fun _ => fun
  | [d1, d2] => { results := [.lit (.bool false)], args := [d1, d2] }
  | _ => none }
def FnExactMulNumWrongFalsely : Prop := fnExactMulNumRow.holds Try.pinned (OpenSpec.ofChange fnExactMulNumWrong)

/-- 'laws.FnExactCalc': WHATEVER THE INPUT: true; the input reads as it did. -/
def fnExactCalcSpec : ChangeSpec := { name := "fnExactCalc", fn := fun _ => fun
  | [d1, d2, d3] => { results := [.lit (.bool true)], args := [d1, d2, d3] }
  | _ => none }
def fnExactCalcRow : OpenClaim := { program := "ytjekhgekldkopaa", sum := "a5bd15fd53f5bc4cb5c4809bcbdcc4efdca99108813b118a853e4f5cd72d3862", func := "loop.example/g00495/laws.FnExactCalc", spec := "fnExactCalc", inPlace := ["internal/bytealg.abigen_runtime_cmpstring"], apart := false }
def FnExactCalcSaid : Prop := fnExactCalcRow.holds Try.pinned (OpenSpec.ofChange fnExactCalcSpec)

/-- ITS FALSE NEIGHBOUR: 'it returns false'. Refute it at one input. -/
def fnExactCalcWrong : ChangeSpec := { name := "fnExactCalc", fn := fun _ => fun
  | [d1, d2, d3] => { results := [.lit (.bool false)], args := [d1, d2, d3] }
  | _ => none }
def FnExactCalcWrongFalsely : Prop := fnExactCalcRow.holds Try.pinned (OpenSpec.ofChange fnExactCalcWrong)

/-- 'laws.FnExactUnary': WHATEVER THE INPUT: true; the input reads as it did. -/
def fnExactUnarySpec : ChangeSpec := { name := "fnExactUnary", fn := fun _ => fun
  | [d1, d2] => { results := [.lit (.bool true)], args := [d1, d2] }
  | _ => none }
def fnExactUnaryRow : OpenClaim := { program := "ytjekhgekldkopaa", sum := "a5bd15fd53f5bc4cb5c4809bcbdcc4efdca99108813b118a853e4f5cd72d3862", func := "loop.example/g00495/laws.FnExactUnary", spec := "fnExactUnary", inPlace := ["internal/bytealg.abigen_runtime_cmpstring"], apart := false }
def FnExactUnarySaid : Prop := fnExactUnaryRow.holds Try.pinned (OpenSpec.ofChange fnExactUnarySpec)

/-- ITS FALSE NEIGHBOUR: 'it returns false'. Refute it at one input. -/
def fnExactUnaryWrong : ChangeSpec := { name := "fnExactUnary", fn := fun _ => fun
  | [d1, d2] => { results := [.lit (.bool false)], args := [d1, d2] }
  | _ => none }
def FnExactUnaryWrongFalsely : Prop := fnExactUnaryRow.holds Try.pinned (OpenSpec.ofChange fnExactUnaryWrong)

/-- 'laws.FnExactIsTrue': WHATEVER THE INPUT: true; the input reads as it did. -/
def fnExactIsTrueSpec : ChangeSpec := { name := "fnExactIsTrue", fn := fun _ => fun
  | [d] => { results := [.lit (.bool true)], args := [d] }
  | _ => none }
def fnExactIsTrueRow : OpenClaim := { program := "ytjekhgekldkopaa", sum := "a5bd15fd53f5bc4cb5c4809bcbdcc4efdca99108813b118a853e4f5cd72d3862", func := "loop.example/g00495/laws.FnExactIsTrue", spec := "fnExactIsTrue", apart := false }
def FnExactIsTrueSaid : Prop := fnExactIsTrueRow.holds Try.pinned (OpenSpec.ofChange fnExactIsTrueSpec)

/-- ITS FALSE NEIGHBOUR: 'it returns false'. Refute it at one input. -/
def fnExactIsTrueWrong : ChangeSpec := { name := "fnExactIsTrue", fn := fun _ => fun
  | [d] => { results := [.lit (.bool false)], args := [d] }
  | _ => none }
def FnExactIsTrueWrongFalsely : Prop := fnExactIsTrueRow.holds Try.pinned (OpenSpec.ofChange fnExactIsTrueWrong)

/-- 'laws.FnExactOpText': WHATEVER THE INPUT: true; the input reads as it did. -/
def fnExactOpTextSpec : ChangeSpec := { name := "fnExactOpText", fn := fun _ => fun
  | [d] => { results := [.lit (.bool true)], args := [d] }
  | _ => none }
def fnExactOpTextRow : OpenClaim := { program := "ytjekhgekldkopaa", sum := "a5bd15fd53f5bc4cb5c4809bcbdcc4efdca99108813b118a853e4f5cd72d3862", func := "loop.example/g00495/laws.FnExactOpText", spec := "fnExactOpText", apart := false }
def FnExactOpTextSaid : Prop := fnExactOpTextRow.holds Try.pinned (OpenSpec.ofChange fnExactOpTextSpec)

/-- ITS FALSE NEIGHBOUR: 'it returns false'. Refute it at one input. -/
def fnExactOpTextWrong : ChangeSpec := { name := "fnExactOpText", fn := fun _ => fun
  | [d] => { results := [.lit (.bool false)], args := [d] }
  | _ => none }
def FnExactOpTextWrongFalsely : Prop := fnExactOpTextRow.holds Try.pinned (OpenSpec.ofChange fnExactOpTextWrong)

/- THE SECOND FORM. 'bulk': how many values and letters a reading holds, each counted each time it is reached (what is shared counts as often as it is met; a slice's spare places count too). A statement '..UptoSaid' is the law's where the arguments, and the package variables that the reading takes, are together of bulk at most 1048576: NARROWER than '..Said'. Prove '..Said' where nothing that the law and all that it calls make is longer than what came in: it says more and counts as full. Else prove '..UptoSaid'. A law counts once. -/
mutual
def uptoBulk {H : Type} : DataW H → Nat
  | .lit (.string bytes) => bytes.length + 1
  | .lit _ => 1
  | .nil => 1
  | .ptr d => uptoBulk d + 1
  | .slice elems spare => uptoBulkAll elems + uptoBulkAll spare + 1
  | .agg parts => uptoBulkAll parts + 1
  | .iface _ d => uptoBulk d + 1
  | .map entries => uptoBulkEntries entries + 1
  | .held _ => 1
def uptoBulkAll {H : Type} : List (DataW H) → Nat
  | [] => 0
  | d :: r => uptoBulk d + uptoBulkAll r
def uptoBulkEntries {H : Type} : List (Lit × DataW H) → Nat
  | [] => 0
  | x :: r => uptoBulkEntry x + uptoBulkEntries r
def uptoBulkEntry {H : Type} : Lit × DataW H → Nat
  | (.string bytes, d) => bytes.length + uptoBulk d + 1
  | (_, d) => uptoBulk d + 1
 end
def uptoSmall : (H : Type) → List (DataW H) → Bool := fun _ ds => decide (uptoBulkAll ds ≤ 1048576)
def OpenSpec.upto (s : _root_.Go.ChangeSpec) : _root_.Go.OpenSpec := { _root_.Go.OpenSpec.ofChange s with cond := some uptoSmall }

/-- 'laws.FnDivide', WHERE WHAT IT READS IS OF BULK AT MOST 1048576: true; the input reads as it did. -/
def fnDivideUptoRow : OpenClaim := { program := "ytjekhgekldkopaa", sum := "a5bd15fd53f5bc4cb5c4809bcbdcc4efdca99108813b118a853e4f5cd72d3862", func := "loop.example/g00495/laws.FnDivide", spec := "fnDivide", inPlace := ["internal/bytealg.abigen_runtime_cmpstring"], apart := false, narrowed := true }
def FnDivideUptoSaid : Prop := fnDivideUptoRow.holds Try.pinned (OpenSpec.upto fnDivideSpec)

/-- 'laws.FnThird', WHERE WHAT IT READS IS OF BULK AT MOST 1048576: true; the input reads as it did. -/
def fnThirdUptoRow : OpenClaim := { program := "ytjekhgekldkopaa", sum := "a5bd15fd53f5bc4cb5c4809bcbdcc4efdca99108813b118a853e4f5cd72d3862", func := "loop.example/g00495/laws.FnThird", spec := "fnThird", inPlace := ["internal/bytealg.abigen_runtime_cmpstring"], apart := false, narrowed := true }
def FnThirdUptoSaid : Prop := fnThirdUptoRow.holds Try.pinned (OpenSpec.upto fnThirdSpec)

/-- 'laws.FnCompare', WHERE WHAT IT READS IS OF BULK AT MOST 1048576: true; the input reads as it did. -/
def fnCompareUptoRow : OpenClaim := { program := "ytjekhgekldkopaa", sum := "a5bd15fd53f5bc4cb5c4809bcbdcc4efdca99108813b118a853e4f5cd72d3862", func := "loop.example/g00495/laws.FnCompare", spec := "fnCompare", inPlace := ["internal/bytealg.abigen_runtime_cmpstring"], apart := false, narrowed := true }
def FnCompareUptoSaid : Prop := fnCompareUptoRow.holds Try.pinned (OpenSpec.upto fnCompareSpec)

/-- 'laws.FnAddSub', WHERE WHAT IT READS IS OF BULK AT MOST 1048576: true; the input reads as it did. -/
def fnAddSubUptoRow : OpenClaim := { program := "ytjekhgekldkopaa", sum := "a5bd15fd53f5bc4cb5c4809bcbdcc4efdca99108813b118a853e4f5cd72d3862", func := "loop.example/g00495/laws.FnAddSub", spec := "fnAddSub", apart := false, narrowed := true }
def FnAddSubUptoSaid : Prop := fnAddSubUptoRow.holds Try.pinned (OpenSpec.upto fnAddSubSpec)

/-- 'laws.FnMul', WHERE WHAT IT READS IS OF BULK AT MOST 1048576: true; the input reads as it did. -/
def fnMulUptoRow : OpenClaim := { program := "ytjekhgekldkopaa", sum := "a5bd15fd53f5bc4cb5c4809bcbdcc4efdca99108813b118a853e4f5cd72d3862", func := "loop.example/g00495/laws.FnMul", spec := "fnMul", inPlace := ["internal/bytealg.abigen_runtime_cmpstring"], apart := false, narrowed := true }
def FnMulUptoSaid : Prop := fnMulUptoRow.holds Try.pinned (OpenSpec.upto fnMulSpec)

/-- 'laws.FnExactAddNum', WHERE WHAT IT READS IS OF BULK AT MOST 1048576: true; the input reads as it did. -/
def fnExactAddNumUptoRow : OpenClaim := { program := "ytjekhgekldkopaa", sum := "a5bd15fd53f5bc4cb5c4809bcbdcc4efdca99108813b118a853e4f5cd72d3862", func := "loop.example/g00495/laws.FnExactAddNum", spec := "fnExactAddNum", apart := false, narrowed := true }
def FnExactAddNumUptoSaid : Prop := fnExactAddNumUptoRow.holds Try.pinned (OpenSpec.upto fnExactAddNumSpec)

/-- 'laws.FnExactSubNum', WHERE WHAT IT READS IS OF BULK AT MOST 1048576: true; the input reads as it did. -/
def fnExactSubNumUptoRow : OpenClaim := { program := "ytjekhgekldkopaa", sum := "a5bd15fd53f5bc4cb5c4809bcbdcc4efdca99108813b118a853e4f5cd72d3862", func := "loop.example/g00495/laws.FnExactSubNum", spec := "fnExactSubNum", apart := false, narrowed := true }
def FnExactSubNumUptoSaid : Prop := fnExactSubNumUptoRow.holds Try.pinned (OpenSpec.upto fnExactSubNumSpec)

/-- 'laws.FnExactMulNum', WHERE WHAT IT READS IS OF BULK AT MOST 1048576: true; the input reads as it did. -/
def fnExactMulNumUptoRow : OpenClaim := { program := "ytjekhgekldkopaa", sum := "a5bd15fd53f5bc4cb5c4809bcbdcc4efdca99108813b118a853e4f5cd72d3862", func := "loop.example/g00495/laws.FnExactMulNum", spec := "fnExactMulNum", apart := false, narrowed := true }
def FnExactMulNumUptoSaid : Prop := fnExactMulNumUptoRow.holds Try.pinned (OpenSpec.upto fnExactMulNumSpec)

/-- 'laws.FnExactCalc', WHERE WHAT IT READS IS OF BULK AT MOST 1048576: true; the input reads as it did. -/
def fnExactCalcUptoRow : OpenClaim := { program := "ytjekhgekldkopaa", sum := "a5bd15fd53f5bc4cb5c4809bcbdcc4efdca99108813b118a853e4f5cd72d3862", func := "loop.example/g00495/laws.FnExactCalc", spec := "fnExactCalc", inPlace := ["internal/bytealg.abigen_runtime_cmpstring"], apart := false, narrowed := true }
def FnExactCalcUptoSaid : Prop := fnExactCalcUptoRow.holds Try.pinned (OpenSpec.upto fnExactCalcSpec)

/-- 'laws.FnExactUnary', WHERE WHAT IT READS IS OF BULK AT MOST 1048576: true; the input reads as it did. -/
def fnExactUnaryUptoRow : OpenClaim := { program := "ytjekhgekldkopaa", sum := "a5bd15fd53f5bc4cb5c4809bcbdcc4efdca99108813b118a853e4f5cd72d3862", func := "loop.example/g00495/laws.FnExactUnary", spec := "fnExactUnary", inPlace := ["internal/bytealg.abigen_runtime_cmpstring"], apart := false, narrowed := true }
def FnExactUnaryUptoSaid : Prop := fnExactUnaryUptoRow.holds Try.pinned (OpenSpec.upto fnExactUnarySpec)

/-- 'laws.FnExactIsTrue', WHERE WHAT IT READS IS OF BULK AT MOST 1048576: true; the input reads as it did. -/
def fnExactIsTrueUptoRow : OpenClaim := { program := "ytjekhgekldkopaa", sum := "a5bd15fd53f5bc4cb5c4809bcbdcc4efdca99108813b118a853e4f5cd72d3862", func := "loop.example/g00495/laws.FnExactIsTrue", spec := "fnExactIsTrue", apart := false, narrowed := true }
def FnExactIsTrueUptoSaid : Prop := fnExactIsTrueUptoRow.holds Try.pinned (OpenSpec.upto fnExactIsTrueSpec)

/-- 'laws.FnExactOpText', WHERE WHAT IT READS IS OF BULK AT MOST 1048576: true; the input reads as it did. -/
def fnExactOpTextUptoRow : OpenClaim := { program := "ytjekhgekldkopaa", sum := "a5bd15fd53f5bc4cb5c4809bcbdcc4efdca99108813b118a853e4f5cd72d3862", func := "loop.example/g00495/laws.FnExactOpText", spec := "fnExactOpText", apart := false, narrowed := true }
def FnExactOpTextUptoSaid : Prop := fnExactOpTextUptoRow.holds Try.pinned (OpenSpec.upto fnExactOpTextSpec)

end Rows
end Go.Proofs.Ytjekhgekldkopaa
