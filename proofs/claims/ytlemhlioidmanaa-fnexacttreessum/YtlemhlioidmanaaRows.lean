/-
  No cell of these rows narrows 'for every input' (looked for: loops, veiled, ifaces, maps, wideKeys, modest, calm, conditions, laid).
  DERIVED. THE GIVEN ROWS OF THIS SEAT. 3 by the template 'for every input the law returns true; each argument reads behind the call as it read before'; 0 by the template 'total and deterministic' (their statements: YtlemhlioidmanaaTotals.lean).
  GIVEN WITH THE SEED: the statements are not yours to turn. If you find one false, say at which input.
  Laid BY PROGRAM, IN A SANDBOX (cutbox-rows.mjs): the forced cells as the released guide's own fill.sh prints them over the translation 94ba9d6b55cb17cf… (all of the seat's roots in one cut). By AI agents, Wed Nov 11 2026. No macro, syntax, notation, axiom, sorry.
-/
import Derived.Test.YtlemhlioidmanaaChecked
import GoSem.Claim
import GoSem.ClaimJoined
import GoSem.ClaimMapViews
import Derived.JoinedTies
import Derived.KernelRfl
namespace Go.Proofs.Ytlemhlioidmanaa
/- THE CELL 'sum', in the pinned program and in every row, IS THE sha256 OF THE DUMP (.gsa) THAT YtlemhlioidmanaaProg.lean LOADS. Nothing in Lean hashes anything: it is a label: what it is worth is what the hold of that sum in a sandbox is worth. -/
noncomputable def Try.pinned : Pinned := { name := "ytlemhlioidmanaa", sum := "94ba9d6b55cb17cfe20ba04d6d011767db33198c4ddce1db4db5e7643e3c484e", checked := Try.checked }
namespace Rows
def none {H : Type} : Left H := { results := [], args := [] }

/-- 'laws.FnExactTapOk': WHATEVER THE INPUT: true; the input reads as it did. -/
def fnExactTapOkSpec : ChangeSpec := { name := "fnExactTapOk", fn := fun _ => fun
  | [d] => { results := [.lit (.bool true)], args := [d] }
  | _ => none }
def fnExactTapOkRow : OpenClaim := { program := "ytlemhlioidmanaa", sum := "94ba9d6b55cb17cfe20ba04d6d011767db33198c4ddce1db4db5e7643e3c484e", func := "loop.example/g01287/laws.FnExactTapOk", spec := "fnExactTapOk", unfollowed := true, recurses := true, apart := false }
def FnExactTapOkSaid : Prop := fnExactTapOkRow.holds Try.pinned (OpenSpec.ofChange fnExactTapOkSpec)

/-- ITS FALSE NEIGHBOUR: 'it returns false'. Refute it at one input. -/
def fnExactTapOkWrong : ChangeSpec := { name := "fnExactTapOk", fn := fun _ => fun
  | [d] => { results := [.lit (.bool false)], args := [d] }
  | _ => none }
def FnExactTapOkWrongFalsely : Prop := fnExactTapOkRow.holds Try.pinned (OpenSpec.ofChange fnExactTapOkWrong)

/-- 'laws.FnExactTapFlow': WHATEVER THE INPUT: true; the input reads as it did. -/
def fnExactTapFlowSpec : ChangeSpec := { name := "fnExactTapFlow", fn := fun _ => fun
  | [d1, d2] => { results := [.lit (.bool true)], args := [d1, d2] }
  | _ => none }
def fnExactTapFlowRow : OpenClaim := { program := "ytlemhlioidmanaa", sum := "94ba9d6b55cb17cfe20ba04d6d011767db33198c4ddce1db4db5e7643e3c484e", func := "loop.example/g01287/laws.FnExactTapFlow", spec := "fnExactTapFlow", unfollowed := true, recurses := true, apart := false }
def FnExactTapFlowSaid : Prop := fnExactTapFlowRow.holds Try.pinned (OpenSpec.ofChange fnExactTapFlowSpec)

/-- ITS FALSE NEIGHBOUR: 'it returns false'. Refute it at one input. -/
def fnExactTapFlowWrong : ChangeSpec := { name := "fnExactTapFlow", fn := fun _ => fun
  | [d1, d2] => { results := [.lit (.bool false)], args := [d1, d2] }
  | _ => none }
def FnExactTapFlowWrongFalsely : Prop := fnExactTapFlowRow.holds Try.pinned (OpenSpec.ofChange fnExactTapFlowWrong)

/-- 'laws.FnExactTreesSum': WHATEVER THE INPUT: true; the input reads as it did. -/
def fnExactTreesSumSpec : ChangeSpec := { name := "fnExactTreesSum", fn := fun _ => fun
  | [d] => { results := [.lit (.bool true)], args := [d] }
  | _ => none }
def fnExactTreesSumRow : OpenClaim := { program := "ytlemhlioidmanaa", sum := "94ba9d6b55cb17cfe20ba04d6d011767db33198c4ddce1db4db5e7643e3c484e", func := "loop.example/g01287/laws.FnExactTreesSum", spec := "fnExactTreesSum", apart := false }
def FnExactTreesSumSaid : Prop := fnExactTreesSumRow.holds Try.pinned (OpenSpec.ofChange fnExactTreesSumSpec)

/-- ITS FALSE NEIGHBOUR: 'it returns false'. Refute it at one input. -/
def fnExactTreesSumWrong : ChangeSpec := { name := "fnExactTreesSum", fn := fun _ => fun
  | [d] => { results := [.lit (.bool false)], args := [d] }
  | _ => none }
def FnExactTreesSumWrongFalsely : Prop := fnExactTreesSumRow.holds Try.pinned (OpenSpec.ofChange fnExactTreesSumWrong)

/- THE SECOND FORM. 'bulk': how many values and letters a reading holds, each counted each time it is reached (what is shared counts as often as it is met; a slice's spare places count too). A statement '..UptoSaid' is the law's where the arguments, and the package variables that the reading takes, are together of bulk at most 1048576: NARROWER than '..Said'. Prove '..Said' where nothing that the law and all that it calls make is longer than what came in: it says more and counts as full. Else prove '..UptoSaid'. A law counts once. -/
mutual
def uptoBulk {H : Type} : DataW H → Nat
  | .lit (.string bytes) => bytes.length + 1
  | .lit _ => 1
  | .nil => 1
  | .ptr d => uptoBulk d + 1
  | .slice elems spare => uptoBulkAll elems + uptoBulkAll spare + 1
  | .agg parts => uptoBulkAll parts + 1
  | .iface _ d => uptoBulk d + 1
  | .map entries => uptoBulkEntries entries + 1
  | .held _ => 1
def uptoBulkAll {H : Type} : List (DataW H) → Nat
  | [] => 0
  | d :: r => uptoBulk d + uptoBulkAll r
def uptoBulkEntries {H : Type} : List (Lit × DataW H) → Nat
  | [] => 0
  | x :: r => uptoBulkEntry x + uptoBulkEntries r
def uptoBulkEntry {H : Type} : Lit × DataW H → Nat
  | (.string bytes, d) => bytes.length + uptoBulk d + 1
  | (_, d) => uptoBulk d + 1
 end
def uptoSmall : (H : Type) → List (DataW H) → Bool := fun _ ds => decide (uptoBulkAll ds ≤ 1048576)
def OpenSpec.upto (s : _root_.Go.ChangeSpec) : _root_.Go.OpenSpec := { _root_.Go.OpenSpec.ofChange s with cond := some uptoSmall }

/-- 'laws.FnExactTapOk', WHERE WHAT IT READS IS OF BULK AT MOST 1048576: true; the input reads as it did. -/
def fnExactTapOkUptoRow : OpenClaim := { program := "ytlemhlioidmanaa", sum := "94ba9d6b55cb17cfe20ba04d6d011767db33198c4ddce1db4db5e7643e3c484e", func := "loop.example/g01287/laws.FnExactTapOk", spec := "fnExactTapOk", unfollowed := true, recurses := true, apart := false, narrowed := true }
def FnExactTapOkUptoSaid : Prop := fnExactTapOkUptoRow.holds Try.pinned (OpenSpec.upto fnExactTapOkSpec)

/-- 'laws.FnExactTapFlow', WHERE WHAT IT READS IS OF BULK AT MOST 1048576: true; the input reads as it did. -/
def fnExactTapFlowUptoRow : OpenClaim := { program := "ytlemhlioidmanaa", sum := "94ba9d6b55cb17cfe20ba04d6d011767db33198c4ddce1db4db5e7643e3c484e", func := "loop.example/g01287/laws.FnExactTapFlow", spec := "fnExactTapFlow", unfollowed := true, recurses := true, apart := false, narrowed := true }
def FnExactTapFlowUptoSaid : Prop := fnExactTapFlowUptoRow.holds Try.pinned (OpenSpec.upto fnExactTapFlowSpec)

/-- 'laws.FnExactTreesSum', WHERE WHAT IT READS IS OF BULK AT MOST 1048576: true; the input reads as it did. -/
def fnExactTreesSumUptoRow : OpenClaim := { program := "ytlemhlioidmanaa", sum := "94ba9d6b55cb17cfe20ba04d6d011767db33198c4ddce1db4db5e7643e3c484e", func := "loop.example/g01287/laws.FnExactTreesSum", spec := "fnExactTreesSum", apart := false, narrowed := true }
def FnExactTreesSumUptoSaid : Prop := fnExactTreesSumUptoRow.holds Try.pinned (OpenSpec.upto fnExactTreesSumSpec)

end Rows
end Go.Proofs.Ytlemhlioidmanaa
