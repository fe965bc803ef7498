/-
  No cell of these rows narrows 'for every input' (looked for: loops, veiled, ifaces, maps, wideKeys, modest, calm, conditions, laid).
  DERIVED. THE GIVEN ROWS OF THIS SEAT. 3 by the template 'for every input the law returns true; each argument reads behind the call as it read before'; 0 by the template 'total and deterministic' (their statements: YtfgcokcmmcpajabTotals.lean).
  GIVEN WITH THE SEED: the statements are not yours to turn. If you find one false, say at which input.
  Laid BY PROGRAM, IN A SANDBOX (cutbox-rows.mjs): the forced cells as the released guide's own fill.sh prints them over the translation a6b5af17a7e4d88e… (all of the seat's roots in one cut). By AI agents, Wed Nov 11 2026. No macro, syntax, notation, axiom, sorry.
-/
import Derived.Test.YtfgcokcmmcpajabChecked
import GoSem.Claim
import GoSem.ClaimJoined
import GoSem.ClaimMapViews
import Derived.JoinedTies
import Derived.KernelRfl
namespace Go.Proofs.Ytfgcokcmmcpajab
/- THE CELL 'sum', in the pinned program and in every row, IS THE sha256 OF THE DUMP (.gsa) THAT YtfgcokcmmcpajabProg.lean LOADS. Nothing in Lean hashes anything: it is a label: what it is worth is what the hold of that sum in a sandbox is worth. -/
noncomputable def Try.pinned : Pinned := { name := "ytfgcokcmmcpajab", sum := "a6b5af17a7e4d88e3d49881b092f2b1b434a21bbb8f9d83102a3ce09fb60a7a0", checked := Try.checked }
namespace Rows
def none {H : Type} : Left H := { results := [], args := [] }

/-- 'laws.FnExactTreeBack': WHATEVER THE INPUT: true; the input reads as it did. -/
def fnExactTreeBackSpec : ChangeSpec := { name := "fnExactTreeBack", fn := fun _ => fun
  | [d1, d2, d3] => { results := [.lit (.bool true)], args := [d1, d2, d3] }
  | _ => none }
def fnExactTreeBackRow : OpenClaim := { program := "ytfgcokcmmcpajab", sum := "a6b5af17a7e4d88e3d49881b092f2b1b434a21bbb8f9d83102a3ce09fb60a7a0", func := "loop.example/g01287/laws.FnExactTreeBack", spec := "fnExactTreeBack", apart := false }
def FnExactTreeBackSaid : Prop := fnExactTreeBackRow.holds Try.pinned (OpenSpec.ofChange fnExactTreeBackSpec)

/-- ITS FALSE NEIGHBOUR: 'it returns false'. Refute it at one input. -/
def fnExactTreeBackWrong : ChangeSpec := { name := "fnExactTreeBack", fn := fun _ => fun
  | [d1, d2, d3] => { results := [.lit (.bool false)], args := [d1, d2, d3] }
  | _ => none }
def FnExactTreeBackWrongFalsely : Prop := fnExactTreeBackRow.holds Try.pinned (OpenSpec.ofChange fnExactTreeBackWrong)

/-- 'laws.FnExactTreeDrop': WHATEVER THE INPUT: true; the input reads as it did. -/
def fnExactTreeDropSpec : ChangeSpec := { name := "fnExactTreeDrop", fn := fun _ => fun
  | [d1, d2] => { results := [.lit (.bool true)], args := [d1, d2] }
  | _ => none }
def fnExactTreeDropRow : OpenClaim := { program := "ytfgcokcmmcpajab", sum := "a6b5af17a7e4d88e3d49881b092f2b1b434a21bbb8f9d83102a3ce09fb60a7a0", func := "loop.example/g01287/laws.FnExactTreeDrop", spec := "fnExactTreeDrop", apart := false }
def FnExactTreeDropSaid : Prop := fnExactTreeDropRow.holds Try.pinned (OpenSpec.ofChange fnExactTreeDropSpec)

/-- ITS FALSE NEIGHBOUR: 'it returns false'. Refute it at one input. -/
def fnExactTreeDropWrong : ChangeSpec := { name := "fnExactTreeDrop", fn := fun _ => fun
  | [d1, d2] => { results := [.lit (.bool false)], args := [d1, d2] }
  | _ => none }
def FnExactTreeDropWrongFalsely : Prop := fnExactTreeDropRow.holds Try.pinned (OpenSpec.ofChange fnExactTreeDropWrong)

/-- 'laws.FnExactTreeAbove': WHATEVER THE INPUT: true; the input reads as it did. -/
def fnExactTreeAboveSpec : ChangeSpec := { name := "fnExactTreeAbove", fn := fun _ => fun
  | [d1, d2] => { results := [.lit (.bool true)], args := [d1, d2] }
  | _ => none }
def fnExactTreeAboveRow : OpenClaim := { program := "ytfgcokcmmcpajab", sum := "a6b5af17a7e4d88e3d49881b092f2b1b434a21bbb8f9d83102a3ce09fb60a7a0", func := "loop.example/g01287/laws.FnExactTreeAbove", spec := "fnExactTreeAbove", apart := false }
def FnExactTreeAboveSaid : Prop := fnExactTreeAboveRow.holds Try.pinned (OpenSpec.ofChange fnExactTreeAboveSpec)

/-- ITS FALSE NEIGHBOUR: 'it returns false'. Refute it at one input. -/
def fnExactTreeAboveWrong : ChangeSpec := { name := "fnExactTreeAbove", fn := fun _ => fun
  | [d1, d2] => { results := [.lit (.bool false)], args := [d1, d2] }
  | _ => none }
def FnExactTreeAboveWrongFalsely : Prop := fnExactTreeAboveRow.holds Try.pinned (OpenSpec.ofChange fnExactTreeAboveWrong)

/- THE SECOND FORM. 'bulk': how many values and letters a reading holds, each counted each time it is reached (what is shared counts as often as it is met; a slice's spare places count too). A statement '..UptoSaid' is the law's where the arguments, and the package variables that the reading takes, are together of bulk at most 1048576: NARROWER than '..Said'. Prove '..Said' where nothing that the law and all that it calls make is longer than what came in: it says more and counts as full. Else prove '..UptoSaid'. A law counts once. -/
mutual
def uptoBulk {H : Type} : DataW H → Nat
  | .lit (.string bytes) => bytes.length + 1
  | .lit _ => 1
  | .nil => 1
  | .ptr d => uptoBulk d + 1
  | .slice elems spare => uptoBulkAll elems + uptoBulkAll spare + 1
  | .agg parts => uptoBulkAll parts + 1
  | .iface _ d => uptoBulk d + 1
  | .map entries => uptoBulkEntries entries + 1
  | .held _ => 1
def uptoBulkAll {H : Type} : List (DataW H) → Nat
  | [] => 0
  | d :: r => uptoBulk d + uptoBulkAll r
def uptoBulkEntries {H : Type} : List (Lit × DataW H) → Nat
  | [] => 0
  | x :: r => uptoBulkEntry x + uptoBulkEntries r
def uptoBulkEntry {H : Type} : Lit × DataW H → Nat
  | (.string bytes, d) => bytes.length + uptoBulk d + 1
  | (_, d) => uptoBulk d + 1
 end
def uptoSmall : (H : Type) → List (DataW H) → Bool := fun _ ds => decide (uptoBulkAll ds ≤ 1048576)
def OpenSpec.upto (s : _root_.Go.ChangeSpec) : _root_.Go.OpenSpec := { _root_.Go.OpenSpec.ofChange s with cond := some uptoSmall }

/-- 'laws.FnExactTreeBack', WHERE WHAT IT READS IS OF BULK AT MOST 1048576: true; the input reads as it did. -/
def fnExactTreeBackUptoRow : OpenClaim := { program := "ytfgcokcmmcpajab", sum := "a6b5af17a7e4d88e3d49881b092f2b1b434a21bbb8f9d83102a3ce09fb60a7a0", func := "loop.example/g01287/laws.FnExactTreeBack", spec := "fnExactTreeBack", apart := false, narrowed := true }
def FnExactTreeBackUptoSaid : Prop := fnExactTreeBackUptoRow.holds Try.pinned (OpenSpec.upto fnExactTreeBackSpec)

/-- 'laws.FnExactTreeDrop', WHERE WHAT IT READS IS OF BULK AT MOST 1048576: true; the input reads as it did. -/
def fnExactTreeDropUptoRow : OpenClaim := { program := "ytfgcokcmmcpajab", sum := "a6b5af17a7e4d88e3d49881b092f2b1b434a21bbb8f9d83102a3ce09fb60a7a0", func := "loop.example/g01287/laws.FnExactTreeDrop", spec := "fnExactTreeDrop", apart := false, narrowed := true }
def FnExactTreeDropUptoSaid : Prop := fnExactTreeDropUptoRow.holds Try.pinned (OpenSpec.upto fnExactTreeDropSpec)

/-- 'laws.FnExactTreeAbove', WHERE WHAT IT READS IS OF BULK AT MOST 1048576: true; the input reads as it did. -/
def fnExactTreeAboveUptoRow : OpenClaim := { program := "ytfgcokcmmcpajab", sum := "a6b5af17a7e4d88e3d49881b092f2b1b434a21bbb8f9d83102a3ce09fb60a7a0", func := "loop.example/g01287/laws.FnExactTreeAbove", spec := "fnExactTreeAbove", apart := false, narrowed := true }
def FnExactTreeAboveUptoSaid : Prop := fnExactTreeAboveUptoRow.holds Try.pinned (OpenSpec.upto fnExactTreeAboveSpec)

end Rows
end Go.Proofs.Ytfgcokcmmcpajab
