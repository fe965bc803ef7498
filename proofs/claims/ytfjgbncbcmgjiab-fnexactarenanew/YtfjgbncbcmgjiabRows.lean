/-
  No cell of these rows narrows 'for every input' (looked for: loops, veiled, ifaces, maps, wideKeys, modest, calm, conditions, laid).
  DERIVED. THE GIVEN ROWS OF THIS SEAT. 4 by the template 'for every input the law returns true; each argument reads behind the call as it read before'; 0 by the template 'total and deterministic' (their statements: YtfjgbncbcmgjiabTotals.lean).
  GIVEN WITH THE SEED: the statements are not yours to turn. If you find one false, say at which input.
  Laid BY PROGRAM, IN A SANDBOX (cutbox-rows.mjs): the forced cells as the released guide's own fill.sh prints them over the translation 9b7dd66d8774d7ac… (all of the seat's roots in one cut). By AI agents, Wed Nov 11 2026. No macro, syntax, notation, axiom, sorry.
-/
import Derived.Test.YtfjgbncbcmgjiabChecked
import GoSem.Claim
import GoSem.ClaimJoined
import GoSem.ClaimMapViews
import Derived.JoinedTies
import Derived.KernelRfl
namespace Go.Proofs.Ytfjgbncbcmgjiab
/- THE CELL 'sum', in the pinned program and in every row, IS THE sha256 OF THE DUMP (.gsa) THAT YtfjgbncbcmgjiabProg.lean LOADS. Nothing in Lean hashes anything: it is a label: what it is worth is what the hold of that sum in a sandbox is worth. -/
noncomputable def Try.pinned : Pinned := { name := "ytfjgbncbcmgjiab", sum := "9b7dd66d8774d7acbf2552c6fe7b75064ee5653f15a8c59b21c785d39b75a68b", checked := Try.checked }
namespace Rows
def none {H : Type} : Left H := { results := [], args := [] }

/-- 'laws.FnExactArenaNew': WHATEVER THE INPUT: true; the input reads as it did. -/
def fnExactArenaNewSpec : ChangeSpec := { name := "fnExactArenaNew", fn := fun _ => fun
  | [] => { results := [.lit (.bool true)], args := [] }
  | _ => none }
def fnExactArenaNewRow : OpenClaim := { program := "ytfjgbncbcmgjiab", sum := "9b7dd66d8774d7acbf2552c6fe7b75064ee5653f15a8c59b21c785d39b75a68b", func := "loop.example/g01287/laws.FnExactArenaNew", spec := "fnExactArenaNew", apart := false }
def FnExactArenaNewSaid : Prop := fnExactArenaNewRow.holds Try.pinned (OpenSpec.ofChange fnExactArenaNewSpec)

/-- ITS FALSE NEIGHBOUR: 'it returns false'. Refute it at one input. -/
def fnExactArenaNewWrong : ChangeSpec := { name := "fnExactArenaNew", fn := fun _ => fun
  | [] => { results := [.lit (.bool false)], args := [] }
  | _ => none }
def FnExactArenaNewWrongFalsely : Prop := fnExactArenaNewRow.holds Try.pinned (OpenSpec.ofChange fnExactArenaNewWrong)

/-- 'laws.FnExactArenaPut': WHATEVER THE INPUT: true; the input reads as it did. -/
def fnExactArenaPutSpec : ChangeSpec := { name := "fnExactArenaPut", fn := fun _ => fun
  | [d1, d2] => { results := [.lit (.bool true)], args := [d1, d2] }
  | _ => none }
def fnExactArenaPutRow : OpenClaim := { program := "ytfjgbncbcmgjiab", sum := "9b7dd66d8774d7acbf2552c6fe7b75064ee5653f15a8c59b21c785d39b75a68b", func := "loop.example/g01287/laws.FnExactArenaPut", spec := "fnExactArenaPut", unfollowed := true, recurses := true, apart := false }
def FnExactArenaPutSaid : Prop := fnExactArenaPutRow.holds Try.pinned (OpenSpec.ofChange fnExactArenaPutSpec)

/-- ITS FALSE NEIGHBOUR: 'it returns false'. Refute it at one input. -/
def fnExactArenaPutWrong : ChangeSpec := { name := "fnExactArenaPut", fn := fun _ => fun
  | [d1, d2] => { results := [.lit (.bool false)], args := [d1, d2] }
  | _ => none }
def FnExactArenaPutWrongFalsely : Prop := fnExactArenaPutRow.holds Try.pinned (OpenSpec.ofChange fnExactArenaPutWrong)

/-- 'laws.FnExactArenaFree': WHATEVER THE INPUT: true; the input reads as it did. -/
def fnExactArenaFreeSpec : ChangeSpec := { name := "fnExactArenaFree", fn := fun _ => fun
  | [d1, d2] => { results := [.lit (.bool true)], args := [d1, d2] }
  | _ => none }
def fnExactArenaFreeRow : OpenClaim := { program := "ytfjgbncbcmgjiab", sum := "9b7dd66d8774d7acbf2552c6fe7b75064ee5653f15a8c59b21c785d39b75a68b", func := "loop.example/g01287/laws.FnExactArenaFree", spec := "fnExactArenaFree", unfollowed := true, recurses := true, apart := false }
def FnExactArenaFreeSaid : Prop := fnExactArenaFreeRow.holds Try.pinned (OpenSpec.ofChange fnExactArenaFreeSpec)

/-- ITS FALSE NEIGHBOUR: 'it returns false'. Refute it at one input. -/
def fnExactArenaFreeWrong : ChangeSpec := { name := "fnExactArenaFree", fn := fun _ => fun
  | [d1, d2] => { results := [.lit (.bool false)], args := [d1, d2] }
  | _ => none }
def FnExactArenaFreeWrongFalsely : Prop := fnExactArenaFreeRow.holds Try.pinned (OpenSpec.ofChange fnExactArenaFreeWrong)

/-- 'laws.FnExactSameArena': WHATEVER THE INPUT: true; the input reads as it did. -/
def fnExactSameArenaSpec : ChangeSpec := { name := "fnExactSameArena", fn := fun _ => fun
  | [d1, d2] => { results := [.lit (.bool true)], args := [d1, d2] }
  | _ => none }
def fnExactSameArenaRow : OpenClaim := { program := "ytfjgbncbcmgjiab", sum := "9b7dd66d8774d7acbf2552c6fe7b75064ee5653f15a8c59b21c785d39b75a68b", func := "loop.example/g01287/laws.FnExactSameArena", spec := "fnExactSameArena", unfollowed := true, recurses := true, apart := false }
def FnExactSameArenaSaid : Prop := fnExactSameArenaRow.holds Try.pinned (OpenSpec.ofChange fnExactSameArenaSpec)

/-- ITS FALSE NEIGHBOUR: 'it returns false'. Refute it at one input. -/
def fnExactSameArenaWrong : ChangeSpec := { name := "fnExactSameArena", fn := fun _ => fun
  | [d1, d2] => { results := [.lit (.bool false)], args := [d1, d2] }
  | _ => none }
def FnExactSameArenaWrongFalsely : Prop := fnExactSameArenaRow.holds Try.pinned (OpenSpec.ofChange fnExactSameArenaWrong)

/- THE SECOND FORM. 'bulk': how many values and letters a reading holds, each counted each time it is reached (what is shared counts as often as it is met; a slice's spare places count too). A statement '..UptoSaid' is the law's where the arguments, and the package variables that the reading takes, are together of bulk at most 1048576: NARROWER than '..Said'. Prove '..Said' where nothing that the law and all that it calls make is longer than what came in: it says more and counts as full. Else prove '..UptoSaid'. A law counts once. -/
mutual
def uptoBulk {H : Type} : DataW H → Nat
  | .lit (.string bytes) => bytes.length + 1
  | .lit _ => 1
  | .nil => 1
  | .ptr d => uptoBulk d + 1
  | .slice elems spare => uptoBulkAll elems + uptoBulkAll spare + 1
  | .agg parts => uptoBulkAll parts + 1
  | .iface _ d => uptoBulk d + 1
  | .map entries => uptoBulkEntries entries + 1
  | .held _ => 1
def uptoBulkAll {H : Type} : List (DataW H) → Nat
  | [] => 0
  | d :: r => uptoBulk d + uptoBulkAll r
def uptoBulkEntries {H : Type} : List (Lit × DataW H) → Nat
  | [] => 0
  | x :: r => uptoBulkEntry x + uptoBulkEntries r
def uptoBulkEntry {H : Type} : Lit × DataW H → Nat
  | (.string bytes, d) => bytes.length + uptoBulk d + 1
  | (_, d) => uptoBulk d + 1
 end
def uptoSmall : (H : Type) → List (DataW H) → Bool := fun _ ds => decide (uptoBulkAll ds ≤ 1048576)
def OpenSpec.upto (s : _root_.Go.ChangeSpec) : _root_.Go.OpenSpec := { _root_.Go.OpenSpec.ofChange s with cond := some uptoSmall }

/-- 'laws.FnExactArenaNew', WHERE WHAT IT READS IS OF BULK AT MOST 1048576: true; the input reads as it did. -/
def fnExactArenaNewUptoRow : OpenClaim := { program := "ytfjgbncbcmgjiab", sum := "9b7dd66d8774d7acbf2552c6fe7b75064ee5653f15a8c59b21c785d39b75a68b", func := "loop.example/g01287/laws.FnExactArenaNew", spec := "fnExactArenaNew", apart := false, narrowed := true }
def FnExactArenaNewUptoSaid : Prop := fnExactArenaNewUptoRow.holds Try.pinned (OpenSpec.upto fnExactArenaNewSpec)

/-- 'laws.FnExactArenaPut', WHERE WHAT IT READS IS OF BULK AT MOST 1048576: true; the input reads as it did. -/
def fnExactArenaPutUptoRow : OpenClaim := { program := "ytfjgbncbcmgjiab", sum := "9b7dd66d8774d7acbf2552c6fe7b75064ee5653f15a8c59b21c785d39b75a68b", func := "loop.example/g01287/laws.FnExactArenaPut", spec := "fnExactArenaPut", unfollowed := true, recurses := true, apart := false, narrowed := true }
def FnExactArenaPutUptoSaid : Prop := fnExactArenaPutUptoRow.holds Try.pinned (OpenSpec.upto fnExactArenaPutSpec)

/-- 'laws.FnExactArenaFree', WHERE WHAT IT READS IS OF BULK AT MOST 1048576: true; the input reads as it did. -/
def fnExactArenaFreeUptoRow : OpenClaim := { program := "ytfjgbncbcmgjiab", sum := "9b7dd66d8774d7acbf2552c6fe7b75064ee5653f15a8c59b21c785d39b75a68b", func := "loop.example/g01287/laws.FnExactArenaFree", spec := "fnExactArenaFree", unfollowed := true, recurses := true, apart := false, narrowed := true }
def FnExactArenaFreeUptoSaid : Prop := fnExactArenaFreeUptoRow.holds Try.pinned (OpenSpec.upto fnExactArenaFreeSpec)

/-- 'laws.FnExactSameArena', WHERE WHAT IT READS IS OF BULK AT MOST 1048576: true; the input reads as it did. -/
def fnExactSameArenaUptoRow : OpenClaim := { program := "ytfjgbncbcmgjiab", sum := "9b7dd66d8774d7acbf2552c6fe7b75064ee5653f15a8c59b21c785d39b75a68b", func := "loop.example/g01287/laws.FnExactSameArena", spec := "fnExactSameArena", unfollowed := true, recurses := true, apart := false, narrowed := true }
def FnExactSameArenaUptoSaid : Prop := fnExactSameArenaUptoRow.holds Try.pinned (OpenSpec.upto fnExactSameArenaSpec)

end Rows
end Go.Proofs.Ytfjgbncbcmgjiab
