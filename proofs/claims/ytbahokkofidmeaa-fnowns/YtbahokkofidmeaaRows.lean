/-
  No cell of these rows narrows 'for every input' (looked for: loops, veiled, ifaces, maps, wideKeys, modest, calm, conditions, laid).
  DERIVED. THE GIVEN ROWS OF THIS SEAT. 6 by the template 'for every input the law returns true; each argument reads behind the call as it read before'; 0 by the template 'total and deterministic' (their statements: YtbahokkofidmeaaTotals.lean).
  GIVEN WITH THE SEED: the statements are not yours to turn. If you find one false, say at which input.
  Laid BY PROGRAM, IN A SANDBOX (cutbox-rows.mjs): the forced cells as the released guide's own fill.sh prints them over the translation dfb7a69b6ff0a4e4… (all of the seat's roots in one cut). By AI agents, Wed Nov 11 2026. No macro, syntax, notation, axiom, sorry.
-/
import Derived.Test.YtbahokkofidmeaaChecked
import GoSem.Claim
import GoSem.ClaimJoined
import GoSem.ClaimMapViews
import Derived.JoinedTies
import Derived.KernelRfl
namespace Go.Proofs.Ytbahokkofidmeaa
/- THE CELL 'sum', in the pinned program and in every row, IS THE sha256 OF THE DUMP (.gsa) THAT YtbahokkofidmeaaProg.lean LOADS. Nothing in Lean hashes anything: it is a label: what it is worth is what the hold of that sum in a sandbox is worth. -/
noncomputable def Try.pinned : Pinned := { name := "ytbahokkofidmeaa", sum := "dfb7a69b6ff0a4e47b46bc66263070e38d0fa85f5e6db994016aaa3d2fab0a5b", checked := Try.checked }
namespace Rows
def none {H : Type} : Left H := { results := [], args := [] }

/-- 'laws.FnOwns': WHATEVER THE INPUT: true; the input reads as it did. -/
def fnOwnsSpec : ChangeSpec := { name := "fnOwns", fn := fun _ => fun
  | [d] => { results := [.lit (.bool true)], args := [d] }
  | _ => none }
def fnOwnsRow : OpenClaim := { program := "ytbahokkofidmeaa", sum := "dfb7a69b6ff0a4e47b46bc66263070e38d0fa85f5e6db994016aaa3d2fab0a5b", func := "loop.example/g01287/laws.FnOwns", spec := "fnOwns", unfollowed := true, recurses := true, apart := false }
def FnOwnsSaid : Prop := fnOwnsRow.holds Try.pinned (OpenSpec.ofChange fnOwnsSpec)

/-- ITS FALSE NEIGHBOUR: 'it returns false'. Refute it at one input. -/
def fnOwnsWrong : ChangeSpec := { name := "fnOwns", fn := fun _ => fun
  | [d] => { results := [.lit (.bool false)], args := [d] }
  | _ => none }
def FnOwnsWrongFalsely : Prop := fnOwnsRow.holds Try.pinned (OpenSpec.ofChange fnOwnsWrong)

/-- 'laws.FnCats': WHATEVER THE INPUT: true; the input reads as it did. -/
def fnCatsSpec : ChangeSpec := { name := "fnCats", fn := fun _ => fun
  | [d] => { results := [.lit (.bool true)], args := [d] }
  | _ => none }
def fnCatsRow : OpenClaim := { program := "ytbahokkofidmeaa", sum := "dfb7a69b6ff0a4e47b46bc66263070e38d0fa85f5e6db994016aaa3d2fab0a5b", func := "loop.example/g01287/laws.FnCats", spec := "fnCats", unfollowed := true, recurses := true, apart := false }
def FnCatsSaid : Prop := fnCatsRow.holds Try.pinned (OpenSpec.ofChange fnCatsSpec)

/-- ITS FALSE NEIGHBOUR: 'it returns false'. Refute it at one input. -/
def fnCatsWrong : ChangeSpec := { name := "fnCats", fn := fun _ => fun
  | [d] => { results := [.lit (.bool false)], args := [d] }
  | _ => none }
def FnCatsWrongFalsely : Prop := fnCatsRow.holds Try.pinned (OpenSpec.ofChange fnCatsWrong)

/-- 'laws.FnExactOwnOk': WHATEVER THE INPUT: true; the input reads as it did. -/
def fnExactOwnOkSpec : ChangeSpec := { name := "fnExactOwnOk", fn := fun _ => fun
  | [d] => { results := [.lit (.bool true)], args := [d] }
  | _ => none }
def fnExactOwnOkRow : OpenClaim := { program := "ytbahokkofidmeaa", sum := "dfb7a69b6ff0a4e47b46bc66263070e38d0fa85f5e6db994016aaa3d2fab0a5b", func := "loop.example/g01287/laws.FnExactOwnOk", spec := "fnExactOwnOk", apart := false }
def FnExactOwnOkSaid : Prop := fnExactOwnOkRow.holds Try.pinned (OpenSpec.ofChange fnExactOwnOkSpec)

/-- ITS FALSE NEIGHBOUR: 'it returns false'. Refute it at one input. -/
def fnExactOwnOkWrong : ChangeSpec := { name := "fnExactOwnOk", fn := fun _ => fun
  | [d] => { results := [.lit (.bool false)], args := [d] }
  | _ => none }
def FnExactOwnOkWrongFalsely : Prop := fnExactOwnOkRow.holds Try.pinned (OpenSpec.ofChange fnExactOwnOkWrong)

/-- 'laws.FnExactFlowsFor': WHATEVER THE INPUT: true; the input reads as it did. -/
def fnExactFlowsForSpec : ChangeSpec := { name := "fnExactFlowsFor", fn := fun _ => fun
  | [d1, d2, d3] => { results := [.lit (.bool true)], args := [d1, d2, d3] }
  | _ => none }
def fnExactFlowsForRow : OpenClaim := { program := "ytbahokkofidmeaa", sum := "dfb7a69b6ff0a4e47b46bc66263070e38d0fa85f5e6db994016aaa3d2fab0a5b", func := "loop.example/g01287/laws.FnExactFlowsFor", spec := "fnExactFlowsFor", apart := false }
def FnExactFlowsForSaid : Prop := fnExactFlowsForRow.holds Try.pinned (OpenSpec.ofChange fnExactFlowsForSpec)

/-- ITS FALSE NEIGHBOUR: 'it returns false'. Refute it at one input. -/
def fnExactFlowsForWrong : ChangeSpec := { name := "fnExactFlowsFor", fn := fun _ => fun
  | [d1, d2, d3] => { results := [.lit (.bool false)], args := [d1, d2, d3] }
  | _ => none }
def FnExactFlowsForWrongFalsely : Prop := fnExactFlowsForRow.holds Try.pinned (OpenSpec.ofChange fnExactFlowsForWrong)

/-- 'laws.FnExactNeeds': WHATEVER THE INPUT: true; the input reads as it did. -/
def fnExactNeedsSpec : ChangeSpec := { name := "fnExactNeeds", fn := fun _ => fun
  | [d1, d2, d3] => { results := [.lit (.bool true)], args := [d1, d2, d3] }
  | _ => none }
def fnExactNeedsRow : OpenClaim := { program := "ytbahokkofidmeaa", sum := "dfb7a69b6ff0a4e47b46bc66263070e38d0fa85f5e6db994016aaa3d2fab0a5b", func := "loop.example/g01287/laws.FnExactNeeds", spec := "fnExactNeeds", apart := false }
def FnExactNeedsSaid : Prop := fnExactNeedsRow.holds Try.pinned (OpenSpec.ofChange fnExactNeedsSpec)

/-- ITS FALSE NEIGHBOUR: 'it returns false'. Refute it at one input. -/
def fnExactNeedsWrong : ChangeSpec := { name := "fnExactNeeds", fn := fun _ => fun
  | [d1, d2, d3] => { results := [.lit (.bool false)], args := [d1, d2, d3] }
  | _ => none }
def FnExactNeedsWrongFalsely : Prop := fnExactNeedsRow.holds Try.pinned (OpenSpec.ofChange fnExactNeedsWrong)

/-- 'laws.FnExactCatsOk': WHATEVER THE INPUT: true; the input reads as it did. -/
def fnExactCatsOkSpec : ChangeSpec := { name := "fnExactCatsOk", fn := fun _ => fun
  | [d] => { results := [.lit (.bool true)], args := [d] }
  | _ => none }
def fnExactCatsOkRow : OpenClaim := { program := "ytbahokkofidmeaa", sum := "dfb7a69b6ff0a4e47b46bc66263070e38d0fa85f5e6db994016aaa3d2fab0a5b", func := "loop.example/g01287/laws.FnExactCatsOk", spec := "fnExactCatsOk", unfollowed := true, recurses := true, apart := false }
def FnExactCatsOkSaid : Prop := fnExactCatsOkRow.holds Try.pinned (OpenSpec.ofChange fnExactCatsOkSpec)

/-- ITS FALSE NEIGHBOUR: 'it returns false'. Refute it at one input. -/
def fnExactCatsOkWrong : ChangeSpec := { name := "fnExactCatsOk", fn := fun _ => fun
  | [d] => { results := [.lit (.bool false)], args := [d] }
  | _ => none }
def FnExactCatsOkWrongFalsely : Prop := fnExactCatsOkRow.holds Try.pinned (OpenSpec.ofChange fnExactCatsOkWrong)

/- THE SECOND FORM. 'bulk': how many values and letters a reading holds, each counted each time it is reached (what is shared counts as often as it is met; a slice's spare places count too). A statement '..UptoSaid' is the law's where the arguments, and the package variables that the reading takes, are together of bulk at most 1048576: NARROWER than '..Said'. Prove '..Said' where nothing that the law and all that it calls make is longer than what came in: it says more and counts as full. Else prove '..UptoSaid'. A law counts once. -/
mutual
def uptoBulk {H : Type} : DataW H → Nat
  | .lit (.string bytes) => bytes.length + 1
  | .lit _ => 1
  | .nil => 1
  | .ptr d => uptoBulk d + 1
  | .slice elems spare => uptoBulkAll elems + uptoBulkAll spare + 1
  | .agg parts => uptoBulkAll parts + 1
  | .iface _ d => uptoBulk d + 1
  | .map entries => uptoBulkEntries entries + 1
  | .held _ => 1
def uptoBulkAll {H : Type} : List (DataW H) → Nat
  | [] => 0
  | d :: r => uptoBulk d + uptoBulkAll r
def uptoBulkEntries {H : Type} : List (Lit × DataW H) → Nat
  | [] => 0
  | x :: r => uptoBulkEntry x + uptoBulkEntries r
def uptoBulkEntry {H : Type} : Lit × DataW H → Nat
  | (.string bytes, d) => bytes.length + uptoBulk d + 1
  | (_, d) => uptoBulk d + 1
 end
def uptoSmall : (H : Type) → List (DataW H) → Bool := fun _ ds => decide (uptoBulkAll ds ≤ 1048576)
def OpenSpec.upto (s : _root_.Go.ChangeSpec) : _root_.Go.OpenSpec := { _root_.Go.OpenSpec.ofChange s with cond := some uptoSmall }

/-- 'laws.FnOwns', WHERE WHAT IT READS IS OF BULK AT MOST 1048576: true; the input reads as it did. -/
def fnOwnsUptoRow : OpenClaim := { program := "ytbahokkofidmeaa", sum := "dfb7a69b6ff0a4e47b46bc66263070e38d0fa85f5e6db994016aaa3d2fab0a5b", func := "loop.example/g01287/laws.FnOwns", spec := "fnOwns", unfollowed := true, recurses := true, apart := false, narrowed := true }
def FnOwnsUptoSaid : Prop := fnOwnsUptoRow.holds Try.pinned (OpenSpec.upto fnOwnsSpec)

/-- 'laws.FnCats', WHERE WHAT IT READS IS OF BULK AT MOST 1048576: true; the input reads as it did. -/
def fnCatsUptoRow : OpenClaim := { program := "ytbahokkofidmeaa", sum := "dfb7a69b6ff0a4e47b46bc66263070e38d0fa85f5e6db994016aaa3d2fab0a5b", func := "loop.example/g01287/laws.FnCats", spec := "fnCats", unfollowed := true, recurses := true, apart := false, narrowed := true }
def FnCatsUptoSaid : Prop := fnCatsUptoRow.holds Try.pinned (OpenSpec.upto fnCatsSpec)

/-- 'laws.FnExactOwnOk', WHERE WHAT IT READS IS OF BULK AT MOST 1048576: true; the input reads as it did. -/
def fnExactOwnOkUptoRow : OpenClaim := { program := "ytbahokkofidmeaa", sum := "dfb7a69b6ff0a4e47b46bc66263070e38d0fa85f5e6db994016aaa3d2fab0a5b", func := "loop.example/g01287/laws.FnExactOwnOk", spec := "fnExactOwnOk", apart := false, narrowed := true }
def FnExactOwnOkUptoSaid : Prop := fnExactOwnOkUptoRow.holds Try.pinned (OpenSpec.upto fnExactOwnOkSpec)

/-- 'laws.FnExactFlowsFor', WHERE WHAT IT READS IS OF BULK AT MOST 1048576: true; the input reads as it did. -/
def fnExactFlowsForUptoRow : OpenClaim := { program := "ytbahokkofidmeaa", sum := "dfb7a69b6ff0a4e47b46bc66263070e38d0fa85f5e6db994016aaa3d2fab0a5b", func := "loop.example/g01287/laws.FnExactFlowsFor", spec := "fnExactFlowsFor", apart := false, narrowed := true }
def FnExactFlowsForUptoSaid : Prop := fnExactFlowsForUptoRow.holds Try.pinned (OpenSpec.upto fnExactFlowsForSpec)

/-- 'laws.FnExactNeeds', WHERE WHAT IT READS IS OF BULK AT MOST 1048576: true; the input reads as it did. -/
def fnExactNeedsUptoRow : OpenClaim := { program := "ytbahokkofidmeaa", sum := "dfb7a69b6ff0a4e47b46bc66263070e38d0fa85f5e6db994016aaa3d2fab0a5b", func := "loop.example/g01287/laws.FnExactNeeds", spec := "fnExactNeeds", apart := false, narrowed := true }
def FnExactNeedsUptoSaid : Prop := fnExactNeedsUptoRow.holds Try.pinned (OpenSpec.upto fnExactNeedsSpec)

/-- 'laws.FnExactCatsOk', WHERE WHAT IT READS IS OF BULK AT MOST 1048576: true; the input reads as it did. -/
def fnExactCatsOkUptoRow : OpenClaim := { program := "ytbahokkofidmeaa", sum := "dfb7a69b6ff0a4e47b46bc66263070e38d0fa85f5e6db994016aaa3d2fab0a5b", func := "loop.example/g01287/laws.FnExactCatsOk", spec := "fnExactCatsOk", unfollowed := true, recurses := true, apart := false, narrowed := true }
def FnExactCatsOkUptoSaid : Prop := fnExactCatsOkUptoRow.holds Try.pinned (OpenSpec.upto fnExactCatsOkSpec)

end Rows
end Go.Proofs.Ytbahokkofidmeaa
