/-
  No cell of these rows narrows 'for every input' (looked for: loops, veiled, ifaces, maps, wideKeys, modest, calm, conditions, laid).
  DERIVED. THE GIVEN ROWS OF THIS SEAT. 6 by the template 'for every input the law returns true; each argument reads behind the call as it read before'; 0 by the template 'total and deterministic' (their statements: YtglpfgachcoheaaTotals.lean).
  GIVEN WITH THE SEED: the statements are not yours to turn. If you find one false, say at which input.
  Laid BY PROGRAM, IN A SANDBOX (cutbox-rows.mjs): the forced cells as the released guide's own fill.sh prints them over the translation 35085e0499d28c15… (all of the seat's roots in one cut). By AI agents, Wed Nov 11 2026. No macro, syntax, notation, axiom, sorry.
-/
import Derived.Test.YtglpfgachcoheaaChecked
import GoSem.Claim
import GoSem.ClaimJoined
import GoSem.ClaimMapViews
import Derived.JoinedTies
import Derived.KernelRfl
namespace Go.Proofs.Ytglpfgachcoheaa
/- THE CELL 'sum', in the pinned program and in every row, IS THE sha256 OF THE DUMP (.gsa) THAT YtglpfgachcoheaaProg.lean LOADS. Nothing in Lean hashes anything: it is a label: what it is worth is what the hold of that sum in a sandbox is worth. -/
noncomputable def Try.pinned : Pinned := { name := "ytglpfgachcoheaa", sum := "35085e0499d28c154111ba7dd887178efb96001002301693bcbca152b78f7a38", checked := Try.checked }
namespace Rows
def none {H : Type} : Left H := { results := [], args := [] }

/-- 'laws.FnExactArenaPut': WHATEVER THE INPUT: true; the input reads as it did. -/
def fnExactArenaPutSpec : ChangeSpec := { name := "fnExactArenaPut", fn := fun _ => fun
  | [d1, d2] => { results := [.lit (.bool true)], args := [d1, d2] }
  | _ => none }
def fnExactArenaPutRow : OpenClaim := { program := "ytglpfgachcoheaa", sum := "35085e0499d28c154111ba7dd887178efb96001002301693bcbca152b78f7a38", func := "loop.example/g01287/laws.FnExactArenaPut", spec := "fnExactArenaPut", unfollowed := true, recurses := true, apart := false }
def FnExactArenaPutSaid : Prop := fnExactArenaPutRow.holds Try.pinned (OpenSpec.ofChange fnExactArenaPutSpec)

/-- ITS FALSE NEIGHBOUR: 'it returns false'. Refute it at one input. -/
def fnExactArenaPutWrong : ChangeSpec := { name := "fnExactArenaPut", fn := fun _ => fun
  | [d1, d2] => { results := [.lit (.bool false)], args := [d1, d2] }
  | _ => none }
def FnExactArenaPutWrongFalsely : Prop := fnExactArenaPutRow.holds Try.pinned (OpenSpec.ofChange fnExactArenaPutWrong)

/-- 'laws.FnExactArenaFree': WHATEVER THE INPUT: true; the input reads as it did. -/
def fnExactArenaFreeSpec : ChangeSpec := { name := "fnExactArenaFree", fn := fun _ => fun
  | [d1, d2] => { results := [.lit (.bool true)], args := [d1, d2] }
  | _ => none }
def fnExactArenaFreeRow : OpenClaim := { program := "ytglpfgachcoheaa", sum := "35085e0499d28c154111ba7dd887178efb96001002301693bcbca152b78f7a38", func := "loop.example/g01287/laws.FnExactArenaFree", spec := "fnExactArenaFree", unfollowed := true, recurses := true, apart := false }
def FnExactArenaFreeSaid : Prop := fnExactArenaFreeRow.holds Try.pinned (OpenSpec.ofChange fnExactArenaFreeSpec)

/-- ITS FALSE NEIGHBOUR: 'it returns false'. Refute it at one input. -/
def fnExactArenaFreeWrong : ChangeSpec := { name := "fnExactArenaFree", fn := fun _ => fun
  | [d1, d2] => { results := [.lit (.bool false)], args := [d1, d2] }
  | _ => none }
def FnExactArenaFreeWrongFalsely : Prop := fnExactArenaFreeRow.holds Try.pinned (OpenSpec.ofChange fnExactArenaFreeWrong)

/-- 'laws.FnExactExpired': WHATEVER THE INPUT: true; the input reads as it did. -/
def fnExactExpiredSpec : ChangeSpec := { name := "fnExactExpired", fn := fun _ => fun
  | [d1, d2] => { results := [.lit (.bool true)], args := [d1, d2] }
  | _ => none }
def fnExactExpiredRow : OpenClaim := { program := "ytglpfgachcoheaa", sum := "35085e0499d28c154111ba7dd887178efb96001002301693bcbca152b78f7a38", func := "loop.example/g01287/laws.FnExactExpired", spec := "fnExactExpired", apart := false }
def FnExactExpiredSaid : Prop := fnExactExpiredRow.holds Try.pinned (OpenSpec.ofChange fnExactExpiredSpec)

/-- ITS FALSE NEIGHBOUR: 'it returns false'. Refute it at one input. -/
def fnExactExpiredWrong : ChangeSpec := { name := "fnExactExpired", fn := fun _ => fun
  | [d1, d2] => { results := [.lit (.bool false)], args := [d1, d2] }
  | _ => none }
def FnExactExpiredWrongFalsely : Prop := fnExactExpiredRow.holds Try.pinned (OpenSpec.ofChange fnExactExpiredWrong)

/-- 'laws.FnExactEdges': WHATEVER THE INPUT: true; the input reads as it did. -/
def fnExactEdgesSpec : ChangeSpec := { name := "fnExactEdges", fn := fun _ => fun
  | [d1, d2] => { results := [.lit (.bool true)], args := [d1, d2] }
  | _ => none }
def fnExactEdgesRow : OpenClaim := { program := "ytglpfgachcoheaa", sum := "35085e0499d28c154111ba7dd887178efb96001002301693bcbca152b78f7a38", func := "loop.example/g01287/laws.FnExactEdges", spec := "fnExactEdges", unfollowed := true, recurses := true, apart := false }
def FnExactEdgesSaid : Prop := fnExactEdgesRow.holds Try.pinned (OpenSpec.ofChange fnExactEdgesSpec)

/-- ITS FALSE NEIGHBOUR: 'it returns false'. Refute it at one input. -/
def fnExactEdgesWrong : ChangeSpec := { name := "fnExactEdges", fn := fun _ => fun
  | [d1, d2] => { results := [.lit (.bool false)], args := [d1, d2] }
  | _ => none }
def FnExactEdgesWrongFalsely : Prop := fnExactEdgesRow.holds Try.pinned (OpenSpec.ofChange fnExactEdgesWrong)

/-- 'laws.FnExactReach': WHATEVER THE INPUT: true; the input reads as it did. -/
def fnExactReachSpec : ChangeSpec := { name := "fnExactReach", fn := fun _ => fun
  | [d1, d2] => { results := [.lit (.bool true)], args := [d1, d2] }
  | _ => none }
def fnExactReachRow : OpenClaim := { program := "ytglpfgachcoheaa", sum := "35085e0499d28c154111ba7dd887178efb96001002301693bcbca152b78f7a38", func := "loop.example/g01287/laws.FnExactReach", spec := "fnExactReach", unfollowed := true, recurses := true, apart := false }
def FnExactReachSaid : Prop := fnExactReachRow.holds Try.pinned (OpenSpec.ofChange fnExactReachSpec)

/-- ITS FALSE NEIGHBOUR: 'it returns false'. Refute it at one input. -/
def fnExactReachWrong : ChangeSpec := { name := "fnExactReach", fn := fun _ => fun
  | [d1, d2] => { results := [.lit (.bool false)], args := [d1, d2] }
  | _ => none }
def FnExactReachWrongFalsely : Prop := fnExactReachRow.holds Try.pinned (OpenSpec.ofChange fnExactReachWrong)

/-- 'laws.FnExactGarbage': WHATEVER THE INPUT: true; the input reads as it did. -/
def fnExactGarbageSpec : ChangeSpec := { name := "fnExactGarbage", fn := fun _ => fun
  | [d1, d2] => { results := [.lit (.bool true)], args := [d1, d2] }
  | _ => none }
def fnExactGarbageRow : OpenClaim := { program := "ytglpfgachcoheaa", sum := "35085e0499d28c154111ba7dd887178efb96001002301693bcbca152b78f7a38", func := "loop.example/g01287/laws.FnExactGarbage", spec := "fnExactGarbage", unfollowed := true, recurses := true, apart := false }
def FnExactGarbageSaid : Prop := fnExactGarbageRow.holds Try.pinned (OpenSpec.ofChange fnExactGarbageSpec)

/-- ITS FALSE NEIGHBOUR: 'it returns false'. Refute it at one input. -/
def fnExactGarbageWrong : ChangeSpec := { name := "fnExactGarbage", fn := fun _ => fun
  | [d1, d2] => { results := [.lit (.bool false)], args := [d1, d2] }
  | _ => none }
def FnExactGarbageWrongFalsely : Prop := fnExactGarbageRow.holds Try.pinned (OpenSpec.ofChange fnExactGarbageWrong)

/- THE SECOND FORM. 'bulk': how many values and letters a reading holds, each counted each time it is reached (what is shared counts as often as it is met; a slice's spare places count too). A statement '..UptoSaid' is the law's where the arguments, and the package variables that the reading takes, are together of bulk at most 1048576: NARROWER than '..Said'. Prove '..Said' where nothing that the law and all that it calls make is longer than what came in: it says more and counts as full. Else prove '..UptoSaid'. A law counts once. -/
mutual
def uptoBulk {H : Type} : DataW H → Nat
  | .lit (.string bytes) => bytes.length + 1
  | .lit _ => 1
  | .nil => 1
  | .ptr d => uptoBulk d + 1
  | .slice elems spare => uptoBulkAll elems + uptoBulkAll spare + 1
  | .agg parts => uptoBulkAll parts + 1
  | .iface _ d => uptoBulk d + 1
  | .map entries => uptoBulkEntries entries + 1
  | .held _ => 1
def uptoBulkAll {H : Type} : List (DataW H) → Nat
  | [] => 0
  | d :: r => uptoBulk d + uptoBulkAll r
def uptoBulkEntries {H : Type} : List (Lit × DataW H) → Nat
  | [] => 0
  | x :: r => uptoBulkEntry x + uptoBulkEntries r
def uptoBulkEntry {H : Type} : Lit × DataW H → Nat
  | (.string bytes, d) => bytes.length + uptoBulk d + 1
  | (_, d) => uptoBulk d + 1
 end
def uptoSmall : (H : Type) → List (DataW H) → Bool := fun _ ds => decide (uptoBulkAll ds ≤ 1048576)
def OpenSpec.upto (s : _root_.Go.ChangeSpec) : _root_.Go.OpenSpec := { _root_.Go.OpenSpec.ofChange s with cond := some uptoSmall }

/-- 'laws.FnExactArenaPut', WHERE WHAT IT READS IS OF BULK AT MOST 1048576: true; the input reads as it did. -/
def fnExactArenaPutUptoRow : OpenClaim := { program := "ytglpfgachcoheaa", sum := "35085e0499d28c154111ba7dd887178efb96001002301693bcbca152b78f7a38", func := "loop.example/g01287/laws.FnExactArenaPut", spec := "fnExactArenaPut", unfollowed := true, recurses := true, apart := false, narrowed := true }
def FnExactArenaPutUptoSaid : Prop := fnExactArenaPutUptoRow.holds Try.pinned (OpenSpec.upto fnExactArenaPutSpec)

/-- 'laws.FnExactArenaFree', WHERE WHAT IT READS IS OF BULK AT MOST 1048576: true; the input reads as it did. -/
def fnExactArenaFreeUptoRow : OpenClaim := { program := "ytglpfgachcoheaa", sum := "35085e0499d28c154111ba7dd887178efb96001002301693bcbca152b78f7a38", func := "loop.example/g01287/laws.FnExactArenaFree", spec := "fnExactArenaFree", unfollowed := true, recurses := true, apart := false, narrowed := true }
def FnExactArenaFreeUptoSaid : Prop := fnExactArenaFreeUptoRow.holds Try.pinned (OpenSpec.upto fnExactArenaFreeSpec)

/-- 'laws.FnExactExpired', WHERE WHAT IT READS IS OF BULK AT MOST 1048576: true; the input reads as it did. -/
def fnExactExpiredUptoRow : OpenClaim := { program := "ytglpfgachcoheaa", sum := "35085e0499d28c154111ba7dd887178efb96001002301693bcbca152b78f7a38", func := "loop.example/g01287/laws.FnExactExpired", spec := "fnExactExpired", apart := false, narrowed := true }
def FnExactExpiredUptoSaid : Prop := fnExactExpiredUptoRow.holds Try.pinned (OpenSpec.upto fnExactExpiredSpec)

/-- 'laws.FnExactEdges', WHERE WHAT IT READS IS OF BULK AT MOST 1048576: true; the input reads as it did. -/
def fnExactEdgesUptoRow : OpenClaim := { program := "ytglpfgachcoheaa", sum := "35085e0499d28c154111ba7dd887178efb96001002301693bcbca152b78f7a38", func := "loop.example/g01287/laws.FnExactEdges", spec := "fnExactEdges", unfollowed := true, recurses := true, apart := false, narrowed := true }
def FnExactEdgesUptoSaid : Prop := fnExactEdgesUptoRow.holds Try.pinned (OpenSpec.upto fnExactEdgesSpec)

/-- 'laws.FnExactReach', WHERE WHAT IT READS IS OF BULK AT MOST 1048576: true; the input reads as it did. -/
def fnExactReachUptoRow : OpenClaim := { program := "ytglpfgachcoheaa", sum := "35085e0499d28c154111ba7dd887178efb96001002301693bcbca152b78f7a38", func := "loop.example/g01287/laws.FnExactReach", spec := "fnExactReach", unfollowed := true, recurses := true, apart := false, narrowed := true }
def FnExactReachUptoSaid : Prop := fnExactReachUptoRow.holds Try.pinned (OpenSpec.upto fnExactReachSpec)

/-- 'laws.FnExactGarbage', WHERE WHAT IT READS IS OF BULK AT MOST 1048576: true; the input reads as it did. -/
def fnExactGarbageUptoRow : OpenClaim := { program := "ytglpfgachcoheaa", sum := "35085e0499d28c154111ba7dd887178efb96001002301693bcbca152b78f7a38", func := "loop.example/g01287/laws.FnExactGarbage", spec := "fnExactGarbage", unfollowed := true, recurses := true, apart := false, narrowed := true }
def FnExactGarbageUptoSaid : Prop := fnExactGarbageUptoRow.holds Try.pinned (OpenSpec.upto fnExactGarbageSpec)

end Rows
end Go.Proofs.Ytglpfgachcoheaa
