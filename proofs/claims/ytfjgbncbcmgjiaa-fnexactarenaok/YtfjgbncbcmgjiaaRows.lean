/-
  No cell of these rows narrows 'for every input' (looked for: loops, veiled, ifaces, maps, wideKeys, modest, calm, conditions, laid).
  DERIVED. THE GIVEN ROWS OF THIS SEAT. 6 by the template 'for every input the law returns true; each argument reads behind the call as it read before'; 0 by the template 'total and deterministic' (their statements: YtfjgbncbcmgjiaaTotals.lean).
  GIVEN WITH THE SEED: the statements are not yours to turn. If you find one false, say at which input.
  Laid BY PROGRAM, IN A SANDBOX (cutbox-rows.mjs): the forced cells as the released guide's own fill.sh prints them over the translation 775fffce5bbe13b0… (all of the seat's roots in one cut). By AI agents, Wed Nov 11 2026. No macro, syntax, notation, axiom, sorry.
-/
import Derived.Test.YtfjgbncbcmgjiaaChecked
import GoSem.Claim
import GoSem.ClaimJoined
import GoSem.ClaimMapViews
import Derived.JoinedTies
import Derived.KernelRfl
namespace Go.Proofs.Ytfjgbncbcmgjiaa
/- THE CELL 'sum', in the pinned program and in every row, IS THE sha256 OF THE DUMP (.gsa) THAT YtfjgbncbcmgjiaaProg.lean LOADS. Nothing in Lean hashes anything: it is a label: what it is worth is what the hold of that sum in a sandbox is worth. -/
noncomputable def Try.pinned : Pinned := { name := "ytfjgbncbcmgjiaa", sum := "775fffce5bbe13b02c4374d6cae04e48b698d24e9105537f61aebf28ac4e4c4b", checked := Try.checked }
namespace Rows
def none {H : Type} : Left H := { results := [], args := [] }

/-- 'laws.FnExactHandleOf': WHATEVER THE INPUT: true; the input reads as it did. -/
def fnExactHandleOfSpec : ChangeSpec := { name := "fnExactHandleOf", fn := fun _ => fun
  | [d1, d2, d3] => { results := [.lit (.bool true)], args := [d1, d2, d3] }
  | _ => none }
def fnExactHandleOfRow : OpenClaim := { program := "ytfjgbncbcmgjiaa", sum := "775fffce5bbe13b02c4374d6cae04e48b698d24e9105537f61aebf28ac4e4c4b", func := "loop.example/g01287/laws.FnExactHandleOf", spec := "fnExactHandleOf", apart := false }
def FnExactHandleOfSaid : Prop := fnExactHandleOfRow.holds Try.pinned (OpenSpec.ofChange fnExactHandleOfSpec)

/-- ITS FALSE NEIGHBOUR: 'it returns false'. Refute it at one input. -/
def fnExactHandleOfWrong : ChangeSpec := { name := "fnExactHandleOf", fn := fun _ => fun
  | [d1, d2, d3] => { results := [.lit (.bool false)], args := [d1, d2, d3] }
  | _ => none }
def FnExactHandleOfWrongFalsely : Prop := fnExactHandleOfRow.holds Try.pinned (OpenSpec.ofChange fnExactHandleOfWrong)

/-- 'laws.FnExactHandlePart': WHATEVER THE INPUT: true; the input reads as it did. -/
def fnExactHandlePartSpec : ChangeSpec := { name := "fnExactHandlePart", fn := fun _ => fun
  | [d] => { results := [.lit (.bool true)], args := [d] }
  | _ => none }
def fnExactHandlePartRow : OpenClaim := { program := "ytfjgbncbcmgjiaa", sum := "775fffce5bbe13b02c4374d6cae04e48b698d24e9105537f61aebf28ac4e4c4b", func := "loop.example/g01287/laws.FnExactHandlePart", spec := "fnExactHandlePart", apart := false }
def FnExactHandlePartSaid : Prop := fnExactHandlePartRow.holds Try.pinned (OpenSpec.ofChange fnExactHandlePartSpec)

/-- ITS FALSE NEIGHBOUR: 'it returns false'. Refute it at one input. -/
def fnExactHandlePartWrong : ChangeSpec := { name := "fnExactHandlePart", fn := fun _ => fun
  | [d] => { results := [.lit (.bool false)], args := [d] }
  | _ => none }
def FnExactHandlePartWrongFalsely : Prop := fnExactHandlePartRow.holds Try.pinned (OpenSpec.ofChange fnExactHandlePartWrong)

/-- 'laws.FnExactHandleSlot': WHATEVER THE INPUT: true; the input reads as it did. -/
def fnExactHandleSlotSpec : ChangeSpec := { name := "fnExactHandleSlot", fn := fun _ => fun
  | [d] => { results := [.lit (.bool true)], args := [d] }
  | _ => none }
def fnExactHandleSlotRow : OpenClaim := { program := "ytfjgbncbcmgjiaa", sum := "775fffce5bbe13b02c4374d6cae04e48b698d24e9105537f61aebf28ac4e4c4b", func := "loop.example/g01287/laws.FnExactHandleSlot", spec := "fnExactHandleSlot", apart := false }
def FnExactHandleSlotSaid : Prop := fnExactHandleSlotRow.holds Try.pinned (OpenSpec.ofChange fnExactHandleSlotSpec)

/-- ITS FALSE NEIGHBOUR: 'it returns false'. Refute it at one input. -/
def fnExactHandleSlotWrong : ChangeSpec := { name := "fnExactHandleSlot", fn := fun _ => fun
  | [d] => { results := [.lit (.bool false)], args := [d] }
  | _ => none }
def FnExactHandleSlotWrongFalsely : Prop := fnExactHandleSlotRow.holds Try.pinned (OpenSpec.ofChange fnExactHandleSlotWrong)

/-- 'laws.FnExactHandleGen': WHATEVER THE INPUT: true; the input reads as it did. -/
def fnExactHandleGenSpec : ChangeSpec := { name := "fnExactHandleGen", fn := fun _ => fun
  | [d] => { results := [.lit (.bool true)], args := [d] }
  | _ => none }
def fnExactHandleGenRow : OpenClaim := { program := "ytfjgbncbcmgjiaa", sum := "775fffce5bbe13b02c4374d6cae04e48b698d24e9105537f61aebf28ac4e4c4b", func := "loop.example/g01287/laws.FnExactHandleGen", spec := "fnExactHandleGen", apart := false }
def FnExactHandleGenSaid : Prop := fnExactHandleGenRow.holds Try.pinned (OpenSpec.ofChange fnExactHandleGenSpec)

/-- ITS FALSE NEIGHBOUR: 'it returns false'. Refute it at one input. -/
def fnExactHandleGenWrong : ChangeSpec := { name := "fnExactHandleGen", fn := fun _ => fun
  | [d] => { results := [.lit (.bool false)], args := [d] }
  | _ => none }
def FnExactHandleGenWrongFalsely : Prop := fnExactHandleGenRow.holds Try.pinned (OpenSpec.ofChange fnExactHandleGenWrong)

/-- 'laws.FnExactObjOk': WHATEVER THE INPUT: true; the input reads as it did. -/
def fnExactObjOkSpec : ChangeSpec := { name := "fnExactObjOk", fn := fun _ => fun
  | [d] => { results := [.lit (.bool true)], args := [d] }
  | _ => none }
def fnExactObjOkRow : OpenClaim := { program := "ytfjgbncbcmgjiaa", sum := "775fffce5bbe13b02c4374d6cae04e48b698d24e9105537f61aebf28ac4e4c4b", func := "loop.example/g01287/laws.FnExactObjOk", spec := "fnExactObjOk", unfollowed := true, recurses := true, apart := false }
def FnExactObjOkSaid : Prop := fnExactObjOkRow.holds Try.pinned (OpenSpec.ofChange fnExactObjOkSpec)

/-- ITS FALSE NEIGHBOUR: 'it returns false'. Refute it at one input. -/
def fnExactObjOkWrong : ChangeSpec := { name := "fnExactObjOk", fn := fun _ => fun
  | [d] => { results := [.lit (.bool false)], args := [d] }
  | _ => none }
def FnExactObjOkWrongFalsely : Prop := fnExactObjOkRow.holds Try.pinned (OpenSpec.ofChange fnExactObjOkWrong)

/-- 'laws.FnExactArenaOk': WHATEVER THE INPUT: true; the input reads as it did. -/
def fnExactArenaOkSpec : ChangeSpec := { name := "fnExactArenaOk", fn := fun _ => fun
  | [d] => { results := [.lit (.bool true)], args := [d] }
  | _ => none }
def fnExactArenaOkRow : OpenClaim := { program := "ytfjgbncbcmgjiaa", sum := "775fffce5bbe13b02c4374d6cae04e48b698d24e9105537f61aebf28ac4e4c4b", func := "loop.example/g01287/laws.FnExactArenaOk", spec := "fnExactArenaOk", unfollowed := true, recurses := true, apart := false }
def FnExactArenaOkSaid : Prop := fnExactArenaOkRow.holds Try.pinned (OpenSpec.ofChange fnExactArenaOkSpec)

/-- ITS FALSE NEIGHBOUR: 'it returns false'. Refute it at one input. -/
def fnExactArenaOkWrong : ChangeSpec := { name := "fnExactArenaOk", fn := fun _ => fun
  | [d] => { results := [.lit (.bool false)], args := [d] }
  | _ => none }
def FnExactArenaOkWrongFalsely : Prop := fnExactArenaOkRow.holds Try.pinned (OpenSpec.ofChange fnExactArenaOkWrong)

/- THE SECOND FORM. 'bulk': how many values and letters a reading holds, each counted each time it is reached (what is shared counts as often as it is met; a slice's spare places count too). A statement '..UptoSaid' is the law's where the arguments, and the package variables that the reading takes, are together of bulk at most 1048576: NARROWER than '..Said'. Prove '..Said' where nothing that the law and all that it calls make is longer than what came in: it says more and counts as full. Else prove '..UptoSaid'. A law counts once. -/
mutual
def uptoBulk {H : Type} : DataW H → Nat
  | .lit (.string bytes) => bytes.length + 1
  | .lit _ => 1
  | .nil => 1
  | .ptr d => uptoBulk d + 1
  | .slice elems spare => uptoBulkAll elems + uptoBulkAll spare + 1
  | .agg parts => uptoBulkAll parts + 1
  | .iface _ d => uptoBulk d + 1
  | .map entries => uptoBulkEntries entries + 1
  | .held _ => 1
def uptoBulkAll {H : Type} : List (DataW H) → Nat
  | [] => 0
  | d :: r => uptoBulk d + uptoBulkAll r
def uptoBulkEntries {H : Type} : List (Lit × DataW H) → Nat
  | [] => 0
  | x :: r => uptoBulkEntry x + uptoBulkEntries r
def uptoBulkEntry {H : Type} : Lit × DataW H → Nat
  | (.string bytes, d) => bytes.length + uptoBulk d + 1
  | (_, d) => uptoBulk d + 1
 end
def uptoSmall : (H : Type) → List (DataW H) → Bool := fun _ ds => decide (uptoBulkAll ds ≤ 1048576)
def OpenSpec.upto (s : _root_.Go.ChangeSpec) : _root_.Go.OpenSpec := { _root_.Go.OpenSpec.ofChange s with cond := some uptoSmall }

/-- 'laws.FnExactHandleOf', WHERE WHAT IT READS IS OF BULK AT MOST 1048576: true; the input reads as it did. -/
def fnExactHandleOfUptoRow : OpenClaim := { program := "ytfjgbncbcmgjiaa", sum := "775fffce5bbe13b02c4374d6cae04e48b698d24e9105537f61aebf28ac4e4c4b", func := "loop.example/g01287/laws.FnExactHandleOf", spec := "fnExactHandleOf", apart := false, narrowed := true }
def FnExactHandleOfUptoSaid : Prop := fnExactHandleOfUptoRow.holds Try.pinned (OpenSpec.upto fnExactHandleOfSpec)

/-- 'laws.FnExactHandlePart', WHERE WHAT IT READS IS OF BULK AT MOST 1048576: true; the input reads as it did. -/
def fnExactHandlePartUptoRow : OpenClaim := { program := "ytfjgbncbcmgjiaa", sum := "775fffce5bbe13b02c4374d6cae04e48b698d24e9105537f61aebf28ac4e4c4b", func := "loop.example/g01287/laws.FnExactHandlePart", spec := "fnExactHandlePart", apart := false, narrowed := true }
def FnExactHandlePartUptoSaid : Prop := fnExactHandlePartUptoRow.holds Try.pinned (OpenSpec.upto fnExactHandlePartSpec)

/-- 'laws.FnExactHandleSlot', WHERE WHAT IT READS IS OF BULK AT MOST 1048576: true; the input reads as it did. -/
def fnExactHandleSlotUptoRow : OpenClaim := { program := "ytfjgbncbcmgjiaa", sum := "775fffce5bbe13b02c4374d6cae04e48b698d24e9105537f61aebf28ac4e4c4b", func := "loop.example/g01287/laws.FnExactHandleSlot", spec := "fnExactHandleSlot", apart := false, narrowed := true }
def FnExactHandleSlotUptoSaid : Prop := fnExactHandleSlotUptoRow.holds Try.pinned (OpenSpec.upto fnExactHandleSlotSpec)

/-- 'laws.FnExactHandleGen', WHERE WHAT IT READS IS OF BULK AT MOST 1048576: true; the input reads as it did. -/
def fnExactHandleGenUptoRow : OpenClaim := { program := "ytfjgbncbcmgjiaa", sum := "775fffce5bbe13b02c4374d6cae04e48b698d24e9105537f61aebf28ac4e4c4b", func := "loop.example/g01287/laws.FnExactHandleGen", spec := "fnExactHandleGen", apart := false, narrowed := true }
def FnExactHandleGenUptoSaid : Prop := fnExactHandleGenUptoRow.holds Try.pinned (OpenSpec.upto fnExactHandleGenSpec)

/-- 'laws.FnExactObjOk', WHERE WHAT IT READS IS OF BULK AT MOST 1048576: true; the input reads as it did. -/
def fnExactObjOkUptoRow : OpenClaim := { program := "ytfjgbncbcmgjiaa", sum := "775fffce5bbe13b02c4374d6cae04e48b698d24e9105537f61aebf28ac4e4c4b", func := "loop.example/g01287/laws.FnExactObjOk", spec := "fnExactObjOk", unfollowed := true, recurses := true, apart := false, narrowed := true }
def FnExactObjOkUptoSaid : Prop := fnExactObjOkUptoRow.holds Try.pinned (OpenSpec.upto fnExactObjOkSpec)

/-- 'laws.FnExactArenaOk', WHERE WHAT IT READS IS OF BULK AT MOST 1048576: true; the input reads as it did. -/
def fnExactArenaOkUptoRow : OpenClaim := { program := "ytfjgbncbcmgjiaa", sum := "775fffce5bbe13b02c4374d6cae04e48b698d24e9105537f61aebf28ac4e4c4b", func := "loop.example/g01287/laws.FnExactArenaOk", spec := "fnExactArenaOk", unfollowed := true, recurses := true, apart := false, narrowed := true }
def FnExactArenaOkUptoSaid : Prop := fnExactArenaOkUptoRow.holds Try.pinned (OpenSpec.upto fnExactArenaOkSpec)

end Rows
end Go.Proofs.Ytfjgbncbcmgjiaa
