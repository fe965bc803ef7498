/-
  No cell of these rows narrows 'for every input' (looked for: loops, veiled, ifaces, maps, wideKeys, modest, calm, conditions, laid).
  DERIVED. THE GIVEN ROWS OF THIS SEAT. 4 by the template 'for every input the law returns true; each argument reads behind the call as it read before'; 0 by the template 'total and deterministic' (their statements: YtbdljoldblpffaaGreatTotals.lean).
  GIVEN WITH THE SEED: the statements are not yours to turn. If you find one false, say at which input.
  Laid BY PROGRAM, IN A SANDBOX (cutbox-rows.mjs): the forced cells as the released guide's own fill.sh prints them over the translation 16997ea907177808… (all of the seat's roots in one cut). By AI agents, Wed Nov 11 2026. No macro, syntax, notation, axiom, sorry.
-/
import Derived.Test.YtbdljoldblpffaaGreatChecked
import GoSem.Claim
import GoSem.ClaimJoined
import GoSem.ClaimMapViews
import Derived.JoinedTies
import Derived.KernelRfl
namespace Go.Proofs.YtbdljoldblpffaaGreat
/- THE CELL 'sum', in the pinned program and in every row, IS THE sha256 OF THE DUMP (.gsa) THAT YtbdljoldblpffaaGreatProg.lean LOADS. Nothing in Lean hashes anything: it is a label: what it is worth is what the hold of that sum in a sandbox is worth. -/
noncomputable def Tryz.pinned : Pinned := { name := "ytbdljoldblpffaagreat", sum := "16997ea90717780831faff24223466bc1873f3441f0b75210c56607323eb8aa5", checked := Tryz.checked }
namespace Rows
def none {H : Type} : Left H := { results := [], args := [] }

/-- 'laws.FnExactGcShade': WHATEVER THE INPUT: true; the input reads as it did. -/
def fnExactGcShadeSpec : ChangeSpec := { name := "fnExactGcShade", fn := fun _ => fun
  | [d1, d2] => { results := [.lit (.bool true)], args := [d1, d2] }
  | _ => none }
def fnExactGcShadeRow : OpenClaim := { program := "ytbdljoldblpffaagreat", sum := "16997ea90717780831faff24223466bc1873f3441f0b75210c56607323eb8aa5", func := "loop.example/g01287/laws.FnExactGcShade", spec := "fnExactGcShade", unfollowed := true, recurses := true, apart := false }
def FnExactGcShadeSaid : Prop := fnExactGcShadeRow.holds Tryz.pinned (OpenSpec.ofChange fnExactGcShadeSpec)

/-- ITS FALSE NEIGHBOUR: 'it returns false'. Refute it at one input. -/
def fnExactGcShadeWrong : ChangeSpec := { name := "fnExactGcShade", fn := fun _ => fun
  | [d1, d2] => { results := [.lit (.bool false)], args := [d1, d2] }
  | _ => none }
def FnExactGcShadeWrongFalsely : Prop := fnExactGcShadeRow.holds Tryz.pinned (OpenSpec.ofChange fnExactGcShadeWrong)

/-- 'laws.FnExactGcBorn': WHATEVER THE INPUT: true; the input reads as it did. -/
def fnExactGcBornSpec : ChangeSpec := { name := "fnExactGcBorn", fn := fun _ => fun
  | [d1, d2] => { results := [.lit (.bool true)], args := [d1, d2] }
  | _ => none }
def fnExactGcBornRow : OpenClaim := { program := "ytbdljoldblpffaagreat", sum := "16997ea90717780831faff24223466bc1873f3441f0b75210c56607323eb8aa5", func := "loop.example/g01287/laws.FnExactGcBorn", spec := "fnExactGcBorn", unfollowed := true, recurses := true, apart := false }
def FnExactGcBornSaid : Prop := fnExactGcBornRow.holds Tryz.pinned (OpenSpec.ofChange fnExactGcBornSpec)

/-- ITS FALSE NEIGHBOUR: 'it returns false'. Refute it at one input. -/
def fnExactGcBornWrong : ChangeSpec := { name := "fnExactGcBorn", fn := fun _ => fun
  | [d1, d2] => { results := [.lit (.bool false)], args := [d1, d2] }
  | _ => none }
def FnExactGcBornWrongFalsely : Prop := fnExactGcBornRow.holds Tryz.pinned (OpenSpec.ofChange fnExactGcBornWrong)

/-- 'laws.FnExactGcStep': WHATEVER THE INPUT: true; the input reads as it did. -/
def fnExactGcStepSpec : ChangeSpec := { name := "fnExactGcStep", fn := fun _ => fun
  | [d1, d2] => { results := [.lit (.bool true)], args := [d1, d2] }
  | _ => none }
def fnExactGcStepRow : OpenClaim := { program := "ytbdljoldblpffaagreat", sum := "16997ea90717780831faff24223466bc1873f3441f0b75210c56607323eb8aa5", func := "loop.example/g01287/laws.FnExactGcStep", spec := "fnExactGcStep", unfollowed := true, recurses := true, apart := false }
def FnExactGcStepSaid : Prop := fnExactGcStepRow.holds Tryz.pinned (OpenSpec.ofChange fnExactGcStepSpec)

/-- ITS FALSE NEIGHBOUR: 'it returns false'. Refute it at one input. -/
def fnExactGcStepWrong : ChangeSpec := { name := "fnExactGcStep", fn := fun _ => fun
  | [d1, d2] => { results := [.lit (.bool false)], args := [d1, d2] }
  | _ => none }
def FnExactGcStepWrongFalsely : Prop := fnExactGcStepRow.holds Tryz.pinned (OpenSpec.ofChange fnExactGcStepWrong)

/-- 'laws.FnExactGcSafe': WHATEVER THE INPUT: true; the input reads as it did. -/
def fnExactGcSafeSpec : ChangeSpec := { name := "fnExactGcSafe", fn := fun _ => fun
  | [d1, d2] => { results := [.lit (.bool true)], args := [d1, d2] }
  | _ => none }
def fnExactGcSafeRow : OpenClaim := { program := "ytbdljoldblpffaagreat", sum := "16997ea90717780831faff24223466bc1873f3441f0b75210c56607323eb8aa5", func := "loop.example/g01287/laws.FnExactGcSafe", spec := "fnExactGcSafe", unfollowed := true, recurses := true, apart := false }
def FnExactGcSafeSaid : Prop := fnExactGcSafeRow.holds Tryz.pinned (OpenSpec.ofChange fnExactGcSafeSpec)

/-- ITS FALSE NEIGHBOUR: 'it returns false'. Refute it at one input. -/
def fnExactGcSafeWrong : ChangeSpec := { name := "fnExactGcSafe", fn := fun _ => fun
  | [d1, d2] => { results := [.lit (.bool false)], args := [d1, d2] }
  | _ => none }
def FnExactGcSafeWrongFalsely : Prop := fnExactGcSafeRow.holds Tryz.pinned (OpenSpec.ofChange fnExactGcSafeWrong)

/- THE SECOND FORM. 'bulk': how many values and letters a reading holds, each counted each time it is reached (what is shared counts as often as it is met; a slice's spare places count too). A statement '..UptoSaid' is the law's where the arguments, and the package variables that the reading takes, are together of bulk at most 1048576: NARROWER than '..Said'. Prove '..Said' where nothing that the law and all that it calls make is longer than what came in: it says more and counts as full. Else prove '..UptoSaid'. A law counts once. -/
mutual
def uptoBulk {H : Type} : DataW H → Nat
  | .lit (.string bytes) => bytes.length + 1
  | .lit _ => 1
  | .nil => 1
  | .ptr d => uptoBulk d + 1
  | .slice elems spare => uptoBulkAll elems + uptoBulkAll spare + 1
  | .agg parts => uptoBulkAll parts + 1
  | .iface _ d => uptoBulk d + 1
  | .map entries => uptoBulkEntries entries + 1
  | .held _ => 1
def uptoBulkAll {H : Type} : List (DataW H) → Nat
  | [] => 0
  | d :: r => uptoBulk d + uptoBulkAll r
def uptoBulkEntries {H : Type} : List (Lit × DataW H) → Nat
  | [] => 0
  | x :: r => uptoBulkEntry x + uptoBulkEntries r
def uptoBulkEntry {H : Type} : Lit × DataW H → Nat
  | (.string bytes, d) => bytes.length + uptoBulk d + 1
  | (_, d) => uptoBulk d + 1
 end
def uptoSmall : (H : Type) → List (DataW H) → Bool := fun _ ds => decide (uptoBulkAll ds ≤ 1048576)
def OpenSpec.upto (s : _root_.Go.ChangeSpec) : _root_.Go.OpenSpec := { _root_.Go.OpenSpec.ofChange s with cond := some uptoSmall }

/-- 'laws.FnExactGcShade', WHERE WHAT IT READS IS OF BULK AT MOST 1048576: true; the input reads as it did. -/
def fnExactGcShadeUptoRow : OpenClaim := { program := "ytbdljoldblpffaagreat", sum := "16997ea90717780831faff24223466bc1873f3441f0b75210c56607323eb8aa5", func := "loop.example/g01287/laws.FnExactGcShade", spec := "fnExactGcShade", unfollowed := true, recurses := true, apart := false, narrowed := true }
def FnExactGcShadeUptoSaid : Prop := fnExactGcShadeUptoRow.holds Tryz.pinned (OpenSpec.upto fnExactGcShadeSpec)

/-- 'laws.FnExactGcBorn', WHERE WHAT IT READS IS OF BULK AT MOST 1048576: true; the input reads as it did. -/
def fnExactGcBornUptoRow : OpenClaim := { program := "ytbdljoldblpffaagreat", sum := "16997ea90717780831faff24223466bc1873f3441f0b75210c56607323eb8aa5", func := "loop.example/g01287/laws.FnExactGcBorn", spec := "fnExactGcBorn", unfollowed := true, recurses := true, apart := false, narrowed := true }
def FnExactGcBornUptoSaid : Prop := fnExactGcBornUptoRow.holds Tryz.pinned (OpenSpec.upto fnExactGcBornSpec)

/-- 'laws.FnExactGcStep', WHERE WHAT IT READS IS OF BULK AT MOST 1048576: true; the input reads as it did. -/
def fnExactGcStepUptoRow : OpenClaim := { program := "ytbdljoldblpffaagreat", sum := "16997ea90717780831faff24223466bc1873f3441f0b75210c56607323eb8aa5", func := "loop.example/g01287/laws.FnExactGcStep", spec := "fnExactGcStep", unfollowed := true, recurses := true, apart := false, narrowed := true }
def FnExactGcStepUptoSaid : Prop := fnExactGcStepUptoRow.holds Tryz.pinned (OpenSpec.upto fnExactGcStepSpec)

/-- 'laws.FnExactGcSafe', WHERE WHAT IT READS IS OF BULK AT MOST 1048576: true; the input reads as it did. -/
def fnExactGcSafeUptoRow : OpenClaim := { program := "ytbdljoldblpffaagreat", sum := "16997ea90717780831faff24223466bc1873f3441f0b75210c56607323eb8aa5", func := "loop.example/g01287/laws.FnExactGcSafe", spec := "fnExactGcSafe", unfollowed := true, recurses := true, apart := false, narrowed := true }
def FnExactGcSafeUptoSaid : Prop := fnExactGcSafeUptoRow.holds Tryz.pinned (OpenSpec.upto fnExactGcSafeSpec)

end Rows
end Go.Proofs.YtbdljoldblpffaaGreat
