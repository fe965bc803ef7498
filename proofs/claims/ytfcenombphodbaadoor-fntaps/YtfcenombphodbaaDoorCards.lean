/-
  DERIVED. GIVEN WITH THE SEED: THE CARDS: each row of YtfcenombphodbaaDoorRows.lean that lists a variable, with what it lists TIED to the program's text (the seventh form; the later family's looks); each row that meets fmt, with fmt's text TOLD by the authors' own Lean function (tested against real Go, not proved from fmt's source: count such statements apart). THE CARD IS WHAT COUNTS. Prove the row's statement (the work); the ties are given (YtfcenombphodbaaDoorTie.lean); close each card by the builder's one call (the guide's Derived/Test/ToyasCard.lean, 'card_holds'). Laid BY PROGRAM, IN A SANDBOX (cutbox-door.mjs). By AI agents, Wed Nov 11 2026. No macro, syntax, notation, axiom, sorry.
-/
import Derived.Test.YtfcenombphodbaaDoorRows
import GoSem.ClaimSeven
namespace Go.Proofs.YtfcenombphodbaaDoor
namespace Rows

/-- THE TIED CARD OF 'laws.FnTaps'. -/
def fnTapsCard : Claim7 := { stood := { row := fnTapsRow, standIns := [], harness := (true, "9c7e2cdc921dff315fc04d0b9c06e9c4f3e1146a9d47ec5c1b0138f28aac43bd"), looks := true }, kinds := [], alts := [], laidByText := true, laidKinds := [.sentinel], laidTests := true, laidLooks := .later }
def FnTapsCardSaid : Prop := Claim7.holds Tryd.pinned (.plain (OpenSpec.ofChange fnTapsSpec)) fnTapsCard

/-- THE SECOND FORM's CARD OF 'laws.FnTaps'. -/
def fnTapsUptoCard : Claim7 := { stood := { row := fnTapsUptoRow, standIns := [], harness := (true, "9c7e2cdc921dff315fc04d0b9c06e9c4f3e1146a9d47ec5c1b0138f28aac43bd"), looks := true }, kinds := [], alts := [], laidByText := true, laidKinds := [.sentinel], laidTests := true, laidLooks := .later }
def FnTapsUptoCardSaid : Prop := Claim7.holds Tryd.pinned (.plain (OpenSpec.upto fnTapsSpec)) fnTapsUptoCard
end Rows
end Go.Proofs.YtfcenombphodbaaDoor
