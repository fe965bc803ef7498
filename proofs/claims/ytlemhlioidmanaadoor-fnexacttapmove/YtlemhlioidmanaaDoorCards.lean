/-
  DERIVED. GIVEN WITH THE SEED: THE CARDS: each row of YtlemhlioidmanaaDoorRows.lean that lists a variable, with what it lists TIED to the program's text (the seventh form; the later family's looks); each row that meets fmt, with fmt's text TOLD by the authors' own Lean function (tested against real Go, not proved from fmt's source: count such statements apart). THE CARD IS WHAT COUNTS. Prove the row's statement (the work); the ties are given (YtlemhlioidmanaaDoorTie.lean); close each card by the builder's one call (the guide's Derived/Test/ToyasCard.lean, 'card_holds'). Laid BY PROGRAM, IN A SANDBOX (cutbox-door.mjs). By AI agents, Wed Nov 11 2026. No macro, syntax, notation, axiom, sorry.
-/
import Derived.Test.YtlemhlioidmanaaDoorRows
import GoSem.ClaimSeven
namespace Go.Proofs.YtlemhlioidmanaaDoor
namespace Rows

/-- THE TIED CARD OF 'laws.FnExactTapMove'. -/
def fnExactTapMoveCard : Claim7 := { stood := { row := fnExactTapMoveRow, standIns := [], harness := (true, "d5c2ad76ccd69306158213704f97f901c11096eb289386937726d7ae05e383e8"), looks := true }, kinds := [], alts := [], laidByText := true, laidKinds := [.sentinel], laidTests := true, laidLooks := .later }
def FnExactTapMoveCardSaid : Prop := Claim7.holds Tryd.pinned (.plain (OpenSpec.ofChange fnExactTapMoveSpec)) fnExactTapMoveCard

/-- THE SECOND FORM's CARD OF 'laws.FnExactTapMove'. -/
def fnExactTapMoveUptoCard : Claim7 := { stood := { row := fnExactTapMoveUptoRow, standIns := [], harness := (true, "d5c2ad76ccd69306158213704f97f901c11096eb289386937726d7ae05e383e8"), looks := true }, kinds := [], alts := [], laidByText := true, laidKinds := [.sentinel], laidTests := true, laidLooks := .later }
def FnExactTapMoveUptoCardSaid : Prop := Claim7.holds Tryd.pinned (.plain (OpenSpec.upto fnExactTapMoveSpec)) fnExactTapMoveUptoCard
end Rows
end Go.Proofs.YtlemhlioidmanaaDoor
