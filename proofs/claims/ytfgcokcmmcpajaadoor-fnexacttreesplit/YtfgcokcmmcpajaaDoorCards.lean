/-
  DERIVED. GIVEN WITH THE SEED: THE CARDS: each row of YtfgcokcmmcpajaaDoorRows.lean that lists a variable, with what it lists TIED to the program's text (the seventh form; the later family's looks); each row that meets fmt, with fmt's text TOLD by the authors' own Lean function (tested against real Go, not proved from fmt's source: count such statements apart). THE CARD IS WHAT COUNTS. Prove the row's statement (the work); the ties are given (YtfgcokcmmcpajaaDoorTie.lean); close each card by the builder's one call (the guide's Derived/Test/ToyasCard.lean, 'card_holds'). Laid BY PROGRAM, IN A SANDBOX (cutbox-door.mjs). By AI agents, Wed Nov 11 2026. No macro, syntax, notation, axiom, sorry.
-/
import Derived.Test.YtfgcokcmmcpajaaDoorRows
import GoSem.ClaimSeven
namespace Go.Proofs.YtfgcokcmmcpajaaDoor
namespace Rows

/-- THE TIED CARD OF 'laws.FnTree'. -/
def fnTreeCard : Claim7 := { stood := { row := fnTreeRow, standIns := [], harness := (true, "0152fe8d64c8875bf6d6660bc919c977c5a7c05b47a4f83e71a34f65f18b9ca3"), looks := true }, kinds := [], alts := [], laidByText := true, laidKinds := [.sentinel], laidTests := true, laidLooks := .later }
def FnTreeCardSaid : Prop := Claim7.holds Tryd.pinned (.plain (OpenSpec.ofChange fnTreeSpec)) fnTreeCard

/-- THE TIED CARD OF 'laws.FnExactTreeSplit'. -/
def fnExactTreeSplitCard : Claim7 := { stood := { row := fnExactTreeSplitRow, standIns := [], harness := (true, "0152fe8d64c8875bf6d6660bc919c977c5a7c05b47a4f83e71a34f65f18b9ca3"), looks := true }, kinds := [], alts := [], laidByText := true, laidKinds := [.sentinel], laidTests := true, laidLooks := .later }
def FnExactTreeSplitCardSaid : Prop := Claim7.holds Tryd.pinned (.plain (OpenSpec.ofChange fnExactTreeSplitSpec)) fnExactTreeSplitCard

/-- THE TIED CARD OF 'laws.FnExactTreeGive'. -/
def fnExactTreeGiveCard : Claim7 := { stood := { row := fnExactTreeGiveRow, standIns := [], harness := (true, "0152fe8d64c8875bf6d6660bc919c977c5a7c05b47a4f83e71a34f65f18b9ca3"), looks := true }, kinds := [], alts := [], laidByText := true, laidKinds := [.sentinel], laidTests := true, laidLooks := .later }
def FnExactTreeGiveCardSaid : Prop := Claim7.holds Tryd.pinned (.plain (OpenSpec.ofChange fnExactTreeGiveSpec)) fnExactTreeGiveCard

/-- THE SECOND FORM's CARD OF 'laws.FnTree'. -/
def fnTreeUptoCard : Claim7 := { stood := { row := fnTreeUptoRow, standIns := [], harness := (true, "0152fe8d64c8875bf6d6660bc919c977c5a7c05b47a4f83e71a34f65f18b9ca3"), looks := true }, kinds := [], alts := [], laidByText := true, laidKinds := [.sentinel], laidTests := true, laidLooks := .later }
def FnTreeUptoCardSaid : Prop := Claim7.holds Tryd.pinned (.plain (OpenSpec.upto fnTreeSpec)) fnTreeUptoCard

/-- THE SECOND FORM's CARD OF 'laws.FnExactTreeSplit'. -/
def fnExactTreeSplitUptoCard : Claim7 := { stood := { row := fnExactTreeSplitUptoRow, standIns := [], harness := (true, "0152fe8d64c8875bf6d6660bc919c977c5a7c05b47a4f83e71a34f65f18b9ca3"), looks := true }, kinds := [], alts := [], laidByText := true, laidKinds := [.sentinel], laidTests := true, laidLooks := .later }
def FnExactTreeSplitUptoCardSaid : Prop := Claim7.holds Tryd.pinned (.plain (OpenSpec.upto fnExactTreeSplitSpec)) fnExactTreeSplitUptoCard

/-- THE SECOND FORM's CARD OF 'laws.FnExactTreeGive'. -/
def fnExactTreeGiveUptoCard : Claim7 := { stood := { row := fnExactTreeGiveUptoRow, standIns := [], harness := (true, "0152fe8d64c8875bf6d6660bc919c977c5a7c05b47a4f83e71a34f65f18b9ca3"), looks := true }, kinds := [], alts := [], laidByText := true, laidKinds := [.sentinel], laidTests := true, laidLooks := .later }
def FnExactTreeGiveUptoCardSaid : Prop := Claim7.holds Tryd.pinned (.plain (OpenSpec.upto fnExactTreeGiveSpec)) fnExactTreeGiveUptoCard
end Rows
end Go.Proofs.YtfgcokcmmcpajaaDoor
