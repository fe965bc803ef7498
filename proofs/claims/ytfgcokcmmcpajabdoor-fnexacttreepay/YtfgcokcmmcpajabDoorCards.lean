/-
  DERIVED. GIVEN WITH THE SEED: THE CARDS: each row of YtfgcokcmmcpajabDoorRows.lean that lists a variable, with what it lists TIED to the program's text (the seventh form; the later family's looks); each row that meets fmt, with fmt's text TOLD by the authors' own Lean function (tested against real Go, not proved from fmt's source: count such statements apart). THE CARD IS WHAT COUNTS. Prove the row's statement (the work); the ties are given (YtfgcokcmmcpajabDoorTie.lean); close each card by the builder's one call (the guide's Derived/Test/ToyasCard.lean, 'card_holds'). Laid BY PROGRAM, IN A SANDBOX (cutbox-door.mjs). By AI agents, Wed Nov 11 2026. No macro, syntax, notation, axiom, sorry.
-/
import Derived.Test.YtfgcokcmmcpajabDoorRows
import GoSem.ClaimSeven
namespace Go.Proofs.YtfgcokcmmcpajabDoor
namespace Rows

/-- THE TIED CARD OF 'laws.FnExactTreePay'. -/
def fnExactTreePayCard : Claim7 := { stood := { row := fnExactTreePayRow, standIns := [], harness := (true, "700d67587ad99bbc1e66a647b82f173407ff72500d1f9ce7344fe9d941396e5b"), looks := true }, kinds := [], alts := [], laidByText := true, laidKinds := [.sentinel], laidTests := true, laidLooks := .later }
def FnExactTreePayCardSaid : Prop := Claim7.holds Tryd.pinned (.plain (OpenSpec.ofChange fnExactTreePaySpec)) fnExactTreePayCard

/-- THE SECOND FORM's CARD OF 'laws.FnExactTreePay'. -/
def fnExactTreePayUptoCard : Claim7 := { stood := { row := fnExactTreePayUptoRow, standIns := [], harness := (true, "700d67587ad99bbc1e66a647b82f173407ff72500d1f9ce7344fe9d941396e5b"), looks := true }, kinds := [], alts := [], laidByText := true, laidKinds := [.sentinel], laidTests := true, laidLooks := .later }
def FnExactTreePayUptoCardSaid : Prop := Claim7.holds Tryd.pinned (.plain (OpenSpec.upto fnExactTreePaySpec)) fnExactTreePayUptoCard
end Rows
end Go.Proofs.YtfgcokcmmcpajabDoor
