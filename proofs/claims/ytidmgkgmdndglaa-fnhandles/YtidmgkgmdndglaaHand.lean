/-
  Handles: what the model answers.
-/
import Derived.Test.YtidmgkgmdndglaaBase8
namespace Go.Proofs.Ytidmgkgmdndglaa
open Go.RowKit
set_option linter.unusedVariables false

def isHandle (h : Int) : Bool := inB h 0 29999
def handleB (p s g : Int) : Bool := inB p 0 2 && (inB s 0 9 && inB g 0 999)
def handleOf (p s g : Int) : Int := if handleB p s g then (g * 10 + s) * 3 + p else -1
def handlePart (h : Int) : Int := if isHandle h then h % 3 else -1
def handleSlot (h : Int) : Int := if isHandle h then h / 3 % 10 else -1
def handleGen (h : Int) : Int := if isHandle h then h / 3 / 10 else -1
theorem handle_up {p s g : Int} (h : handleB p s g = true) : (0 ≤ p ∧ p ≤ 2) ∧ (0 ≤ s ∧ s ≤ 9) ∧ (0 ≤ g ∧ g ≤ 999) := by
  unfold handleB at h
  simp only [Bool.and_eq_true] at h
  exact ⟨inB_true h.1, inB_true h.2.1, inB_true h.2.2⟩
end Go.Proofs.Ytidmgkgmdndglaa
