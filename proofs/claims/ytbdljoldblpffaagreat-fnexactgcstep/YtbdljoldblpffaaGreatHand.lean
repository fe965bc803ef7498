/-
  Handles: what the model answers.
-/
import Derived.Test.YtbdljoldblpffaaGreatBase8
namespace Go.Proofs.YtbdljoldblpffaaGreat
open Go.RowKit
set_option linter.unusedVariables false
set_option maxRecDepth 100000

def isHandle (h : Int) : Bool := inB h 0 29999
def handleB (p s g : Int) : Bool := inB p 0 2 && (inB s 0 9 && inB g 0 999)
def handleOf (p s g : Int) : Int := if handleB p s g then (g * 10 + s) * 3 + p else -1
def handlePart (h : Int) : Int := if isHandle h then h % 3 else -1
def handleSlot (h : Int) : Int := if isHandle h then h / 3 % 10 else -1
def handleGen (h : Int) : Int := if isHandle h then h / 3 / 10 else -1
theorem specSlot_b (x : Int) (w : World) :
    Calls Tryz.prog 24 #[.int .i64 x] w fun e w' => e = .returned (.bool (inB x 0 9)) ∧ w = w' := by
  have C := fun w => l1In_b x 0 9 w
  generalize inB x 0 9 = o at C ⊢
  go_enter Tryz.func24, Tryz.ntmps24
  go_wp2_with fail
  refine (C _).mono ?_
  rintro e w' ⟨rfl, rfl⟩
  go_wp2
  go_ret
  exact ⟨rfl, rfl⟩
theorem specHandle_b (x : Int) (w : World) :
    Calls Tryz.prog 95 #[.int .i64 x] w fun e w' => e = .returned (.bool (isHandle x)) ∧ w = w' := by
  have C := fun w => l1In_b x 0 29999 w
  unfold isHandle
  generalize inB x 0 29999 = o at C ⊢
  go_enter Tryz.func95, Tryz.ntmps95
  go_wp2_with fail
  refine (C _).mono ?_
  rintro e w' ⟨rfl, rfl⟩
  go_wp2
  go_ret
  exact ⟨rfl, rfl⟩
theorem handle_up {p s g : Int} (h : handleB p s g = true) : (0 ≤ p ∧ p ≤ 2) ∧ (0 ≤ s ∧ s ≤ 9) ∧ (0 ≤ g ∧ g ≤ 999) := by
  unfold handleB at h
  simp only [Bool.and_eq_true] at h
  exact ⟨inB_true h.1, inB_true h.2.1, inB_true h.2.2⟩
end Go.Proofs.YtbdljoldblpffaaGreat
