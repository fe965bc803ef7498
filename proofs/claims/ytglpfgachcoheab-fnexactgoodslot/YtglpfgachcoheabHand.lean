/-
  Handles: what the model answers.
-/
import Derived.Test.YtglpfgachcoheabBase8
namespace Go.Proofs.Ytglpfgachcoheab
open Go.RowKit
set_option linter.unusedVariables false
set_option maxRecDepth 100000

def isHandle (h : Int) : Bool := inB h 0 29999
def handleB (p s g : Int) : Bool := inB p 0 2 && (inB s 0 9 && inB g 0 999)
def handleOf (p s g : Int) : Int := if handleB p s g then (g * 10 + s) * 3 + p else -1
def handlePart (h : Int) : Int := if isHandle h then h % 3 else -1
def handleSlot (h : Int) : Int := if isHandle h then h / 3 % 10 else -1
def handleGen (h : Int) : Int := if isHandle h then h / 3 / 10 else -1
theorem specSlot_b (x : Int) (w : World) :
    Calls Try.prog 43 #[.int .i64 x] w fun e w' => e = .returned (.bool (inB x 0 9)) ∧ w = w' := by
  have C := fun w => l1In_b x 0 9 w
  generalize inB x 0 9 = o at C ⊢
  go_enter Try.func43, Try.ntmps43
  go_wp2_with fail
  refine (C _).mono ?_
  rintro e w' ⟨rfl, rfl⟩
  go_wp2
  go_ret
  exact ⟨rfl, rfl⟩
theorem specHandle_b (x : Int) (w : World) :
    Calls Try.prog 11 #[.int .i64 x] w fun e w' => e = .returned (.bool (isHandle x)) ∧ w = w' := by
  have C := fun w => l1In_b x 0 29999 w
  unfold isHandle
  generalize inB x 0 29999 = o at C ⊢
  go_enter Try.func11, Try.ntmps11
  go_wp2_with fail
  refine (C _).mono ?_
  rintro e w' ⟨rfl, rfl⟩
  go_wp2
  go_ret
  exact ⟨rfl, rfl⟩
theorem handle_up {p s g : Int} (h : handleB p s g = true) : (0 ≤ p ∧ p ≤ 2) ∧ (0 ≤ s ∧ s ≤ 9) ∧ (0 ≤ g ∧ g ≤ 999) := by
  unfold handleB at h
  simp only [Bool.and_eq_true] at h
  exact ⟨inB_true h.1, inB_true h.2.1, inB_true h.2.2⟩
theorem specHandlePart_any (h : Int) (w : World) :
    Calls Try.prog 12 #[.int .i64 h] w fun e w' => e = .returned (.int .i64 (handlePart h)) ∧ w = w' := by
  have C := fun w => specHandle_b h w
  cases hh : isHandle h with
  | false =>
    have e : handlePart h = -1 := by unfold handlePart; rw [hh]; rfl
    rw [e]
    rw [hh] at C
    clear e hh
    go_enter Try.func12, Try.ntmps12
    go_wp2_with fail
    refine (C _).mono ?_
    rintro e w1 ⟨rfl, rfl⟩
    go_wp2
    go_ret
    exact ⟨rfl, rfl⟩
  | true =>
    have e : handlePart h = h % 3 := by unfold handlePart; rw [hh]; rfl
    rw [e]
    have hb := inB_true hh
    obtain ⟨b0, b1⟩ := hb
    rw [hh] at C
    clear e hh
    go_enter Try.func12, Try.ntmps12
    go_wp2_with fail
    refine (C _).mono ?_
    rintro e w1 ⟨rfl, rfl⟩
    go_wp2
    go_ret
    exact ⟨rfl, rfl⟩
theorem specHandleSlot_any (h : Int) (w : World) :
    Calls Try.prog 13 #[.int .i64 h] w fun e w' => e = .returned (.int .i64 (handleSlot h)) ∧ w = w' := by
  have C := fun w => specHandle_b h w
  cases hh : isHandle h with
  | false =>
    have e : handleSlot h = -1 := by unfold handleSlot; rw [hh]; rfl
    rw [e]
    rw [hh] at C
    clear e hh
    go_enter Try.func13, Try.ntmps13
    go_wp2_with fail
    refine (C _).mono ?_
    rintro e w1 ⟨rfl, rfl⟩
    go_wp2
    go_ret
    exact ⟨rfl, rfl⟩
  | true =>
    have e : handleSlot h = h / 3 % 10 := by unfold handleSlot; rw [hh]; rfl
    rw [e]
    have hb := inB_true hh
    obtain ⟨b0, b1⟩ := hb
    rw [hh] at C
    clear e hh
    go_enter Try.func13, Try.ntmps13
    go_wp2_with fail
    refine (C _).mono ?_
    rintro e w1 ⟨rfl, rfl⟩
    go_wp2
    go_ret
    exact ⟨rfl, rfl⟩
theorem specHandleGen_any (h : Int) (w : World) :
    Calls Try.prog 14 #[.int .i64 h] w fun e w' => e = .returned (.int .i64 (handleGen h)) ∧ w = w' := by
  have C := fun w => specHandle_b h w
  cases hh : isHandle h with
  | false =>
    have e : handleGen h = -1 := by unfold handleGen; rw [hh]; rfl
    rw [e]
    rw [hh] at C
    clear e hh
    go_enter Try.func14, Try.ntmps14
    go_wp2_with fail
    refine (C _).mono ?_
    rintro e w1 ⟨rfl, rfl⟩
    go_wp2
    go_ret
    exact ⟨rfl, rfl⟩
  | true =>
    have e : handleGen h = h / 3 / 10 := by unfold handleGen; rw [hh]; rfl
    rw [e]
    have hb := inB_true hh
    obtain ⟨b0, b1⟩ := hb
    rw [hh] at C
    clear e hh
    go_enter Try.func14, Try.ntmps14
    go_wp2_with fail
    refine (C _).mono ?_
    rintro e w1 ⟨rfl, rfl⟩
    go_wp2
    go_ret
    exact ⟨rfl, rfl⟩
end Go.Proofs.Ytglpfgachcoheab
