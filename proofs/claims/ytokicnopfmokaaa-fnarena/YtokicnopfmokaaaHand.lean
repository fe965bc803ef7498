/-
  Handles: what the model answers.
-/
import Derived.Test.YtokicnopfmokaaaBase8
namespace Go.Proofs.Ytokicnopfmokaaa
open Go.RowKit
set_option linter.unusedVariables false
set_option maxRecDepth 100000

def isHandle (h : Int) : Bool := inB h 0 29999
def handleB (p s g : Int) : Bool := inB p 0 2 && (inB s 0 9 && inB g 0 999)
def handleOf (p s g : Int) : Int := if handleB p s g then (g * 10 + s) * 3 + p else -1
def handlePart (h : Int) : Int := if isHandle h then h % 3 else -1
def handleSlot (h : Int) : Int := if isHandle h then h / 3 % 10 else -1
def handleGen (h : Int) : Int := if isHandle h then h / 3 / 10 else -1
theorem specSlot_b (x : Int) (w : World) :
    Calls Try.prog 35 #[.int .i64 x] w fun e w' => e = .returned (.bool (inB x 0 9)) ∧ w = w' := by
  have C := fun w => l1In_b x 0 9 w
  generalize inB x 0 9 = o at C ⊢
  go_enter Try.func35, Try.ntmps35
  go_wp2_with fail
  refine (C _).mono ?_
  rintro e w' ⟨rfl, rfl⟩
  go_wp2
  go_ret
  exact ⟨rfl, rfl⟩
theorem specHandle_b (x : Int) (w : World) :
    Calls Try.prog 46 #[.int .i64 x] w fun e w' => e = .returned (.bool (isHandle x)) ∧ w = w' := by
  have C := fun w => l1In_b x 0 29999 w
  unfold isHandle
  generalize inB x 0 29999 = o at C ⊢
  go_enter Try.func46, Try.ntmps46
  go_wp2_with fail
  refine (C _).mono ?_
  rintro e w' ⟨rfl, rfl⟩
  go_wp2
  go_ret
  exact ⟨rfl, rfl⟩
theorem handle_up {p s g : Int} (h : handleB p s g = true) : (0 ≤ p ∧ p ≤ 2) ∧ (0 ≤ s ∧ s ≤ 9) ∧ (0 ≤ g ∧ g ≤ 999) := by
  unfold handleB at h
  simp only [Bool.and_eq_true] at h
  exact ⟨inB_true h.1, inB_true h.2.1, inB_true h.2.2⟩
set_option maxHeartbeats 400000 in
theorem specHandleOf_any (p s g : Int) (w : World) :
    Calls Try.prog 13 #[.int .i64 p, .int .i64 s, .int .i64 g] w fun e w' => e = .returned (.int .i64 (handleOf p s g)) ∧ w = w' := by
  have C0 := fun w => l1In_b p 0 2 w
  have C1 := fun w => specSlot_b s w
  have C2 := fun w => l1In_b g 0 999 w
  cases h0 : inB p 0 2 with
  | false =>
    have e : handleOf p s g = -1 := by unfold handleOf handleB; rw [h0]; rfl
    rw [e]
    rw [h0] at C0
    clear e h0 C1 C2
    go_enter Try.func13, Try.ntmps13
    go_wp2_with fail
    refine (C0 _).mono ?_
    rintro e w1 ⟨rfl, rfl⟩
    go_wp2
    go_ret
    exact ⟨rfl, rfl⟩
  | true =>
    cases h1 : inB s 0 9 with
    | false =>
      have e : handleOf p s g = -1 := by unfold handleOf handleB; rw [h0, h1]; rfl
      rw [e]
      rw [h0] at C0
      rw [h1] at C1
      clear e h0 h1 C2
      go_enter Try.func13, Try.ntmps13
      go_wp2_with fail
      refine (C0 _).mono ?_
      rintro e w1 ⟨rfl, rfl⟩
      go_wp2_with fail
      refine (C1 _).mono ?_
      rintro e w1 ⟨rfl, rfl⟩
      go_wp2
      go_ret
      exact ⟨rfl, rfl⟩
    | true =>
      cases h2 : inB g 0 999 with
      | false =>
        have e : handleOf p s g = -1 := by unfold handleOf handleB; rw [h0, h1, h2]; rfl
        rw [e]
        rw [h0] at C0
        rw [h1] at C1
        rw [h2] at C2
        clear e h0 h1 h2
        go_enter Try.func13, Try.ntmps13
        go_wp2_with fail
        refine (C0 _).mono ?_
        rintro e w1 ⟨rfl, rfl⟩
        go_wp2_with fail
        refine (C1 _).mono ?_
        rintro e w1 ⟨rfl, rfl⟩
        go_wp2_with fail
        refine (C2 _).mono ?_
        rintro e w1 ⟨rfl, rfl⟩
        go_wp2
        go_ret
        exact ⟨rfl, rfl⟩
      | true =>
        have e : handleOf p s g = (g * 10 + s) * 3 + p := by unfold handleOf handleB; rw [h0, h1, h2]; rfl
        rw [e]
        obtain ⟨b0, b1⟩ := inB_true h0
        obtain ⟨b2, b3⟩ := inB_true h1
        obtain ⟨b4, b5⟩ := inB_true h2
        rw [h0] at C0
        rw [h1] at C1
        rw [h2] at C2
        clear e h0 h1 h2
        go_enter Try.func13, Try.ntmps13
        go_wp2_with fail
        refine (C0 _).mono ?_
        rintro e w1 ⟨rfl, rfl⟩
        go_wp2_with fail
        refine (C1 _).mono ?_
        rintro e w1 ⟨rfl, rfl⟩
        go_wp2_with fail
        refine (C2 _).mono ?_
        rintro e w1 ⟨rfl, rfl⟩
        go_wp2
        go_ret
        exact ⟨rfl, rfl⟩
end Go.Proofs.Ytokicnopfmokaaa
