/-
  Amounts: one number of an amount, both sides.
-/
import Derived.Test.YtlemhlioidmanaaDoorSub
namespace Go.Proofs.YtlemhlioidmanaaDoor
open Go.RowKit
set_option linter.unusedVariables false
set_option maxRecDepth 100000

/-- Is a number within bounds? -/
def inB (x lo hi : Int) : Bool := decide (lo ≤ x) && decide (x ≤ hi)
theorem inB_yes {x lo hi : Int} (h0 : lo ≤ x) (h1 : x ≤ hi) : inB x lo hi = true := by unfold inB; simp; omega
theorem inB_no {x lo hi : Int} (h : x < lo ∨ hi < x) : inB x lo hi = false := by unfold inB; simp; omega
theorem inB_true {x lo hi : Int} (h : inB x lo hi = true) : lo ≤ x ∧ x ≤ hi := by unfold inB at h; simpa using h
/-- What AmtOne answers. -/
def oneA (k n : Int) : Int := if k = 0 then n else 0
def oneB (k n : Int) : Int := if k = 1 then n else 0
def oneC (k n : Int) : Int := if k = 2 then n else 0
/-- What AmtPart answers. -/
def partOf (k a b c : Int) : Int := if k = 0 then a else if k = 1 then b else if k = 2 then c else 0
theorem l1In_b (x lo hi : Int) (w : World) :
    Calls Tryd.prog 16 #[.int .i64 x, .int .i64 lo, .int .i64 hi] w fun e w' => e = .returned (.bool (inB x lo hi)) ∧ w = w' := l1In_any x lo hi w
theorem isRes_b (k : Int) (w : World) :
    Calls Tryd.prog 51 #[.int .i64 k] w fun r w' => r = .returned (.bool (inB k 0 2)) ∧ w = w' := by
  by_cases h1 : 0 ≤ k
  · by_cases h2 : k < 3
    · rw [inB_yes h1 (by omega)]
      go_enter Tryd.func51, Tryd.ntmps51
      go_wp2
      go_ret
      exact ⟨by simp, rfl⟩
    · rw [inB_no (by omega)]
      go_enter Tryd.func51, Tryd.ntmps51
      go_wp2
      go_ret
      exact ⟨by simp, rfl⟩
  · rw [inB_no (by omega)]
    go_enter Tryd.func51, Tryd.ntmps51
    go_wp2
    go_ret
    exact ⟨by simp, rfl⟩
theorem index3_0 (a b c : Int) (w : World) : (Instr.index 75 (amt a b c) (.int .i64 0)).run Tryd.prog w = .ok (.int .i64 a) w := by kernel_rfl
theorem index3_1 (a b c : Int) (w : World) : (Instr.index 75 (amt a b c) (.int .i64 1)).run Tryd.prog w = .ok (.int .i64 b) w := by kernel_rfl
theorem index3_2 (a b c : Int) (w : World) : (Instr.index 75 (amt a b c) (.int .i64 2)).run Tryd.prog w = .ok (.int .i64 c) w := by kernel_rfl
theorem specOne_b (k n : Int) (w : World) :
    Calls Tryd.prog 19 #[.int .i64 k, .int .i64 n] w fun r w' => r = .returned (amt (oneA k n) (oneB k n) (oneC k n)) ∧ Below w.heap.size w w' := by
  by_cases h0 : k = 0
  · have e : amt (oneA k n) (oneB k n) (oneC k n) = amt n 0 0 := by simp [oneA, oneB, oneC, h0]
    rw [e]
    clear e
    subst h0
    go_enter Tryd.func19, Tryd.ntmps19
    go_wp2
    go_returns
    exact ⟨rfl, by go_grown⟩
  by_cases h1 : k = 1
  · have e : amt (oneA k n) (oneB k n) (oneC k n) = amt 0 n 0 := by simp [oneA, oneB, oneC, h1]
    rw [e]
    clear e
    subst h1
    go_enter Tryd.func19, Tryd.ntmps19
    go_wp2
    go_returns
    exact ⟨rfl, by go_grown⟩
  by_cases h2 : k = 2
  · have e : amt (oneA k n) (oneB k n) (oneC k n) = amt 0 0 n := by simp [oneA, oneB, oneC, h2]
    rw [e]
    clear e
    subst h2
    go_enter Tryd.func19, Tryd.ntmps19
    go_wp2
    go_returns
    exact ⟨rfl, by go_grown⟩
  · have e : amt (oneA k n) (oneB k n) (oneC k n) = amt 0 0 0 := by simp [oneA, oneB, oneC, h0, h1, h2]
    rw [e]
    clear e
    go_enter Tryd.func19, Tryd.ntmps19
    go_wp2
    go_returns
    exact ⟨rfl, by go_grown⟩
theorem implOne_b (k n : Int) (w : World) :
    Calls Tryd.prog 26 #[.int .i64 k, .int .i64 n] w fun r w' => r = .returned (amt (oneA k n) (oneB k n) (oneC k n)) ∧ Below w.heap.size w w' := by
  by_cases h0 : k = 0
  · have e : amt (oneA k n) (oneB k n) (oneC k n) = amt n 0 0 := by simp [oneA, oneB, oneC, h0]
    rw [e]
    clear e
    subst h0
    have C0 := fun w => isRes_b 0 w
    rw [inB_yes (by omega) (by omega)] at C0
    have C1 := fun w => amtOf_in n 0 0 w
    go_enter Tryd.func26, Tryd.ntmps26
    go_wp2_with fail
    refine (C0 _).mono ?_
    rintro r w1 ⟨rfl, rfl⟩
    go_wp2_with fail
    refine (C1 _).mono ?_
    rintro r w1 ⟨rfl, rfl⟩
    go_wp2
    go_returns
    exact ⟨rfl, by go_grown⟩
  by_cases h1 : k = 1
  · have e : amt (oneA k n) (oneB k n) (oneC k n) = amt 0 n 0 := by simp [oneA, oneB, oneC, h1]
    rw [e]
    clear e
    subst h1
    have C0 := fun w => isRes_b 1 w
    rw [inB_yes (by omega) (by omega)] at C0
    have C1 := fun w => amtOf_in 0 n 0 w
    go_enter Tryd.func26, Tryd.ntmps26
    go_wp2_with fail
    refine (C0 _).mono ?_
    rintro r w1 ⟨rfl, rfl⟩
    go_wp2_with fail
    refine (C1 _).mono ?_
    rintro r w1 ⟨rfl, rfl⟩
    go_wp2
    go_returns
    exact ⟨rfl, by go_grown⟩
  by_cases h2 : k = 2
  · have e : amt (oneA k n) (oneB k n) (oneC k n) = amt 0 0 n := by simp [oneA, oneB, oneC, h2]
    rw [e]
    clear e
    subst h2
    have C0 := fun w => isRes_b 2 w
    rw [inB_yes (by omega) (by omega)] at C0
    have C1 := fun w => amtOf_in 0 0 n w
    go_enter Tryd.func26, Tryd.ntmps26
    go_wp2_with fail
    refine (C0 _).mono ?_
    rintro r w1 ⟨rfl, rfl⟩
    go_wp2_with fail
    refine (C1 _).mono ?_
    rintro r w1 ⟨rfl, rfl⟩
    go_wp2
    go_returns
    exact ⟨rfl, by go_grown⟩
  · have e : amt (oneA k n) (oneB k n) (oneC k n) = amt 0 0 0 := by simp [oneA, oneB, oneC, h0, h1, h2]
    rw [e]
    clear e
    have C0 := fun w => isRes_b k w
    rw [inB_no (by omega)] at C0
    have C1 := fun w => amtOf_in 0 0 0 w
    go_enter Tryd.func26, Tryd.ntmps26
    go_wp2_with fail
    refine (C0 _).mono ?_
    rintro r w1 ⟨rfl, rfl⟩
    go_wp2_with fail
    refine (C1 _).mono ?_
    rintro r w1 ⟨rfl, rfl⟩
    go_wp2
    go_returns
    exact ⟨rfl, by go_grown⟩
theorem specPart_b (a b c k : Int) (w : World) :
    Calls Tryd.prog 37 #[amt a b c, .int .i64 k] w fun r w' => r = .returned (.int .i64 (partOf k a b c)) ∧ Below w.heap.size w w' := by
  by_cases h0 : k = 0
  · have e : partOf k a b c = a := by simp [partOf, h0]
    rw [e]
    clear e
    subst h0
    go_enter Tryd.func37, Tryd.ntmps37
    go_wp2
    go_returns
    exact ⟨rfl, by go_grown⟩
  by_cases h1 : k = 1
  · have e : partOf k a b c = b := by simp [partOf, h1]
    rw [e]
    clear e
    subst h1
    go_enter Tryd.func37, Tryd.ntmps37
    go_wp2
    go_returns
    exact ⟨rfl, by go_grown⟩
  by_cases h2 : k = 2
  · have e : partOf k a b c = c := by simp [partOf, h2]
    rw [e]
    clear e
    subst h2
    go_enter Tryd.func37, Tryd.ntmps37
    go_wp2
    go_returns
    exact ⟨rfl, by go_grown⟩
  · have e : partOf k a b c = 0 := by simp [partOf, h0, h1, h2]
    rw [e]
    clear e
    go_enter Tryd.func37, Tryd.ntmps37
    go_wp2
    go_returns
    exact ⟨rfl, by go_grown⟩
theorem implPart_b (a b c k : Int) (w : World) :
    Calls Tryd.prog 50 #[amt a b c, .int .i64 k] w fun r w' => r = .returned (.int .i64 (partOf k a b c)) ∧ Below w.heap.size w w' := by
  have i0 := index3_0 a b c
  have i1 := index3_1 a b c
  have i2 := index3_2 a b c
  have C1 := fun w => numbersOf_in a b c w
  by_cases h0 : k = 0
  · have e : partOf k a b c = a := by simp [partOf, h0]
    rw [e]
    clear e
    subst h0
    have C0 := fun w => isRes_b 0 w
    rw [inB_yes (by omega) (by omega)] at C0
    go_enter Tryd.func50, Tryd.ntmps50
    go_wp2_with fail
    refine (C0 _).mono ?_
    rintro r w1 ⟨rfl, rfl⟩
    go_wp2_with fail
    refine (C1 _).mono ?_
    rintro r w1 ⟨rfl, rfl⟩
    go_wp2
    go_returns
    exact ⟨rfl, by go_grown⟩
  by_cases h1 : k = 1
  · have e : partOf k a b c = b := by simp [partOf, h1]
    rw [e]
    clear e
    subst h1
    have C0 := fun w => isRes_b 1 w
    rw [inB_yes (by omega) (by omega)] at C0
    go_enter Tryd.func50, Tryd.ntmps50
    go_wp2_with fail
    refine (C0 _).mono ?_
    rintro r w1 ⟨rfl, rfl⟩
    go_wp2_with fail
    refine (C1 _).mono ?_
    rintro r w1 ⟨rfl, rfl⟩
    go_wp2
    go_returns
    exact ⟨rfl, by go_grown⟩
  by_cases h2 : k = 2
  · have e : partOf k a b c = c := by simp [partOf, h2]
    rw [e]
    clear e
    subst h2
    have C0 := fun w => isRes_b 2 w
    rw [inB_yes (by omega) (by omega)] at C0
    go_enter Tryd.func50, Tryd.ntmps50
    go_wp2_with fail
    refine (C0 _).mono ?_
    rintro r w1 ⟨rfl, rfl⟩
    go_wp2_with fail
    refine (C1 _).mono ?_
    rintro r w1 ⟨rfl, rfl⟩
    go_wp2
    go_returns
    exact ⟨rfl, by go_grown⟩
  · have e : partOf k a b c = 0 := by simp [partOf, h0, h1, h2]
    rw [e]
    clear e
    have C0 := fun w => isRes_b k w
    rw [inB_no (by omega)] at C0
    clear C1
    go_enter Tryd.func50, Tryd.ntmps50
    go_wp2_with fail
    refine (C0 _).mono ?_
    rintro r w1 ⟨rfl, rfl⟩
    go_wp2
    go_returns
    exact ⟨rfl, by go_grown⟩
end Go.Proofs.YtlemhlioidmanaaDoor
