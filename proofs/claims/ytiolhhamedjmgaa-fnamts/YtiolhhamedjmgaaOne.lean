/-
  Amounts: one number of an amount.
-/
import Derived.Test.YtiolhhamedjmgaaSub
namespace Go.Proofs.Ytiolhhamedjmgaa
open Go.RowKit
set_option linter.unusedVariables false

/-- What AmtOne answers. -/
def oneOf (k n : Int) : Value := if k = 0 then amt n 0 0 else if k = 1 then amt 0 n 0 else if k = 2 then amt 0 0 n else amt 0 0 0
theorem isRes_any (k : Int) (w : World) :
    Calls Try.prog 34 #[.int .i64 k] w fun r w' => r = .returned (.bool (decide (0 ≤ k) && decide (k < 3))) ∧ w = w' := by
  by_cases h1 : 0 ≤ k
  · by_cases h2 : k < 3
    · go_enter Try.func34, Try.ntmps34
      go_wp2
      go_ret
      exact ⟨by simp [h1, h2], rfl⟩
    · go_enter Try.func34, Try.ntmps34
      go_wp2
      go_ret
      exact ⟨by simp [h2], rfl⟩
  · go_enter Try.func34, Try.ntmps34
    go_wp2
    go_ret
    exact ⟨by simp; omega, rfl⟩
theorem specOne_any (k n : Int) (w : World) :
    Calls Try.prog 24 #[.int .i64 k, .int .i64 n] w fun r w' => r = .returned (oneOf k n) ∧ Below w.heap.size w w' := by
  by_cases h0 : k = 0
  · subst h0
    go_enter Try.func24, Try.ntmps24
    go_wp2
    go_returns
    exact ⟨rfl, by go_grown⟩
  by_cases h1 : k = 1
  · subst h1
    go_enter Try.func24, Try.ntmps24
    go_wp2
    go_returns
    exact ⟨rfl, by go_grown⟩
  by_cases h2 : k = 2
  · subst h2
    go_enter Try.func24, Try.ntmps24
    go_wp2
    go_returns
    exact ⟨rfl, by go_grown⟩
  · have h : oneOf k n = amt 0 0 0 := by simp [oneOf, h0, h1, h2]
    rw [h]
    clear h
    go_enter Try.func24, Try.ntmps24
    go_wp2
    go_returns
    exact ⟨rfl, by go_grown⟩
theorem implOne_any (k n : Int) (w : World) :
    Calls Try.prog 17 #[.int .i64 k, .int .i64 n] w fun r w' => r = .returned (oneOf k n) ∧ Below w.heap.size w w' := by
  have C0 := fun w => isRes_any k w
  by_cases h0 : k = 0
  · subst h0
    have C1 := fun w => amtOf_in n 0 0 w
    go_enter Try.func17, Try.ntmps17
    go_wp2_with fail
    refine (C0 _).mono ?_
    rintro r w1 ⟨rfl, rfl⟩
    go_wp2_with fail
    refine (C1 _).mono ?_
    rintro r w1 ⟨rfl, rfl⟩
    go_wp2
    go_returns
    exact ⟨rfl, by go_grown⟩
  by_cases h1 : k = 1
  · subst h1
    have C1 := fun w => amtOf_in 0 n 0 w
    go_enter Try.func17, Try.ntmps17
    go_wp2_with fail
    refine (C0 _).mono ?_
    rintro r w1 ⟨rfl, rfl⟩
    go_wp2_with fail
    refine (C1 _).mono ?_
    rintro r w1 ⟨rfl, rfl⟩
    go_wp2
    go_returns
    exact ⟨rfl, by go_grown⟩
  by_cases h2 : k = 2
  · subst h2
    have C1 := fun w => amtOf_in 0 0 n w
    go_enter Try.func17, Try.ntmps17
    go_wp2_with fail
    refine (C0 _).mono ?_
    rintro r w1 ⟨rfl, rfl⟩
    go_wp2_with fail
    refine (C1 _).mono ?_
    rintro r w1 ⟨rfl, rfl⟩
    go_wp2
    go_returns
    exact ⟨rfl, by go_grown⟩
  · have h : oneOf k n = amt 0 0 0 := by simp [oneOf, h0, h1, h2]
    rw [h]
    have hf : (decide (0 ≤ k) && decide (k < 3)) = false := by simp; omega
    rw [hf] at C0
    clear h hf
    have C1 := fun w => amtOf_in 0 0 0 w
    go_enter Try.func17, Try.ntmps17
    go_wp2_with fail
    refine (C0 _).mono ?_
    rintro r w1 ⟨rfl, rfl⟩
    go_wp2_with fail
    refine (C1 _).mono ?_
    rintro r w1 ⟨rfl, rfl⟩
    go_wp2
    go_returns
    exact ⟨rfl, by go_grown⟩
theorem index3_0 (a b c : Int) (w : World) : (Instr.index 46 (amt a b c) (.int .i64 0)).run Try.prog w = .ok (.int .i64 a) w := by kernel_rfl
theorem index3_1 (a b c : Int) (w : World) : (Instr.index 46 (amt a b c) (.int .i64 1)).run Try.prog w = .ok (.int .i64 b) w := by kernel_rfl
theorem index3_2 (a b c : Int) (w : World) : (Instr.index 46 (amt a b c) (.int .i64 2)).run Try.prog w = .ok (.int .i64 c) w := by kernel_rfl
/-- AmtPart of a right place. -/
theorem implPart_any (a b c k x : Int) (w : World) (h : (k = 0 ∧ x = a) ∨ (k = 1 ∧ x = b) ∨ (k = 2 ∧ x = c)) :
    Calls Try.prog 16 #[amt a b c, .int .i64 k] w fun r w' => r = .returned (.int .i64 x) ∧ Below w.heap.size w w' := by
  have C0 := fun w => isRes_any k w
  have C1 := fun w => numbersOf_in a b c w
  have i0 := index3_0 a b c
  have i1 := index3_1 a b c
  have i2 := index3_2 a b c
  rcases h with ⟨rfl, rfl⟩ | ⟨rfl, rfl⟩ | ⟨rfl, rfl⟩
  all_goals
    go_enter Try.func16, Try.ntmps16
    go_wp2_with fail
    refine (C0 _).mono ?_
    rintro r w1 ⟨rfl, rfl⟩
    go_wp2_with fail
    refine (C1 _).mono ?_
    rintro r w1 ⟨rfl, rfl⟩
    go_wp2
    go_returns
    exact ⟨rfl, by go_grown⟩
/-- AmtPart of no place. -/
theorem implPart_no (a b c k : Int) (w : World) (h : k < 0 ∨ 2 < k) :
    Calls Try.prog 16 #[amt a b c, .int .i64 k] w fun r w' => r = .returned (.int .i64 0) ∧ Below w.heap.size w w' := by
  have C0 := fun w => isRes_any k w
  have hf : (decide (0 ≤ k) && decide (k < 3)) = false := by simp; omega
  rw [hf] at C0
  clear h hf
  go_enter Try.func16, Try.ntmps16
  go_wp2_with fail
  refine (C0 _).mono ?_
  rintro r w1 ⟨rfl, rfl⟩
  go_wp2
  go_returns
  exact ⟨rfl, by go_grown⟩
end Go.Proofs.Ytiolhhamedjmgaa
