/-
  Amounts: one number of an amount, both sides. Taps: what both sides answer of one. How much flows through a tap, both sides.
-/
import Derived.Test.YtfcenombphodbaaDoorAmts
import Derived.Test.YtfcenombphodbaaDoorSpecOk
import Derived.Test.YtfcenombphodbaaDoorRegion3
import Derived.Test.YtfcenombphodbaaDoorAns
namespace Go.Proofs.YtfcenombphodbaaDoor
open Go.RowKit
set_option linter.unusedVariables false
set_option maxRecDepth 100000

/-- Is a number within bounds? -/
def inB (x lo hi : Int) : Bool := decide (lo ≤ x) && decide (x ≤ hi)
theorem inB_yes {x lo hi : Int} (h0 : lo ≤ x) (h1 : x ≤ hi) : inB x lo hi = true := by unfold inB; simp; omega
theorem inB_no {x lo hi : Int} (h : x < lo ∨ hi < x) : inB x lo hi = false := by unfold inB; simp; omega
theorem inB_true {x lo hi : Int} (h : inB x lo hi = true) : lo ≤ x ∧ x ≤ hi := by unfold inB at h; simpa using h
/-- What AmtOne answers. -/
def oneA (k n : Int) : Int := if k = 0 then n else 0
def oneB (k n : Int) : Int := if k = 1 then n else 0
def oneC (k n : Int) : Int := if k = 2 then n else 0
/-- What AmtPart answers. -/
def partOf (k a b c : Int) : Int := if k = 0 then a else if k = 1 then b else if k = 2 then c else 0
theorem l1In_b (x lo hi : Int) (w : World) :
    Calls Tryd.prog 26 #[.int .i64 x, .int .i64 lo, .int .i64 hi] w fun e w' => e = .returned (.bool (inB x lo hi)) ∧ w = w' := l1In_any x lo hi w
theorem isRes_b (k : Int) (w : World) :
    Calls Tryd.prog 52 #[.int .i64 k] w fun r w' => r = .returned (.bool (inB k 0 2)) ∧ w = w' := by
  by_cases h1 : 0 ≤ k
  · by_cases h2 : k < 3
    · rw [inB_yes h1 (by omega)]
      go_enter Tryd.func52, Tryd.ntmps52
      go_wp2
      go_ret
      exact ⟨by simp, rfl⟩
    · rw [inB_no (by omega)]
      go_enter Tryd.func52, Tryd.ntmps52
      go_wp2
      go_ret
      exact ⟨by simp, rfl⟩
  · rw [inB_no (by omega)]
    go_enter Tryd.func52, Tryd.ntmps52
    go_wp2
    go_ret
    exact ⟨by simp, rfl⟩
theorem index3_0 (a b c : Int) (w : World) : (Instr.index 60 (amt a b c) (.int .i64 0)).run Tryd.prog w = .ok (.int .i64 a) w := by kernel_rfl
theorem index3_1 (a b c : Int) (w : World) : (Instr.index 60 (amt a b c) (.int .i64 1)).run Tryd.prog w = .ok (.int .i64 b) w := by kernel_rfl
theorem index3_2 (a b c : Int) (w : World) : (Instr.index 60 (amt a b c) (.int .i64 2)).run Tryd.prog w = .ok (.int .i64 c) w := by kernel_rfl
theorem specOne_b (k n : Int) (w : World) :
    Calls Tryd.prog 29 #[.int .i64 k, .int .i64 n] w fun r w' => r = .returned (amt (oneA k n) (oneB k n) (oneC k n)) ∧ Below w.heap.size w w' := by
  by_cases h0 : k = 0
  · have e : amt (oneA k n) (oneB k n) (oneC k n) = amt n 0 0 := by simp [oneA, oneB, oneC, h0]
    rw [e]
    clear e
    subst h0
    go_enter Tryd.func29, Tryd.ntmps29
    go_wp2
    go_returns
    exact ⟨rfl, by go_grown⟩
  by_cases h1 : k = 1
  · have e : amt (oneA k n) (oneB k n) (oneC k n) = amt 0 n 0 := by simp [oneA, oneB, oneC, h1]
    rw [e]
    clear e
    subst h1
    go_enter Tryd.func29, Tryd.ntmps29
    go_wp2
    go_returns
    exact ⟨rfl, by go_grown⟩
  by_cases h2 : k = 2
  · have e : amt (oneA k n) (oneB k n) (oneC k n) = amt 0 0 n := by simp [oneA, oneB, oneC, h2]
    rw [e]
    clear e
    subst h2
    go_enter Tryd.func29, Tryd.ntmps29
    go_wp2
    go_returns
    exact ⟨rfl, by go_grown⟩
  · have e : amt (oneA k n) (oneB k n) (oneC k n) = amt 0 0 0 := by simp [oneA, oneB, oneC, h0, h1, h2]
    rw [e]
    clear e
    go_enter Tryd.func29, Tryd.ntmps29
    go_wp2
    go_returns
    exact ⟨rfl, by go_grown⟩
theorem implOne_b (k n : Int) (w : World) :
    Calls Tryd.prog 20 #[.int .i64 k, .int .i64 n] w fun r w' => r = .returned (amt (oneA k n) (oneB k n) (oneC k n)) ∧ Below w.heap.size w w' := by
  by_cases h0 : k = 0
  · have e : amt (oneA k n) (oneB k n) (oneC k n) = amt n 0 0 := by simp [oneA, oneB, oneC, h0]
    rw [e]
    clear e
    subst h0
    have C0 := fun w => isRes_b 0 w
    rw [inB_yes (by omega) (by omega)] at C0
    have C1 := fun w => amtOf_in n 0 0 w
    go_enter Tryd.func20, Tryd.ntmps20
    go_wp2_with fail
    refine (C0 _).mono ?_
    rintro r w1 ⟨rfl, rfl⟩
    go_wp2_with fail
    refine (C1 _).mono ?_
    rintro r w1 ⟨rfl, rfl⟩
    go_wp2
    go_returns
    exact ⟨rfl, by go_grown⟩
  by_cases h1 : k = 1
  · have e : amt (oneA k n) (oneB k n) (oneC k n) = amt 0 n 0 := by simp [oneA, oneB, oneC, h1]
    rw [e]
    clear e
    subst h1
    have C0 := fun w => isRes_b 1 w
    rw [inB_yes (by omega) (by omega)] at C0
    have C1 := fun w => amtOf_in 0 n 0 w
    go_enter Tryd.func20, Tryd.ntmps20
    go_wp2_with fail
    refine (C0 _).mono ?_
    rintro r w1 ⟨rfl, rfl⟩
    go_wp2_with fail
    refine (C1 _).mono ?_
    rintro r w1 ⟨rfl, rfl⟩
    go_wp2
    go_returns
    exact ⟨rfl, by go_grown⟩
  by_cases h2 : k = 2
  · have e : amt (oneA k n) (oneB k n) (oneC k n) = amt 0 0 n := by simp [oneA, oneB, oneC, h2]
    rw [e]
    clear e
    subst h2
    have C0 := fun w => isRes_b 2 w
    rw [inB_yes (by omega) (by omega)] at C0
    have C1 := fun w => amtOf_in 0 0 n w
    go_enter Tryd.func20, Tryd.ntmps20
    go_wp2_with fail
    refine (C0 _).mono ?_
    rintro r w1 ⟨rfl, rfl⟩
    go_wp2_with fail
    refine (C1 _).mono ?_
    rintro r w1 ⟨rfl, rfl⟩
    go_wp2
    go_returns
    exact ⟨rfl, by go_grown⟩
  · have e : amt (oneA k n) (oneB k n) (oneC k n) = amt 0 0 0 := by simp [oneA, oneB, oneC, h0, h1, h2]
    rw [e]
    clear e
    have C0 := fun w => isRes_b k w
    rw [inB_no (by omega)] at C0
    have C1 := fun w => amtOf_in 0 0 0 w
    go_enter Tryd.func20, Tryd.ntmps20
    go_wp2_with fail
    refine (C0 _).mono ?_
    rintro r w1 ⟨rfl, rfl⟩
    go_wp2_with fail
    refine (C1 _).mono ?_
    rintro r w1 ⟨rfl, rfl⟩
    go_wp2
    go_returns
    exact ⟨rfl, by go_grown⟩
theorem specPart_b (a b c k : Int) (w : World) :
    Calls Tryd.prog 9 #[amt a b c, .int .i64 k] w fun r w' => r = .returned (.int .i64 (partOf k a b c)) ∧ Below w.heap.size w w' := by
  by_cases h0 : k = 0
  · have e : partOf k a b c = a := by simp [partOf, h0]
    rw [e]
    clear e
    subst h0
    go_enter Tryd.func9, Tryd.ntmps9
    go_wp2
    go_returns
    exact ⟨rfl, by go_grown⟩
  by_cases h1 : k = 1
  · have e : partOf k a b c = b := by simp [partOf, h1]
    rw [e]
    clear e
    subst h1
    go_enter Tryd.func9, Tryd.ntmps9
    go_wp2
    go_returns
    exact ⟨rfl, by go_grown⟩
  by_cases h2 : k = 2
  · have e : partOf k a b c = c := by simp [partOf, h2]
    rw [e]
    clear e
    subst h2
    go_enter Tryd.func9, Tryd.ntmps9
    go_wp2
    go_returns
    exact ⟨rfl, by go_grown⟩
  · have e : partOf k a b c = 0 := by simp [partOf, h0, h1, h2]
    rw [e]
    clear e
    go_enter Tryd.func9, Tryd.ntmps9
    go_wp2
    go_returns
    exact ⟨rfl, by go_grown⟩
theorem implPart_b (a b c k : Int) (w : World) :
    Calls Tryd.prog 42 #[amt a b c, .int .i64 k] w fun r w' => r = .returned (.int .i64 (partOf k a b c)) ∧ Below w.heap.size w w' := by
  have i0 := index3_0 a b c
  have i1 := index3_1 a b c
  have i2 := index3_2 a b c
  have C1 := fun w => numbersOf_in a b c w
  by_cases h0 : k = 0
  · have e : partOf k a b c = a := by simp [partOf, h0]
    rw [e]
    clear e
    subst h0
    have C0 := fun w => isRes_b 0 w
    rw [inB_yes (by omega) (by omega)] at C0
    go_enter Tryd.func42, Tryd.ntmps42
    go_wp2_with fail
    refine (C0 _).mono ?_
    rintro r w1 ⟨rfl, rfl⟩
    go_wp2_with fail
    refine (C1 _).mono ?_
    rintro r w1 ⟨rfl, rfl⟩
    go_wp2
    go_returns
    exact ⟨rfl, by go_grown⟩
  by_cases h1 : k = 1
  · have e : partOf k a b c = b := by simp [partOf, h1]
    rw [e]
    clear e
    subst h1
    have C0 := fun w => isRes_b 1 w
    rw [inB_yes (by omega) (by omega)] at C0
    go_enter Tryd.func42, Tryd.ntmps42
    go_wp2_with fail
    refine (C0 _).mono ?_
    rintro r w1 ⟨rfl, rfl⟩
    go_wp2_with fail
    refine (C1 _).mono ?_
    rintro r w1 ⟨rfl, rfl⟩
    go_wp2
    go_returns
    exact ⟨rfl, by go_grown⟩
  by_cases h2 : k = 2
  · have e : partOf k a b c = c := by simp [partOf, h2]
    rw [e]
    clear e
    subst h2
    have C0 := fun w => isRes_b 2 w
    rw [inB_yes (by omega) (by omega)] at C0
    go_enter Tryd.func42, Tryd.ntmps42
    go_wp2_with fail
    refine (C0 _).mono ?_
    rintro r w1 ⟨rfl, rfl⟩
    go_wp2_with fail
    refine (C1 _).mono ?_
    rintro r w1 ⟨rfl, rfl⟩
    go_wp2
    go_returns
    exact ⟨rfl, by go_grown⟩
  · have e : partOf k a b c = 0 := by simp [partOf, h0, h1, h2]
    rw [e]
    clear e
    have C0 := fun w => isRes_b k w
    rw [inB_no (by omega)] at C0
    clear C1
    go_enter Tryd.func42, Tryd.ntmps42
    go_wp2_with fail
    refine (C0 _).mono ?_
    rintro r w1 ⟨rfl, rfl⟩
    go_wp2
    go_returns
    exact ⟨rfl, by go_grown⟩
end Go.Proofs.YtfcenombphodbaaDoor
namespace Go.Proofs.YtfcenombphodbaaDoor
open Go.RowKit
set_option linter.unusedVariables false
set_option maxRecDepth 100000

/-- A tap, and its block on either side. -/
abbrev tapV (r p q h k t : Int) : Value := .agg #[.int .i64 r, .int .i64 p, .int .i64 q, .int .i64 h, .int .i64 k, .int .i64 t]
abbrev boxT (r p q h k t : Int) : Obj := .cells #[.int .i64 r, .int .i64 p, .int .i64 q, .int .i64 h, .int .i64 k, .int .i64 t] 26 (0, 0)
/-- Is its rate right for its kind? -/
def rateB (k t : Int) : Bool := if k = 1 then inB t 0 1000 else if k = 2 then inB t 0 100 else false
/-- Is a tap right? -/
def tapOk (r p q h k t : Int) : Bool := inB r 0 4 && (inB p 0 2 && (inB q 0 4 && (inB h 0 2 && rateB k t)))
/-- How much flows of n. -/
def flowN (k t n : Int) : Int := if k = 1 then min n t else n * t / 100
def flowOf (r p q h k t a b c : Int) : Int := if tapOk r p q h k t && amtOk a b c then flowN k t (partOf h a b c) else 0
theorem l6Res_b (x : Int) (w : World) :
    Calls Tryd.prog 33 #[.int .i64 x] w fun e w' => e = .returned (.bool (inB x 0 4)) ∧ w = w' := l6Res_any x w
theorem isPlace_b (k : Int) (w : World) :
    Calls Tryd.prog 63 #[.int .i64 k] w fun r w' => r = .returned (.bool (inB k 0 4)) ∧ w = w' := by
  by_cases h1 : 0 ≤ k
  · by_cases h2 : k < 5
    · rw [inB_yes h1 (by omega)]
      go_enter Tryd.func63, Tryd.ntmps63
      go_wp2
      go_ret
      exact ⟨by simp, rfl⟩
    · rw [inB_no (by omega)]
      go_enter Tryd.func63, Tryd.ntmps63
      go_wp2
      go_ret
      exact ⟨by simp, rfl⟩
  · rw [inB_no (by omega)]
    go_enter Tryd.func63, Tryd.ntmps63
    go_wp2
    go_ret
    exact ⟨by simp, rfl⟩
theorem isPart_b (k : Int) (w : World) :
    Calls Tryd.prog 64 #[.int .i64 k] w fun r w' => r = .returned (.bool (inB k 0 2)) ∧ w = w' := by
  by_cases h1 : 0 ≤ k
  · by_cases h2 : k < 3
    · rw [inB_yes h1 (by omega)]
      go_enter Tryd.func64, Tryd.ntmps64
      go_wp2
      go_ret
      exact ⟨by simp, rfl⟩
    · rw [inB_no (by omega)]
      go_enter Tryd.func64, Tryd.ntmps64
      go_wp2
      go_ret
      exact ⟨by simp, rfl⟩
  · rw [inB_no (by omega)]
    go_enter Tryd.func64, Tryd.ntmps64
    go_wp2
    go_ret
    exact ⟨by simp, rfl⟩
/-- The kind behind the interface. -/
def kindV (k t : Int) : Value := if k = 1 then .iface 86 (.int .i64 t) else if k = 2 then .iface 87 (.int .i64 t) else .iface 89 (.agg #[])
theorem kindOf_any (r p q h k t : Int) (w : World) :
    Calls Tryd.prog 41 #[tapV r p q h k t] w fun e w' => e = .returned (kindV k t) ∧ Below w.heap.size w w' := by
  by_cases h1 : k = 1
  · have e : kindV k t = .iface 86 (.int .i64 t) := by simp [kindV, h1]
    rw [e]
    clear e
    subst h1
    go_enter Tryd.func41, Tryd.ntmps41
    go_wp2
    go_ret
    exact ⟨rfl, by go_grown⟩
  by_cases h2 : k = 2
  · have e : kindV k t = .iface 87 (.int .i64 t) := by simp [kindV, h2]
    rw [e]
    clear e
    subst h2
    go_enter Tryd.func41, Tryd.ntmps41
    go_wp2
    go_ret
    exact ⟨rfl, by go_grown⟩
  · have e : kindV k t = .iface 89 (.agg #[]) := by simp [kindV, h1, h2]
    rw [e]
    clear e
    go_enter Tryd.func41, Tryd.ntmps41
    go_wp2
    go_ret
    exact ⟨rfl, by go_grown⟩
theorem constRateOk_b (t : Int) (w : World) :
    Calls Tryd.prog 95 #[.int .i64 t] w fun e w' => e = .returned (.bool (inB t 0 1000)) ∧ w = w' := by
  by_cases h1 : 0 ≤ t
  · by_cases h2 : t ≤ 1000
    · rw [inB_yes h1 (by omega)]
      go_enter Tryd.func95, Tryd.ntmps95
      go_wp2
      go_ret
      exact ⟨by simp, rfl⟩
    · rw [inB_no (by omega)]
      go_enter Tryd.func95, Tryd.ntmps95
      go_wp2
      go_ret
      exact ⟨by simp, rfl⟩
  · rw [inB_no (by omega)]
    go_enter Tryd.func95, Tryd.ntmps95
    go_wp2
    go_ret
    exact ⟨by simp, rfl⟩
theorem shareRateOk_b (t : Int) (w : World) :
    Calls Tryd.prog 97 #[.int .i64 t] w fun e w' => e = .returned (.bool (inB t 0 100)) ∧ w = w' := by
  by_cases h1 : 0 ≤ t
  · by_cases h2 : t ≤ 100
    · rw [inB_yes h1 (by omega)]
      go_enter Tryd.func97, Tryd.ntmps97
      go_wp2
      go_ret
      exact ⟨by simp, rfl⟩
    · rw [inB_no (by omega)]
      go_enter Tryd.func97, Tryd.ntmps97
      go_wp2
      go_ret
      exact ⟨by simp, rfl⟩
  · rw [inB_no (by omega)]
    go_enter Tryd.func97, Tryd.ntmps97
    go_wp2
    go_ret
    exact ⟨by simp, rfl⟩
set_option maxHeartbeats 1000000 in
theorem specTapOk_any (r p q h k t : Int) (w : World) :
    Calls Tryd.prog 25 #[tapV r p q h k t] w fun e w' => e = .returned (.bool (tapOk r p q h k t)) ∧ Below w.heap.size w w' := by
  have C0 := fun w => l6Res_b r w
  have C1 := fun w => l1In_b p 0 2 w
  have C2 := fun w => l6Res_b q w
  have C3 := fun w => l1In_b h 0 2 w
  unfold tapOk
  generalize inB r 0 4 = x at C0 ⊢
  generalize inB p 0 2 = y at C1 ⊢
  generalize inB q 0 4 = z at C2 ⊢
  generalize inB h 0 2 = u at C3 ⊢
  cases x with
  | false =>
    clear C1
    clear C2
    clear C3
    go_enter Tryd.func25, Tryd.ntmps25
    go_wp2_with fail
    refine (C0 _).mono ?_
    rintro e w1 ⟨rfl, rfl⟩
    go_wp2
    go_ret
    exact ⟨by simp, by go_grown⟩
  | true =>
    cases y with
    | false =>
      clear C2
      clear C3
      go_enter Tryd.func25, Tryd.ntmps25
      go_wp2_with fail
      refine (C0 _).mono ?_
      rintro e w1 ⟨rfl, rfl⟩
      go_wp2_with fail
      refine (C1 _).mono ?_
      rintro e w2 ⟨rfl, rfl⟩
      go_wp2
      go_ret
      exact ⟨by simp, by go_grown⟩
    | true =>
      cases z with
      | false =>
        clear C3
        go_enter Tryd.func25, Tryd.ntmps25
        go_wp2_with fail
        refine (C0 _).mono ?_
        rintro e w1 ⟨rfl, rfl⟩
        go_wp2_with fail
        refine (C1 _).mono ?_
        rintro e w2 ⟨rfl, rfl⟩
        go_wp2_with fail
        refine (C2 _).mono ?_
        rintro e w3 ⟨rfl, rfl⟩
        go_wp2
        go_ret
        exact ⟨by simp, by go_grown⟩
      | true =>
        cases u with
        | false =>
          go_enter Tryd.func25, Tryd.ntmps25
          go_wp2_with fail
          refine (C0 _).mono ?_
          rintro e w1 ⟨rfl, rfl⟩
          go_wp2_with fail
          refine (C1 _).mono ?_
          rintro e w2 ⟨rfl, rfl⟩
          go_wp2_with fail
          refine (C2 _).mono ?_
          rintro e w3 ⟨rfl, rfl⟩
          go_wp2_with fail
          refine (C3 _).mono ?_
          rintro e w4 ⟨rfl, rfl⟩
          go_wp2
          go_ret
          exact ⟨by simp, by go_grown⟩
        | true =>
          simp only [Bool.true_and]
          by_cases h1 : k = 1
          · subst h1
            have e : rateB 1 t = inB t 0 1000 := rfl
            rw [e]
            clear e
            have C4 := fun w => l1In_b t 0 1000 w
            generalize inB t 0 1000 = v at C4 ⊢
            go_enter Tryd.func25, Tryd.ntmps25
            go_wp2_with fail
            refine (C0 _).mono ?_
            rintro e w1 ⟨rfl, rfl⟩
            go_wp2_with fail
            refine (C1 _).mono ?_
            rintro e w2 ⟨rfl, rfl⟩
            go_wp2_with fail
            refine (C2 _).mono ?_
            rintro e w3 ⟨rfl, rfl⟩
            go_wp2_with fail
            refine (C3 _).mono ?_
            rintro e w4 ⟨rfl, rfl⟩
            go_wp2_with fail
            refine (C4 _).mono ?_
            rintro e w6 ⟨rfl, rfl⟩
            go_wp2
            go_ret
            exact ⟨by simp, by go_grown⟩
          by_cases h2 : k = 2
          · subst h2
            have e : rateB 2 t = inB t 0 100 := rfl
            rw [e]
            clear e
            have C4 := fun w => l1In_b t 0 100 w
            generalize inB t 0 100 = v at C4 ⊢
            go_enter Tryd.func25, Tryd.ntmps25
            go_wp2_with fail
            refine (C0 _).mono ?_
            rintro e w1 ⟨rfl, rfl⟩
            go_wp2_with fail
            refine (C1 _).mono ?_
            rintro e w2 ⟨rfl, rfl⟩
            go_wp2_with fail
            refine (C2 _).mono ?_
            rintro e w3 ⟨rfl, rfl⟩
            go_wp2_with fail
            refine (C3 _).mono ?_
            rintro e w4 ⟨rfl, rfl⟩
            go_wp2_with fail
            refine (C4 _).mono ?_
            rintro e w6 ⟨rfl, rfl⟩
            go_wp2
            go_ret
            exact ⟨by simp, by go_grown⟩
          · have e : rateB k t = false := by simp [rateB, h1, h2]
            rw [e]
            clear e
            go_enter Tryd.func25, Tryd.ntmps25
            go_wp2_with fail
            refine (C0 _).mono ?_
            rintro e w1 ⟨rfl, rfl⟩
            go_wp2_with fail
            refine (C1 _).mono ?_
            rintro e w2 ⟨rfl, rfl⟩
            go_wp2_with fail
            refine (C2 _).mono ?_
            rintro e w3 ⟨rfl, rfl⟩
            go_wp2_with fail
            refine (C3 _).mono ?_
            rintro e w4 ⟨rfl, rfl⟩
            go_wp2
            go_ret
            exact ⟨by simp, by go_grown⟩
set_option maxHeartbeats 1000000 in
theorem implTapOk_any (r p q h k t : Int) (w : World) :
    Calls Tryd.prog 39 #[tapV r p q h k t] w fun e w' => e = .returned (.bool (tapOk r p q h k t)) ∧ Below w.heap.size w w' := by
  have C0 := fun w => isPlace_b r w
  have C1 := fun w => isPart_b p w
  have C2 := fun w => isPlace_b q w
  have C3 := fun w => isRes_b h w
  unfold tapOk
  generalize inB r 0 4 = x at C0 ⊢
  generalize inB p 0 2 = y at C1 ⊢
  generalize inB q 0 4 = z at C2 ⊢
  generalize inB h 0 2 = u at C3 ⊢
  cases x with
  | false =>
    clear C1
    clear C2
    clear C3
    go_enter Tryd.func39, Tryd.ntmps39
    go_wp2_with fail
    refine (C0 _).mono ?_
    rintro e w1 ⟨rfl, rfl⟩
    go_wp2
    go_ret
    exact ⟨by simp, by go_grown⟩
  | true =>
    cases y with
    | false =>
      clear C2
      clear C3
      go_enter Tryd.func39, Tryd.ntmps39
      go_wp2_with fail
      refine (C0 _).mono ?_
      rintro e w1 ⟨rfl, rfl⟩
      go_wp2_with fail
      refine (C1 _).mono ?_
      rintro e w2 ⟨rfl, rfl⟩
      go_wp2
      go_ret
      exact ⟨by simp, by go_grown⟩
    | true =>
      cases z with
      | false =>
        clear C3
        go_enter Tryd.func39, Tryd.ntmps39
        go_wp2_with fail
        refine (C0 _).mono ?_
        rintro e w1 ⟨rfl, rfl⟩
        go_wp2_with fail
        refine (C1 _).mono ?_
        rintro e w2 ⟨rfl, rfl⟩
        go_wp2_with fail
        refine (C2 _).mono ?_
        rintro e w3 ⟨rfl, rfl⟩
        go_wp2
        go_ret
        exact ⟨by simp, by go_grown⟩
      | true =>
        cases u with
        | false =>
          go_enter Tryd.func39, Tryd.ntmps39
          go_wp2_with fail
          refine (C0 _).mono ?_
          rintro e w1 ⟨rfl, rfl⟩
          go_wp2_with fail
          refine (C1 _).mono ?_
          rintro e w2 ⟨rfl, rfl⟩
          go_wp2_with fail
          refine (C2 _).mono ?_
          rintro e w3 ⟨rfl, rfl⟩
          go_wp2_with fail
          refine (C3 _).mono ?_
          rintro e w4 ⟨rfl, rfl⟩
          go_wp2
          go_ret
          exact ⟨by simp, by go_grown⟩
        | true =>
          simp only [Bool.true_and]
          by_cases h1 : k = 1
          · subst h1
            have e : rateB 1 t = inB t 0 1000 := rfl
            rw [e]
            clear e
            have C5 := fun w => kindOf_any r p q h 1 t w
            have e : kindV 1 t = .iface 86 (.int .i64 t) := rfl
            rw [e] at C5
            clear e
            have C4 := fun w => constRateOk_b t w
            generalize inB t 0 1000 = v at C4 ⊢
            go_enter Tryd.func39, Tryd.ntmps39
            go_wp2_with fail
            refine (C0 _).mono ?_
            rintro e w1 ⟨rfl, rfl⟩
            go_wp2_with fail
            refine (C1 _).mono ?_
            rintro e w2 ⟨rfl, rfl⟩
            go_wp2_with fail
            refine (C2 _).mono ?_
            rintro e w3 ⟨rfl, rfl⟩
            go_wp2_with fail
            refine (C3 _).mono ?_
            rintro e w4 ⟨rfl, rfl⟩
            go_wp2_with fail
            refine (C5 _).mono ?_
            rintro e w5 ⟨rfl, hb⟩
            go_wp2_with fail
            refine (C4 _).mono ?_
            rintro e w6 ⟨rfl, rfl⟩
            go_wp2
            go_ret
            exact ⟨by simp, below_more (below_alloc w _) hb⟩
          by_cases h2 : k = 2
          · subst h2
            have e : rateB 2 t = inB t 0 100 := rfl
            rw [e]
            clear e
            have C5 := fun w => kindOf_any r p q h 2 t w
            have e : kindV 2 t = .iface 87 (.int .i64 t) := rfl
            rw [e] at C5
            clear e
            have C4 := fun w => shareRateOk_b t w
            generalize inB t 0 100 = v at C4 ⊢
            go_enter Tryd.func39, Tryd.ntmps39
            go_wp2_with fail
            refine (C0 _).mono ?_
            rintro e w1 ⟨rfl, rfl⟩
            go_wp2_with fail
            refine (C1 _).mono ?_
            rintro e w2 ⟨rfl, rfl⟩
            go_wp2_with fail
            refine (C2 _).mono ?_
            rintro e w3 ⟨rfl, rfl⟩
            go_wp2_with fail
            refine (C3 _).mono ?_
            rintro e w4 ⟨rfl, rfl⟩
            go_wp2_with fail
            refine (C5 _).mono ?_
            rintro e w5 ⟨rfl, hb⟩
            go_wp2_with fail
            refine (C4 _).mono ?_
            rintro e w6 ⟨rfl, rfl⟩
            go_wp2
            go_ret
            exact ⟨by simp, below_more (below_alloc w _) hb⟩
          · have e : rateB k t = false := by simp [rateB, h1, h2]
            rw [e]
            clear e
            have C5 := fun w => kindOf_any r p q h k t w
            have e : kindV k t = .iface 89 (.agg #[]) := by simp [kindV, h1, h2]
            rw [e] at C5
            clear e
            go_enter Tryd.func39, Tryd.ntmps39
            go_wp2_with fail
            refine (C0 _).mono ?_
            rintro e w1 ⟨rfl, rfl⟩
            go_wp2_with fail
            refine (C1 _).mono ?_
            rintro e w2 ⟨rfl, rfl⟩
            go_wp2_with fail
            refine (C2 _).mono ?_
            rintro e w3 ⟨rfl, rfl⟩
            go_wp2_with fail
            refine (C3 _).mono ?_
            rintro e w4 ⟨rfl, rfl⟩
            go_wp2_with fail
            refine (C5 _).mono ?_
            rintro e w5 ⟨rfl, hb⟩
            go_wp2
            go_ret
            exact ⟨by simp, below_more (below_more (below_alloc w _) hb) (below_alloc _ _)⟩
end Go.Proofs.YtfcenombphodbaaDoor
namespace Go.Proofs.YtfcenombphodbaaDoor
open Go.RowKit
set_option linter.unusedVariables false
set_option maxRecDepth 100000

theorem rateB_true {k t : Int} (h : rateB k t = true) : (k = 1 ∧ 0 ≤ t ∧ t ≤ 1000) ∨ (k = 2 ∧ 0 ≤ t ∧ t ≤ 100) := by
  unfold rateB at h
  by_cases h1 : k = 1
  · rw [if_pos h1] at h; exact .inl ⟨h1, inB_true h⟩
  · rw [if_neg h1] at h
    by_cases h2 : k = 2
    · rw [if_pos h2] at h; exact .inr ⟨h2, inB_true h⟩
    · rw [if_neg h2] at h; cases h
theorem tapOk_true {r p q h k t : Int} (e : tapOk r p q h k t = true) : (0 ≤ r ∧ r ≤ 4) ∧ (0 ≤ p ∧ p ≤ 2) ∧ (0 ≤ q ∧ q ≤ 4) ∧ (0 ≤ h ∧ h ≤ 2) ∧ ((k = 1 ∧ 0 ≤ t ∧ t ≤ 1000) ∨ (k = 2 ∧ 0 ≤ t ∧ t ≤ 100)) := by
  unfold tapOk at e
  simp only [Bool.and_eq_true] at e
  exact ⟨inB_true e.1, inB_true e.2.1, inB_true e.2.2.1, inB_true e.2.2.2.1, rateB_true e.2.2.2.2⟩
theorem partOf_small {h a b c : Int} (e : amtOk a b c = true) : 0 ≤ partOf h a b c ∧ partOf h a b c ≤ 1000000 := by
  unfold amtOk at e
  simp only [Bool.and_eq_true] at e
  have h1 := numOk_true e.1.1
  have h2 := numOk_true e.1.2
  have h3 := numOk_true e.2
  unfold partOf
  split
  · exact h1
  · split
    · exact h2
    · split
      · exact h3
      · omega
theorem flow_mul {n t : Int} (h0 : 0 ≤ n) (h1 : n ≤ 1000000) (h2 : 0 ≤ t) (h3 : t ≤ 100) : 0 ≤ n * t ∧ n * t ≤ 100000000 := by
  refine ⟨Int.mul_nonneg h0 h2, ?_⟩
  have := Int.mul_le_mul h1 h3 h2 (by omega)
  omega
theorem flow_div {x : Int} (h0 : 0 ≤ x) : x.tdiv 100 = x / 100 := Int.tdiv_eq_ediv_of_nonneg h0
theorem flowN_share (t n : Int) : flowN 2 t n = n * t / 100 := rfl
theorem flowN_const (t n : Int) : flowN 1 t n = min n t := rfl
/-- What flows is there, and no more than the whole. -/
theorem flowN_in {k t n : Int} (h0 : 0 ≤ n) (h1 : n ≤ 1000000) (h : (k = 1 ∧ 0 ≤ t ∧ t ≤ 1000) ∨ (k = 2 ∧ 0 ≤ t ∧ t ≤ 100)) : 0 ≤ flowN k t n ∧ flowN k t n ≤ n ∧ (k = 1 → flowN k t n ≤ t) := by
  rcases h with ⟨rfl, h2, h3⟩ | ⟨rfl, h2, h3⟩
  · rw [flowN_const]; omega
  · rw [flowN_share]
    have e := flow_mul h0 h1 h2 h3
    have : n * t ≤ n * 100 := Int.mul_le_mul_of_nonneg_left h3 h0
    refine ⟨by omega, by omega, fun e => by omega⟩
theorem flowOf_no1 {r p q h k t a b c : Int} (e : tapOk r p q h k t = false) : flowOf r p q h k t a b c = 0 := by unfold flowOf; rw [e]; rfl
theorem flowOf_no2 {r p q h k t a b c : Int} (e : amtOk a b c = false) : flowOf r p q h k t a b c = 0 := by unfold flowOf; rw [e]; simp
theorem flowOf_yes {r p q h k t a b c : Int} (e1 : tapOk r p q h k t = true) (e2 : amtOk a b c = true) : flowOf r p q h k t a b c = flowN k t (partOf h a b c) := by unfold flowOf; rw [e1, e2]; rfl
/-- A block that lies where it lay, by cells: a tap. -/
structure Tap6 (w : World) (g : Nat) (r p q h k t : Int) : Prop where
  at' : w.heap[g]? = some (boxT r p q h k t)
theorem Tap6.on {w w' : World} {g : Nat} {r p q h k t : Int} (x : Tap6 w g r p q h k t) (hb : Below w.heap.size w w') : Tap6 w' g r p q h k t := ⟨keep x.at' hb⟩
theorem Tap6.c0 {w : World} {g : Nat} {r p q h k t : Int} (x : Tap6 w g r p q h k t) : w.cell? ⟨g, 0, none⟩ = some (.int .i64 r) := by simp [World.cell?, x.at']
theorem Tap6.c1 {w : World} {g : Nat} {r p q h k t : Int} (x : Tap6 w g r p q h k t) : w.cell? ⟨g, 1, none⟩ = some (.int .i64 p) := by simp [World.cell?, x.at']
theorem Tap6.c2 {w : World} {g : Nat} {r p q h k t : Int} (x : Tap6 w g r p q h k t) : w.cell? ⟨g, 2, none⟩ = some (.int .i64 q) := by simp [World.cell?, x.at']
theorem Tap6.c3 {w : World} {g : Nat} {r p q h k t : Int} (x : Tap6 w g r p q h k t) : w.cell? ⟨g, 3, none⟩ = some (.int .i64 h) := by simp [World.cell?, x.at']
theorem Tap6.c4 {w : World} {g : Nat} {r p q h k t : Int} (x : Tap6 w g r p q h k t) : w.cell? ⟨g, 4, none⟩ = some (.int .i64 k) := by simp [World.cell?, x.at']
theorem Tap6.c5 {w : World} {g : Nat} {r p q h k t : Int} (x : Tap6 w g r p q h k t) : w.cell? ⟨g, 5, none⟩ = some (.int .i64 t) := by simp [World.cell?, x.at']
set_option maxHeartbeats 2000000 in
theorem specFlow_any (r p q h k t a b c : Int) (w : World) :
    Calls Tryd.prog 28 #[tapV r p q h k t, amt a b c] w fun e w' => e = .returned (.int .i64 (flowOf r p q h k t a b c)) ∧ Below w.heap.size w w' := by
  have C0 := fun w => specTapOk_any r p q h k t w
  have hb0 : Below w.heap.size w ((w.alloc (boxT r p q h k t)).alloc (boxA a b c)) := by go_grown
  have HB0 : Hid (Below w.heap.size w ((w.alloc (boxT r p q h k t)).alloc (boxA a b c))) := hb0
  have HT0 : Hid (Tap6 ((w.alloc (boxT r p q h k t)).alloc (boxA a b c)) w.heap.size r p q h k t) := (⟨heap_alloc_new w _⟩ : Tap6 (w.alloc (boxT r p q h k t)) w.heap.size r p q h k t).on (below_alloc _ _)
  have HA0 : Hid (Box3 ((w.alloc (boxT r p q h k t)).alloc (boxA a b c)) (w.heap.size + 1) 37 a b c) := ⟨by have e := heap_alloc_new (w.alloc (boxT r p q h k t)) (boxA a b c); rw [World.size_alloc] at e; exact e⟩
  clear hb0
  cases h1 : tapOk r p q h k t with
  | false =>
    rw [flowOf_no1 h1]
    rw [h1] at C0
    clear h1
    go_enter Tryd.func28, Tryd.ntmps28
    go_wp2_with fail
    refine (C0 _).mono ?_
    rintro e w1 ⟨rfl, hb⟩
    have HB1 := hid_of (below_more HB0.out hb)
    have HT1 := hid_of (HT0.out.on hb)
    have HA1 := hid_of (box_on HA0.out hb)
    clear HB0 HT0 HA0 hb
    clear C0
    go_wp2
    go_ret
    exact ⟨rfl, HB1.out⟩
  | true =>
    rw [h1] at C0
    have C1 := fun w => (specAmtOk_in a b c w).mono fun e w' (h : _ ∧ _) => (⟨h.1, by rw [h.2]; go_grown⟩ : e = .returned (.bool (amtOk a b c)) ∧ Below w.heap.size w w')
    cases h2 : amtOk a b c with
    | false =>
      rw [flowOf_no2 h2]
      rw [h2] at C1
      clear h1 h2
      go_enter Tryd.func28, Tryd.ntmps28
      go_wp2_with fail
      refine (C0 _).mono ?_
      rintro e w1 ⟨rfl, hb⟩
      have HB1 := hid_of (below_more HB0.out hb)
      have HT1 := hid_of (HT0.out.on hb)
      have HA1 := hid_of (box_on HA0.out hb)
      clear HB0 HT0 HA0 hb
      clear C0
      have t0 := HT1.out.c0
      have t1 := HT1.out.c1
      have t2 := HT1.out.c2
      have t3 := HT1.out.c3
      have t4 := HT1.out.c4
      have t5 := HT1.out.c5
      have a0 := HA1.out.c0
      have a1 := HA1.out.c1
      have a2 := HA1.out.c2
      go_wp2_with fail
      refine (C1 _).mono ?_
      rintro e w2 ⟨rfl, hb⟩
      clear t0 t1 t2 t3 t4 t5 a0 a1 a2
      have HB2 := hid_of (below_more HB1.out hb)
      have HT2 := hid_of (HT1.out.on hb)
      have HA2 := hid_of (box_on HA1.out hb)
      clear HB1 HT1 HA1 hb
      clear C1
      go_wp2
      go_ret
      exact ⟨rfl, HB2.out⟩
    | true =>
      rw [flowOf_yes h1 h2]
      rw [h2] at C1
      have hn := partOf_small (h := h) h2
      obtain ⟨_, _, _, hh, hk⟩ := tapOk_true h1
      have C2 := fun w => specPart_b a b c h w
      have HI : Hid (0 ≤ flowN k t (partOf h a b c) ∧ flowN k t (partOf h a b c) ≤ partOf h a b c ∧ (k = 1 → flowN k t (partOf h a b c) ≤ t)) := flowN_in hn.1 hn.2 hk
      generalize partOf h a b c = n at hn C2 HI ⊢
      clear h1 h2
      rcases hk with ⟨rfl, ht0, ht1⟩ | ⟨rfl, ht0, ht1⟩
      · by_cases hm : t < n
        · have e : flowN 1 t n = t := by rw [flowN_const]; omega
          rw [e]
          clear e HI
          go_enter Tryd.func28, Tryd.ntmps28
          go_wp2_with fail
          refine (C0 _).mono ?_
          rintro e w1 ⟨rfl, hb⟩
          have HB1 := hid_of (below_more HB0.out hb)
          have HT1 := hid_of (HT0.out.on hb)
          have HA1 := hid_of (box_on HA0.out hb)
          clear HB0 HT0 HA0 hb
          clear C0
          have t0 := HT1.out.c0
          have t1 := HT1.out.c1
          have t2 := HT1.out.c2
          have t3 := HT1.out.c3
          have t4 := HT1.out.c4
          have t5 := HT1.out.c5
          have a0 := HA1.out.c0
          have a1 := HA1.out.c1
          have a2 := HA1.out.c2
          go_wp2_with fail
          refine (C1 _).mono ?_
          rintro e w2 ⟨rfl, hb⟩
          clear t0 t1 t2 t3 t4 t5 a0 a1 a2
          have HB2 := hid_of (below_more HB1.out hb)
          have HT2 := hid_of (HT1.out.on hb)
          have HA2 := hid_of (box_on HA1.out hb)
          clear HB1 HT1 HA1 hb
          clear C1
          have t0 := HT2.out.c0
          have t1 := HT2.out.c1
          have t2 := HT2.out.c2
          have t3 := HT2.out.c3
          have t4 := HT2.out.c4
          have t5 := HT2.out.c5
          have a0 := HA2.out.c0
          have a1 := HA2.out.c1
          have a2 := HA2.out.c2
          go_wp2_with fail
          refine (C2 _).mono ?_
          rintro e w3 ⟨rfl, hb⟩
          clear t0 t1 t2 t3 t4 t5 a0 a1 a2
          have HB3 := hid_of (below_more HB2.out hb)
          have HT3 := hid_of (HT2.out.on hb)
          have HA3 := hid_of (box_on HA2.out hb)
          clear HB2 HT2 HA2 hb
          clear C2
          have t0 := HT3.out.c0
          have t1 := HT3.out.c1
          have t2 := HT3.out.c2
          have t3 := HT3.out.c3
          have t4 := HT3.out.c4
          have t5 := HT3.out.c5
          have a0 := HA3.out.c0
          have a1 := HA3.out.c1
          have a2 := HA3.out.c2
          go_wp2
          go_ret
          exact ⟨rfl, HB3.out⟩
        · have e : flowN 1 t n = n := by rw [flowN_const]; omega
          rw [e]
          clear e HI
          go_enter Tryd.func28, Tryd.ntmps28
          go_wp2_with fail
          refine (C0 _).mono ?_
          rintro e w1 ⟨rfl, hb⟩
          have HB1 := hid_of (below_more HB0.out hb)
          have HT1 := hid_of (HT0.out.on hb)
          have HA1 := hid_of (box_on HA0.out hb)
          clear HB0 HT0 HA0 hb
          clear C0
          have t0 := HT1.out.c0
          have t1 := HT1.out.c1
          have t2 := HT1.out.c2
          have t3 := HT1.out.c3
          have t4 := HT1.out.c4
          have t5 := HT1.out.c5
          have a0 := HA1.out.c0
          have a1 := HA1.out.c1
          have a2 := HA1.out.c2
          go_wp2_with fail
          refine (C1 _).mono ?_
          rintro e w2 ⟨rfl, hb⟩
          clear t0 t1 t2 t3 t4 t5 a0 a1 a2
          have HB2 := hid_of (below_more HB1.out hb)
          have HT2 := hid_of (HT1.out.on hb)
          have HA2 := hid_of (box_on HA1.out hb)
          clear HB1 HT1 HA1 hb
          clear C1
          have t0 := HT2.out.c0
          have t1 := HT2.out.c1
          have t2 := HT2.out.c2
          have t3 := HT2.out.c3
          have t4 := HT2.out.c4
          have t5 := HT2.out.c5
          have a0 := HA2.out.c0
          have a1 := HA2.out.c1
          have a2 := HA2.out.c2
          go_wp2_with fail
          refine (C2 _).mono ?_
          rintro e w3 ⟨rfl, hb⟩
          clear t0 t1 t2 t3 t4 t5 a0 a1 a2
          have HB3 := hid_of (below_more HB2.out hb)
          have HT3 := hid_of (HT2.out.on hb)
          have HA3 := hid_of (box_on HA2.out hb)
          clear HB2 HT2 HA2 hb
          clear C2
          have t0 := HT3.out.c0
          have t1 := HT3.out.c1
          have t2 := HT3.out.c2
          have t3 := HT3.out.c3
          have t4 := HT3.out.c4
          have t5 := HT3.out.c5
          have a0 := HA3.out.c0
          have a1 := HA3.out.c1
          have a2 := HA3.out.c2
          go_wp2
          go_ret
          exact ⟨rfl, HB3.out⟩
      · rw [flowN_share] at HI ⊢
        have hx := flow_mul hn.1 hn.2 ht0 ht1
        have hd := flow_div hx.1
        have hw : wrap64 (n * t) = n * t := by unfold wrap64; omega
        have HV : Hid (∀ x, x = n * t → wrap64 (x / 100) = n * t / 100) := fun x e => by subst e; unfold wrap64; omega
        go_enter Tryd.func28, Tryd.ntmps28
        go_wp2_with fail
        refine (C0 _).mono ?_
        rintro e w1 ⟨rfl, hb⟩
        have HB1 := hid_of (below_more HB0.out hb)
        have HT1 := hid_of (HT0.out.on hb)
        have HA1 := hid_of (box_on HA0.out hb)
        clear HB0 HT0 HA0 hb
        clear C0
        have t0 := HT1.out.c0
        have t1 := HT1.out.c1
        have t2 := HT1.out.c2
        have t3 := HT1.out.c3
        have t4 := HT1.out.c4
        have t5 := HT1.out.c5
        have a0 := HA1.out.c0
        have a1 := HA1.out.c1
        have a2 := HA1.out.c2
        go_wp2_with fail
        refine (C1 _).mono ?_
        rintro e w2 ⟨rfl, hb⟩
        clear t0 t1 t2 t3 t4 t5 a0 a1 a2
        have HB2 := hid_of (below_more HB1.out hb)
        have HT2 := hid_of (HT1.out.on hb)
        have HA2 := hid_of (box_on HA1.out hb)
        clear HB1 HT1 HA1 hb
        clear C1
        have t0 := HT2.out.c0
        have t1 := HT2.out.c1
        have t2 := HT2.out.c2
        have t3 := HT2.out.c3
        have t4 := HT2.out.c4
        have t5 := HT2.out.c5
        have a0 := HA2.out.c0
        have a1 := HA2.out.c1
        have a2 := HA2.out.c2
        go_wp2_with fail
        refine (C2 _).mono ?_
        rintro e w3 ⟨rfl, hb⟩
        clear t0 t1 t2 t3 t4 t5 a0 a1 a2
        have HB3 := hid_of (below_more HB2.out hb)
        have HT3 := hid_of (HT2.out.on hb)
        have HA3 := hid_of (box_on HA2.out hb)
        clear HB2 HT2 HA2 hb
        clear C2
        have t0 := HT3.out.c0
        have t1 := HT3.out.c1
        have t2 := HT3.out.c2
        have t3 := HT3.out.c3
        have t4 := HT3.out.c4
        have t5 := HT3.out.c5
        have a0 := HA3.out.c0
        have a1 := HA3.out.c1
        have a2 := HA3.out.c2
        go_wp2
        go_ret
        exact ⟨rfl, HB3.out⟩
set_option maxHeartbeats 400000 in
theorem constFlow_b (t n : Int) (w : World) (h0 : 0 ≤ n) (h1 : n ≤ 1000000) (ht0 : 0 ≤ t) (ht1 : t ≤ 1000) :
    Calls Tryd.prog 94 #[.int .i64 t, .int .i64 n] w fun e w' => e = .returned (.int .i64 (flowN 1 t n)) ∧ Below w.heap.size w w' := by
  by_cases hm : n < t
  · have e : flowN 1 t n = n := by rw [flowN_const]; omega
    rw [e]
    clear e
    go_enter Tryd.func94, Tryd.ntmps94
    go_wp2
    go_ret
    exact ⟨rfl, Below.refl _ _⟩
  · have e : flowN 1 t n = t := by rw [flowN_const]; omega
    rw [e]
    clear e
    go_enter Tryd.func94, Tryd.ntmps94
    go_wp2
    go_ret
    exact ⟨rfl, Below.refl _ _⟩
set_option maxHeartbeats 400000 in
theorem shareFlow_b (t n : Int) (w : World) (h0 : 0 ≤ n) (h1 : n ≤ 1000000) (ht0 : 0 ≤ t) (ht1 : t ≤ 100) :
    Calls Tryd.prog 96 #[.int .i64 t, .int .i64 n] w fun e w' => e = .returned (.int .i64 (flowN 2 t n)) ∧ Below w.heap.size w w' := by
  rw [flowN_share]
  have hx := flow_mul h0 h1 ht0 ht1
  have hd := flow_div hx.1
  have hw : wrap64 (n * t) = n * t := by unfold wrap64; omega
  go_enter Tryd.func96, Tryd.ntmps96
  go_wp2
  go_ret
  exact ⟨rfl, Below.refl _ _⟩
set_option maxHeartbeats 2000000 in
theorem implFlow_any (r p q h k t a b c : Int) (w : World) :
    Calls Tryd.prog 13 #[tapV r p q h k t, amt a b c] w fun e w' => e = .returned (.int .i64 (flowOf r p q h k t a b c)) ∧ Below w.heap.size w w' := by
  have C0 := fun w => implTapOk_any r p q h k t w
  have hb0 : Below w.heap.size w ((w.alloc (boxT r p q h k t)).alloc (boxA a b c)) := by go_grown
  have HB0 : Hid (Below w.heap.size w ((w.alloc (boxT r p q h k t)).alloc (boxA a b c))) := hb0
  have HT0 : Hid (Tap6 ((w.alloc (boxT r p q h k t)).alloc (boxA a b c)) w.heap.size r p q h k t) := (⟨heap_alloc_new w _⟩ : Tap6 (w.alloc (boxT r p q h k t)) w.heap.size r p q h k t).on (below_alloc _ _)
  have HA0 : Hid (Box3 ((w.alloc (boxT r p q h k t)).alloc (boxA a b c)) (w.heap.size + 1) 37 a b c) := ⟨by have e := heap_alloc_new (w.alloc (boxT r p q h k t)) (boxA a b c); rw [World.size_alloc] at e; exact e⟩
  clear hb0
  cases h1 : tapOk r p q h k t with
  | false =>
    rw [flowOf_no1 h1]
    rw [h1] at C0
    clear h1
    go_enter Tryd.func13, Tryd.ntmps13
    go_wp2_with fail
    refine (C0 _).mono ?_
    rintro e w1 ⟨rfl, hb⟩
    have HB1 := hid_of (below_more HB0.out hb)
    have HT1 := hid_of (HT0.out.on hb)
    have HA1 := hid_of (box_on HA0.out hb)
    clear HB0 HT0 HA0 hb
    clear C0
    go_wp2
    go_ret
    exact ⟨rfl, HB1.out⟩
  | true =>
    rw [h1] at C0
    have C1 := fun w => (implAmtOk_in a b c w).mono fun e w' (h : _ ∧ _) => (⟨h.1, by rw [h.2]; go_grown⟩ : e = .returned (.bool (amtOk a b c)) ∧ Below w.heap.size w w')
    cases h2 : amtOk a b c with
    | false =>
      rw [flowOf_no2 h2]
      rw [h2] at C1
      clear h1 h2
      go_enter Tryd.func13, Tryd.ntmps13
      go_wp2_with fail
      refine (C0 _).mono ?_
      rintro e w1 ⟨rfl, hb⟩
      have HB1 := hid_of (below_more HB0.out hb)
      have HT1 := hid_of (HT0.out.on hb)
      have HA1 := hid_of (box_on HA0.out hb)
      clear HB0 HT0 HA0 hb
      clear C0
      have t0 := HT1.out.c0
      have t1 := HT1.out.c1
      have t2 := HT1.out.c2
      have t3 := HT1.out.c3
      have t4 := HT1.out.c4
      have t5 := HT1.out.c5
      have a0 := HA1.out.c0
      have a1 := HA1.out.c1
      have a2 := HA1.out.c2
      go_wp2_with fail
      refine (C1 _).mono ?_
      rintro e w2 ⟨rfl, hb⟩
      clear t0 t1 t2 t3 t4 t5 a0 a1 a2
      have HB2 := hid_of (below_more HB1.out hb)
      have HT2 := hid_of (HT1.out.on hb)
      have HA2 := hid_of (box_on HA1.out hb)
      clear HB1 HT1 HA1 hb
      clear C1
      go_wp2
      go_ret
      exact ⟨rfl, HB2.out⟩
    | true =>
      rw [flowOf_yes h1 h2]
      rw [h2] at C1
      have hn := partOf_small (h := h) h2
      obtain ⟨_, _, _, hh, hk⟩ := tapOk_true h1
      have C2 := fun w => implPart_b a b c h w
      have HI : Hid (0 ≤ flowN k t (partOf h a b c) ∧ flowN k t (partOf h a b c) ≤ partOf h a b c ∧ (k = 1 → flowN k t (partOf h a b c) ≤ t)) := flowN_in hn.1 hn.2 hk
      generalize partOf h a b c = n at hn C2 HI ⊢
      clear h1 h2
      rcases hk with ⟨rfl, ht0, ht1⟩ | ⟨rfl, ht0, ht1⟩
      · have C3 := fun w => kindOf_any r p q h 1 t w
        have e : kindV 1 t = .iface 86 (.int .i64 t) := rfl
        rw [e] at C3
        clear e
        have C4 := fun w => constFlow_b t n w hn.1 hn.2 ht0 ht1
        generalize flowN 1 t n = m at C4 HI ⊢
        go_enter Tryd.func13, Tryd.ntmps13
        go_wp2_with fail
        refine (C0 _).mono ?_
        rintro e w1 ⟨rfl, hb⟩
        have HB1 := hid_of (below_more HB0.out hb)
        have HT1 := hid_of (HT0.out.on hb)
        have HA1 := hid_of (box_on HA0.out hb)
        clear HB0 HT0 HA0 hb
        clear C0
        have t0 := HT1.out.c0
        have t1 := HT1.out.c1
        have t2 := HT1.out.c2
        have t3 := HT1.out.c3
        have t4 := HT1.out.c4
        have t5 := HT1.out.c5
        have a0 := HA1.out.c0
        have a1 := HA1.out.c1
        have a2 := HA1.out.c2
        go_wp2_with fail
        refine (C1 _).mono ?_
        rintro e w2 ⟨rfl, hb⟩
        clear t0 t1 t2 t3 t4 t5 a0 a1 a2
        have HB2 := hid_of (below_more HB1.out hb)
        have HT2 := hid_of (HT1.out.on hb)
        have HA2 := hid_of (box_on HA1.out hb)
        clear HB1 HT1 HA1 hb
        clear C1
        dsimp only
        repeat (first | (with_reducible refine halt_region (id := 3) ?_) | go_values | go_skip | go_guarded | go_step | go_upon | go_back)
        unfold Halt0
        refine wp_region_whole (by kernel_rfl) (by kernel_rfl) (by kernel_rfl) (by kernel_rfl) (Flat (fun wz => Below w.heap.size w wz ∧ Tap6 wz w.heap.size r p q h 1 t ∧ Box3 wz (w.heap.size + 1) 37 a b c) (gVals [tapV r p q h 1 t, .iface 86 (.int .i64 t), amt a b c, .pointer (some ⟨w.heap.size, 3, none⟩), .int .i64 h, .int .i64 n, .func (.method "loop.example/g01287/impl.flow") #[.iface 86 (.int .i64 t)] #[], .func (.method "loop.example/g01287/impl.flow") #[.iface 86 (.int .i64 t)] #[], .iface 86 (.int .i64 t), .int .i64 m, .int .i64 m])) (flat_start ⟨HB2.out.drew, HT2.out.on (below_draw _), box_on HA2.out (below_draw _)⟩) ?_ ?_
        · refine ⟨?_, ?_, ?_, ?_, ?_, ?_, ?_, ?_, ?_, ?_, ?_, trivial⟩
          · intro b0 us wz L hslot hoth hLi hR hcl hdo K hK
            have s2 : b0.tmps.getD 2 undef = .pointer (some ⟨w.heap.size, 0, none⟩) := hoth 2 (by rfl)
            have t0 := (hR.1.2.1).c0
            have t1 := (hR.1.2.1).c1
            have t2 := (hR.1.2.1).c2
            have t3 := (hR.1.2.1).c3
            have t4 := (hR.1.2.1).c4
            have t5 := (hR.1.2.1).c5
            clear hslot hoth hdo hcl hLi
            refine guard_none (by rfl) ?_
            go_simp
            exact hK _ _ (flat_mark (hR.1) (fun _ _ h => h) hR.2 rfl)
          · intro b0 us wz L hslot hoth hLi hR hcl hdo K hK
            have s13 : b0.tmps.getD 13 undef = tapV r p q h 1 t := (hslot 0 13 (by rfl)).trans (hR.2 0 (done_at hdo 0 (by rfl)))
            clear hslot hoth hdo hcl hLi
            refine guard_none (by rfl) ?_
            go_simp
            refine (C3 wz).mono ?_
            rintro e w' ⟨rfl, hb⟩
            exact hK _ _ (flat_mark ⟨below_more hR.1.1 hb, hR.1.2.1.on hb, box_on hR.1.2.2 hb⟩ (fun _ _ h => h) hR.2 rfl)
          · intro b0 us wz L hslot hoth hLi hR hcl hdo K hK
            have s3 : b0.tmps.getD 3 undef = .pointer (some ⟨w.heap.size + 1, 0, none⟩) := hoth 3 (by rfl)
            have a0 := (hR.1.2.2).c0
            have a1 := (hR.1.2.2).c1
            have a2 := (hR.1.2.2).c2
            clear hslot hoth hdo hcl hLi
            refine guard_none (by rfl) ?_
            go_simp
            exact hK _ _ (flat_mark (hR.1) (fun _ _ h => h) hR.2 rfl)
          · intro b0 us wz L hslot hoth hLi hR hcl hdo K hK
            have s2 : b0.tmps.getD 2 undef = .pointer (some ⟨w.heap.size, 0, none⟩) := hoth 2 (by rfl)
            clear hslot hoth hdo hcl hLi
            refine guard_none (by rfl) ?_
            go_simp
            exact hK _ _ (flat_mark (hR.1) (fun _ _ h => h) hR.2 rfl)
          · intro b0 us wz L hslot hoth hLi hR hcl hdo K hK
            have s16 : b0.tmps.getD 16 undef = .pointer (some ⟨w.heap.size, 3, none⟩) := (hslot 3 16 (by rfl)).trans (hR.2 3 (done_at hdo 3 (by rfl)))
            have t0 := (hR.1.2.1).c0
            have t1 := (hR.1.2.1).c1
            have t2 := (hR.1.2.1).c2
            have t3 := (hR.1.2.1).c3
            have t4 := (hR.1.2.1).c4
            have t5 := (hR.1.2.1).c5
            clear hslot hoth hdo hcl hLi
            refine guard_none (by rfl) ?_
            go_simp
            exact hK _ _ (flat_mark (hR.1) (fun _ _ h => h) hR.2 rfl)
          · intro b0 us wz L hslot hoth hLi hR hcl hdo K hK
            have s15 : b0.tmps.getD 15 undef = amt a b c := (hslot 2 15 (by rfl)).trans (hR.2 2 (done_at hdo 2 (by rfl)))
            have s17 : b0.tmps.getD 17 undef = .int .i64 h := (hslot 4 17 (by rfl)).trans (hR.2 4 (done_at hdo 4 (by rfl)))
            clear hslot hoth hdo hcl hLi
            refine guard_none (by rfl) ?_
            go_simp
            refine (C2 wz).mono ?_
            rintro e w' ⟨rfl, hb⟩
            exact hK _ _ (flat_mark ⟨below_more hR.1.1 hb, hR.1.2.1.on hb, box_on hR.1.2.2 hb⟩ (fun _ _ h => h) hR.2 rfl)
          · intro b0 us wz L hslot hoth hLi hR hcl hdo K hK
            have s14 : b0.tmps.getD 14 undef = .iface 86 (.int .i64 t) := (hslot 1 14 (by rfl)).trans (hR.2 1 (done_at hdo 1 (by rfl)))
            clear hslot hoth hdo hcl hLi
            refine guard_none (by rfl) ?_
            go_simp
            exact hK _ _ (flat_mark (hR.1) (fun _ _ h => h) hR.2 rfl)
          · intro b0 us wz L hslot hoth hLi hR hcl hdo K hK
            have s19 : b0.tmps.getD 19 undef = .func (.method "loop.example/g01287/impl.flow") #[.iface 86 (.int .i64 t)] #[] := (hslot 6 19 (by rfl)).trans (hR.2 6 (done_at hdo 6 (by rfl)))
            clear hslot hoth hdo hcl hLi
            refine guard_none (by rfl) ?_
            go_simp
            exact hK _ _ (flat_mark (hR.1) (fun _ _ h => h) hR.2 rfl)
          · intro b0 us wz L hslot hoth hLi hR hcl hdo K hK
            have s14 : b0.tmps.getD 14 undef = .iface 86 (.int .i64 t) := (hslot 1 14 (by rfl)).trans (hR.2 1 (done_at hdo 1 (by rfl)))
            clear hslot hoth hdo hcl hLi
            refine guard_none (by rfl) ?_
            go_simp
            exact hK _ _ (flat_mark (hR.1) (fun _ _ h => h) hR.2 rfl)
          · intro b0 us wz L hslot hoth hLi hR hcl hdo K hK
            have s21 : b0.tmps.getD 21 undef = .iface 86 (.int .i64 t) := (hslot 8 21 (by rfl)).trans (hR.2 8 (done_at hdo 8 (by rfl)))
            have s18 : b0.tmps.getD 18 undef = .int .i64 n := (hslot 5 18 (by rfl)).trans (hR.2 5 (done_at hdo 5 (by rfl)))
            clear hslot hoth hdo hcl hLi
            refine guard_none (by rfl) ?_
            go_simp
            refine (C4 wz).mono ?_
            rintro e w' ⟨rfl, hb⟩
            exact hK _ _ (flat_mark ⟨below_more hR.1.1 hb, hR.1.2.1.on hb, box_on hR.1.2.2 hb⟩ (fun _ _ h => h) hR.2 rfl)
          · intro b0 us wz L hslot hoth hLi hR hcl hdo K hK
            have s22 : b0.tmps.getD 22 undef = .int .i64 m := (hslot 9 22 (by rfl)).trans (hR.2 9 (done_at hdo 9 (by rfl)))
            clear hslot hoth hdo hcl hLi
            refine guard_none (by rfl) ?_
            go_simp
            exact hK _ _ (flat_mark (hR.1) (fun _ _ h => h) hR.2 rfl)
        · intro us wn L hall hR a' ha'
          have g0 : us 0 = tapV r p q h 1 t := hR.2 0 (hall 0 (by decide))
          have g1 : us 1 = .iface 86 (.int .i64 t) := hR.2 1 (hall 1 (by decide))
          have g2 : us 2 = amt a b c := hR.2 2 (hall 2 (by decide))
          have g3 : us 3 = .pointer (some ⟨w.heap.size, 3, none⟩) := hR.2 3 (hall 3 (by decide))
          have g4 : us 4 = .int .i64 h := hR.2 4 (hall 4 (by decide))
          have g5 : us 5 = .int .i64 n := hR.2 5 (hall 5 (by decide))
          have g6 : us 6 = .func (.method "loop.example/g01287/impl.flow") #[.iface 86 (.int .i64 t)] #[] := hR.2 6 (hall 6 (by decide))
          have g7 : us 7 = .func (.method "loop.example/g01287/impl.flow") #[.iface 86 (.int .i64 t)] #[] := hR.2 7 (hall 7 (by decide))
          have g8 : us 8 = .iface 86 (.int .i64 t) := hR.2 8 (hall 8 (by decide))
          have g9 : us 9 = .int .i64 m := hR.2 9 (hall 9 (by decide))
          have g10 : us 10 = .int .i64 m := hR.2 10 (hall 10 (by decide))
          have HBE := hid_of hR.1.1
          clear hR hall
          simp only [putAll, g0, g1, g2, g3, g4, g5, g6, g7, g8, g9, g10] at ha'
          subst ha'
          go_frame
          go_wp2
          go_ret
          exact ⟨rfl, HBE.out⟩
      · have C3 := fun w => kindOf_any r p q h 2 t w
        have e : kindV 2 t = .iface 87 (.int .i64 t) := rfl
        rw [e] at C3
        clear e
        have C4 := fun w => shareFlow_b t n w hn.1 hn.2 ht0 ht1
        generalize flowN 2 t n = m at C4 HI ⊢
        go_enter Tryd.func13, Tryd.ntmps13
        go_wp2_with fail
        refine (C0 _).mono ?_
        rintro e w1 ⟨rfl, hb⟩
        have HB1 := hid_of (below_more HB0.out hb)
        have HT1 := hid_of (HT0.out.on hb)
        have HA1 := hid_of (box_on HA0.out hb)
        clear HB0 HT0 HA0 hb
        clear C0
        have t0 := HT1.out.c0
        have t1 := HT1.out.c1
        have t2 := HT1.out.c2
        have t3 := HT1.out.c3
        have t4 := HT1.out.c4
        have t5 := HT1.out.c5
        have a0 := HA1.out.c0
        have a1 := HA1.out.c1
        have a2 := HA1.out.c2
        go_wp2_with fail
        refine (C1 _).mono ?_
        rintro e w2 ⟨rfl, hb⟩
        clear t0 t1 t2 t3 t4 t5 a0 a1 a2
        have HB2 := hid_of (below_more HB1.out hb)
        have HT2 := hid_of (HT1.out.on hb)
        have HA2 := hid_of (box_on HA1.out hb)
        clear HB1 HT1 HA1 hb
        clear C1
        dsimp only
        repeat (first | (with_reducible refine halt_region (id := 3) ?_) | go_values | go_skip | go_guarded | go_step | go_upon | go_back)
        unfold Halt0
        refine wp_region_whole (by kernel_rfl) (by kernel_rfl) (by kernel_rfl) (by kernel_rfl) (Flat (fun wz => Below w.heap.size w wz ∧ Tap6 wz w.heap.size r p q h 2 t ∧ Box3 wz (w.heap.size + 1) 37 a b c) (gVals [tapV r p q h 2 t, .iface 87 (.int .i64 t), amt a b c, .pointer (some ⟨w.heap.size, 3, none⟩), .int .i64 h, .int .i64 n, .func (.method "loop.example/g01287/impl.flow") #[.iface 87 (.int .i64 t)] #[], .func (.method "loop.example/g01287/impl.flow") #[.iface 87 (.int .i64 t)] #[], .iface 87 (.int .i64 t), .int .i64 m, .int .i64 m])) (flat_start ⟨HB2.out.drew, HT2.out.on (below_draw _), box_on HA2.out (below_draw _)⟩) ?_ ?_
        · refine ⟨?_, ?_, ?_, ?_, ?_, ?_, ?_, ?_, ?_, ?_, ?_, trivial⟩
          · intro b0 us wz L hslot hoth hLi hR hcl hdo K hK
            have s2 : b0.tmps.getD 2 undef = .pointer (some ⟨w.heap.size, 0, none⟩) := hoth 2 (by rfl)
            have t0 := (hR.1.2.1).c0
            have t1 := (hR.1.2.1).c1
            have t2 := (hR.1.2.1).c2
            have t3 := (hR.1.2.1).c3
            have t4 := (hR.1.2.1).c4
            have t5 := (hR.1.2.1).c5
            clear hslot hoth hdo hcl hLi
            refine guard_none (by rfl) ?_
            go_simp
            exact hK _ _ (flat_mark (hR.1) (fun _ _ h => h) hR.2 rfl)
          · intro b0 us wz L hslot hoth hLi hR hcl hdo K hK
            have s13 : b0.tmps.getD 13 undef = tapV r p q h 2 t := (hslot 0 13 (by rfl)).trans (hR.2 0 (done_at hdo 0 (by rfl)))
            clear hslot hoth hdo hcl hLi
            refine guard_none (by rfl) ?_
            go_simp
            refine (C3 wz).mono ?_
            rintro e w' ⟨rfl, hb⟩
            exact hK _ _ (flat_mark ⟨below_more hR.1.1 hb, hR.1.2.1.on hb, box_on hR.1.2.2 hb⟩ (fun _ _ h => h) hR.2 rfl)
          · intro b0 us wz L hslot hoth hLi hR hcl hdo K hK
            have s3 : b0.tmps.getD 3 undef = .pointer (some ⟨w.heap.size + 1, 0, none⟩) := hoth 3 (by rfl)
            have a0 := (hR.1.2.2).c0
            have a1 := (hR.1.2.2).c1
            have a2 := (hR.1.2.2).c2
            clear hslot hoth hdo hcl hLi
            refine guard_none (by rfl) ?_
            go_simp
            exact hK _ _ (flat_mark (hR.1) (fun _ _ h => h) hR.2 rfl)
          · intro b0 us wz L hslot hoth hLi hR hcl hdo K hK
            have s2 : b0.tmps.getD 2 undef = .pointer (some ⟨w.heap.size, 0, none⟩) := hoth 2 (by rfl)
            clear hslot hoth hdo hcl hLi
            refine guard_none (by rfl) ?_
            go_simp
            exact hK _ _ (flat_mark (hR.1) (fun _ _ h => h) hR.2 rfl)
          · intro b0 us wz L hslot hoth hLi hR hcl hdo K hK
            have s16 : b0.tmps.getD 16 undef = .pointer (some ⟨w.heap.size, 3, none⟩) := (hslot 3 16 (by rfl)).trans (hR.2 3 (done_at hdo 3 (by rfl)))
            have t0 := (hR.1.2.1).c0
            have t1 := (hR.1.2.1).c1
            have t2 := (hR.1.2.1).c2
            have t3 := (hR.1.2.1).c3
            have t4 := (hR.1.2.1).c4
            have t5 := (hR.1.2.1).c5
            clear hslot hoth hdo hcl hLi
            refine guard_none (by rfl) ?_
            go_simp
            exact hK _ _ (flat_mark (hR.1) (fun _ _ h => h) hR.2 rfl)
          · intro b0 us wz L hslot hoth hLi hR hcl hdo K hK
            have s15 : b0.tmps.getD 15 undef = amt a b c := (hslot 2 15 (by rfl)).trans (hR.2 2 (done_at hdo 2 (by rfl)))
            have s17 : b0.tmps.getD 17 undef = .int .i64 h := (hslot 4 17 (by rfl)).trans (hR.2 4 (done_at hdo 4 (by rfl)))
            clear hslot hoth hdo hcl hLi
            refine guard_none (by rfl) ?_
            go_simp
            refine (C2 wz).mono ?_
            rintro e w' ⟨rfl, hb⟩
            exact hK _ _ (flat_mark ⟨below_more hR.1.1 hb, hR.1.2.1.on hb, box_on hR.1.2.2 hb⟩ (fun _ _ h => h) hR.2 rfl)
          · intro b0 us wz L hslot hoth hLi hR hcl hdo K hK
            have s14 : b0.tmps.getD 14 undef = .iface 87 (.int .i64 t) := (hslot 1 14 (by rfl)).trans (hR.2 1 (done_at hdo 1 (by rfl)))
            clear hslot hoth hdo hcl hLi
            refine guard_none (by rfl) ?_
            go_simp
            exact hK _ _ (flat_mark (hR.1) (fun _ _ h => h) hR.2 rfl)
          · intro b0 us wz L hslot hoth hLi hR hcl hdo K hK
            have s19 : b0.tmps.getD 19 undef = .func (.method "loop.example/g01287/impl.flow") #[.iface 87 (.int .i64 t)] #[] := (hslot 6 19 (by rfl)).trans (hR.2 6 (done_at hdo 6 (by rfl)))
            clear hslot hoth hdo hcl hLi
            refine guard_none (by rfl) ?_
            go_simp
            exact hK _ _ (flat_mark (hR.1) (fun _ _ h => h) hR.2 rfl)
          · intro b0 us wz L hslot hoth hLi hR hcl hdo K hK
            have s14 : b0.tmps.getD 14 undef = .iface 87 (.int .i64 t) := (hslot 1 14 (by rfl)).trans (hR.2 1 (done_at hdo 1 (by rfl)))
            clear hslot hoth hdo hcl hLi
            refine guard_none (by rfl) ?_
            go_simp
            exact hK _ _ (flat_mark (hR.1) (fun _ _ h => h) hR.2 rfl)
          · intro b0 us wz L hslot hoth hLi hR hcl hdo K hK
            have s21 : b0.tmps.getD 21 undef = .iface 87 (.int .i64 t) := (hslot 8 21 (by rfl)).trans (hR.2 8 (done_at hdo 8 (by rfl)))
            have s18 : b0.tmps.getD 18 undef = .int .i64 n := (hslot 5 18 (by rfl)).trans (hR.2 5 (done_at hdo 5 (by rfl)))
            clear hslot hoth hdo hcl hLi
            refine guard_none (by rfl) ?_
            go_simp
            refine (C4 wz).mono ?_
            rintro e w' ⟨rfl, hb⟩
            exact hK _ _ (flat_mark ⟨below_more hR.1.1 hb, hR.1.2.1.on hb, box_on hR.1.2.2 hb⟩ (fun _ _ h => h) hR.2 rfl)
          · intro b0 us wz L hslot hoth hLi hR hcl hdo K hK
            have s22 : b0.tmps.getD 22 undef = .int .i64 m := (hslot 9 22 (by rfl)).trans (hR.2 9 (done_at hdo 9 (by rfl)))
            clear hslot hoth hdo hcl hLi
            refine guard_none (by rfl) ?_
            go_simp
            exact hK _ _ (flat_mark (hR.1) (fun _ _ h => h) hR.2 rfl)
        · intro us wn L hall hR a' ha'
          have g0 : us 0 = tapV r p q h 2 t := hR.2 0 (hall 0 (by decide))
          have g1 : us 1 = .iface 87 (.int .i64 t) := hR.2 1 (hall 1 (by decide))
          have g2 : us 2 = amt a b c := hR.2 2 (hall 2 (by decide))
          have g3 : us 3 = .pointer (some ⟨w.heap.size, 3, none⟩) := hR.2 3 (hall 3 (by decide))
          have g4 : us 4 = .int .i64 h := hR.2 4 (hall 4 (by decide))
          have g5 : us 5 = .int .i64 n := hR.2 5 (hall 5 (by decide))
          have g6 : us 6 = .func (.method "loop.example/g01287/impl.flow") #[.iface 87 (.int .i64 t)] #[] := hR.2 6 (hall 6 (by decide))
          have g7 : us 7 = .func (.method "loop.example/g01287/impl.flow") #[.iface 87 (.int .i64 t)] #[] := hR.2 7 (hall 7 (by decide))
          have g8 : us 8 = .iface 87 (.int .i64 t) := hR.2 8 (hall 8 (by decide))
          have g9 : us 9 = .int .i64 m := hR.2 9 (hall 9 (by decide))
          have g10 : us 10 = .int .i64 m := hR.2 10 (hall 10 (by decide))
          have HBE := hid_of hR.1.1
          clear hR hall
          simp only [putAll, g0, g1, g2, g3, g4, g5, g6, g7, g8, g9, g10] at ha'
          subst ha'
          go_frame
          go_wp2
          go_ret
          exact ⟨rfl, HBE.out⟩
end Go.Proofs.YtfcenombphodbaaDoor
