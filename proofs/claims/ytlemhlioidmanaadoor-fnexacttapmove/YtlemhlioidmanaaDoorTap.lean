/-
  Taps: what both sides answer of one.
-/
import Derived.Test.YtlemhlioidmanaaDoorOneT
import Derived.Test.YtlemhlioidmanaaDoorSpecOk
namespace Go.Proofs.YtlemhlioidmanaaDoor
open Go.RowKit
set_option linter.unusedVariables false
set_option maxRecDepth 100000

/-- A tap, and its block on either side. -/
abbrev tapV (r p q h k t : Int) : Value := .agg #[.int .i64 r, .int .i64 p, .int .i64 q, .int .i64 h, .int .i64 k, .int .i64 t]
abbrev boxT (r p q h k t : Int) : Obj := .cells #[.int .i64 r, .int .i64 p, .int .i64 q, .int .i64 h, .int .i64 k, .int .i64 t] 30 (0, 0)
abbrev boxTL (r p q h k t : Int) : Obj := .cells #[.int .i64 r, .int .i64 p, .int .i64 q, .int .i64 h, .int .i64 k, .int .i64 t] 24 (0, 0)
/-- Is its rate right for its kind? -/
def rateB (k t : Int) : Bool := if k = 1 then inB t 0 1000 else if k = 2 then inB t 0 100 else false
/-- Is a tap right? -/
def tapOk (r p q h k t : Int) : Bool := inB r 0 4 && (inB p 0 2 && (inB q 0 4 && (inB h 0 2 && rateB k t)))
/-- How much flows of n. -/
def flowN (k t n : Int) : Int := if k = 1 then min n t else n * t / 100
def flowOf (r p q h k t a b c : Int) : Int := if tapOk r p q h k t && amtOk a b c then flowN k t (partOf h a b c) else 0
theorem l6Res_b (x : Int) (w : World) :
    Calls Tryd.prog 35 #[.int .i64 x] w fun e w' => e = .returned (.bool (inB x 0 4)) ∧ w = w' := l6Res_any x w
theorem isPlace_b (k : Int) (w : World) :
    Calls Tryd.prog 64 #[.int .i64 k] w fun r w' => r = .returned (.bool (inB k 0 4)) ∧ w = w' := by
  by_cases h1 : 0 ≤ k
  · by_cases h2 : k < 5
    · rw [inB_yes h1 (by omega)]
      go_enter Tryd.func64, Tryd.ntmps64
      go_wp2
      go_ret
      exact ⟨by simp, rfl⟩
    · rw [inB_no (by omega)]
      go_enter Tryd.func64, Tryd.ntmps64
      go_wp2
      go_ret
      exact ⟨by simp, rfl⟩
  · rw [inB_no (by omega)]
    go_enter Tryd.func64, Tryd.ntmps64
    go_wp2
    go_ret
    exact ⟨by simp, rfl⟩
theorem isPart_b (k : Int) (w : World) :
    Calls Tryd.prog 65 #[.int .i64 k] w fun r w' => r = .returned (.bool (inB k 0 2)) ∧ w = w' := by
  by_cases h1 : 0 ≤ k
  · by_cases h2 : k < 3
    · rw [inB_yes h1 (by omega)]
      go_enter Tryd.func65, Tryd.ntmps65
      go_wp2
      go_ret
      exact ⟨by simp, rfl⟩
    · rw [inB_no (by omega)]
      go_enter Tryd.func65, Tryd.ntmps65
      go_wp2
      go_ret
      exact ⟨by simp, rfl⟩
  · rw [inB_no (by omega)]
    go_enter Tryd.func65, Tryd.ntmps65
    go_wp2
    go_ret
    exact ⟨by simp, rfl⟩
theorem toTap_any (r p q h k t : Int) (w : World) :
    Calls Tryd.prog 7 #[tapV r p q h k t] w fun e w' => e = .returned (tapV r p q h k t) ∧ Below w.heap.size w w' := by
  go_enter Tryd.func7, Tryd.ntmps7
  go_wp2
  go_returns
  exact ⟨rfl, by go_grown⟩
/-- The kind behind the interface. -/
def kindV (k t : Int) : Value := if k = 1 then .iface 92 (.int .i64 t) else if k = 2 then .iface 93 (.int .i64 t) else .iface 95 (.agg #[])
theorem kindOf_any (r p q h k t : Int) (w : World) :
    Calls Tryd.prog 49 #[tapV r p q h k t] w fun e w' => e = .returned (kindV k t) ∧ Below w.heap.size w w' := by
  by_cases h1 : k = 1
  · have e : kindV k t = .iface 92 (.int .i64 t) := by simp [kindV, h1]
    rw [e]
    clear e
    subst h1
    go_enter Tryd.func49, Tryd.ntmps49
    go_wp2
    go_ret
    exact ⟨rfl, by go_grown⟩
  by_cases h2 : k = 2
  · have e : kindV k t = .iface 93 (.int .i64 t) := by simp [kindV, h2]
    rw [e]
    clear e
    subst h2
    go_enter Tryd.func49, Tryd.ntmps49
    go_wp2
    go_ret
    exact ⟨rfl, by go_grown⟩
  · have e : kindV k t = .iface 95 (.agg #[]) := by simp [kindV, h1, h2]
    rw [e]
    clear e
    go_enter Tryd.func49, Tryd.ntmps49
    go_wp2
    go_ret
    exact ⟨rfl, by go_grown⟩
theorem constRateOk_b (t : Int) (w : World) :
    Calls Tryd.prog 94 #[.int .i64 t] w fun e w' => e = .returned (.bool (inB t 0 1000)) ∧ w = w' := by
  by_cases h1 : 0 ≤ t
  · by_cases h2 : t ≤ 1000
    · rw [inB_yes h1 (by omega)]
      go_enter Tryd.func94, Tryd.ntmps94
      go_wp2
      go_ret
      exact ⟨by simp, rfl⟩
    · rw [inB_no (by omega)]
      go_enter Tryd.func94, Tryd.ntmps94
      go_wp2
      go_ret
      exact ⟨by simp, rfl⟩
  · rw [inB_no (by omega)]
    go_enter Tryd.func94, Tryd.ntmps94
    go_wp2
    go_ret
    exact ⟨by simp, rfl⟩
theorem shareRateOk_b (t : Int) (w : World) :
    Calls Tryd.prog 96 #[.int .i64 t] w fun e w' => e = .returned (.bool (inB t 0 100)) ∧ w = w' := by
  by_cases h1 : 0 ≤ t
  · by_cases h2 : t ≤ 100
    · rw [inB_yes h1 (by omega)]
      go_enter Tryd.func96, Tryd.ntmps96
      go_wp2
      go_ret
      exact ⟨by simp, rfl⟩
    · rw [inB_no (by omega)]
      go_enter Tryd.func96, Tryd.ntmps96
      go_wp2
      go_ret
      exact ⟨by simp, rfl⟩
  · rw [inB_no (by omega)]
    go_enter Tryd.func96, Tryd.ntmps96
    go_wp2
    go_ret
    exact ⟨by simp, rfl⟩
set_option maxHeartbeats 1000000 in
theorem specTapOk_any (r p q h k t : Int) (w : World) :
    Calls Tryd.prog 15 #[tapV r p q h k t] w fun e w' => e = .returned (.bool (tapOk r p q h k t)) ∧ Below w.heap.size w w' := by
  have C0 := fun w => l6Res_b r w
  have C1 := fun w => l1In_b p 0 2 w
  have C2 := fun w => l6Res_b q w
  have C3 := fun w => l1In_b h 0 2 w
  unfold tapOk
  generalize inB r 0 4 = x at C0 ⊢
  generalize inB p 0 2 = y at C1 ⊢
  generalize inB q 0 4 = z at C2 ⊢
  generalize inB h 0 2 = u at C3 ⊢
  cases x with
  | false =>
    clear C1
    clear C2
    clear C3
    go_enter Tryd.func15, Tryd.ntmps15
    go_wp2_with fail
    refine (C0 _).mono ?_
    rintro e w1 ⟨rfl, rfl⟩
    go_wp2
    go_ret
    exact ⟨by simp, by go_grown⟩
  | true =>
    cases y with
    | false =>
      clear C2
      clear C3
      go_enter Tryd.func15, Tryd.ntmps15
      go_wp2_with fail
      refine (C0 _).mono ?_
      rintro e w1 ⟨rfl, rfl⟩
      go_wp2_with fail
      refine (C1 _).mono ?_
      rintro e w2 ⟨rfl, rfl⟩
      go_wp2
      go_ret
      exact ⟨by simp, by go_grown⟩
    | true =>
      cases z with
      | false =>
        clear C3
        go_enter Tryd.func15, Tryd.ntmps15
        go_wp2_with fail
        refine (C0 _).mono ?_
        rintro e w1 ⟨rfl, rfl⟩
        go_wp2_with fail
        refine (C1 _).mono ?_
        rintro e w2 ⟨rfl, rfl⟩
        go_wp2_with fail
        refine (C2 _).mono ?_
        rintro e w3 ⟨rfl, rfl⟩
        go_wp2
        go_ret
        exact ⟨by simp, by go_grown⟩
      | true =>
        cases u with
        | false =>
          go_enter Tryd.func15, Tryd.ntmps15
          go_wp2_with fail
          refine (C0 _).mono ?_
          rintro e w1 ⟨rfl, rfl⟩
          go_wp2_with fail
          refine (C1 _).mono ?_
          rintro e w2 ⟨rfl, rfl⟩
          go_wp2_with fail
          refine (C2 _).mono ?_
          rintro e w3 ⟨rfl, rfl⟩
          go_wp2_with fail
          refine (C3 _).mono ?_
          rintro e w4 ⟨rfl, rfl⟩
          go_wp2
          go_ret
          exact ⟨by simp, by go_grown⟩
        | true =>
          simp only [Bool.true_and]
          by_cases h1 : k = 1
          · subst h1
            have e : rateB 1 t = inB t 0 1000 := rfl
            rw [e]
            clear e
            have C4 := fun w => l1In_b t 0 1000 w
            generalize inB t 0 1000 = v at C4 ⊢
            go_enter Tryd.func15, Tryd.ntmps15
            go_wp2_with fail
            refine (C0 _).mono ?_
            rintro e w1 ⟨rfl, rfl⟩
            go_wp2_with fail
            refine (C1 _).mono ?_
            rintro e w2 ⟨rfl, rfl⟩
            go_wp2_with fail
            refine (C2 _).mono ?_
            rintro e w3 ⟨rfl, rfl⟩
            go_wp2_with fail
            refine (C3 _).mono ?_
            rintro e w4 ⟨rfl, rfl⟩
            go_wp2_with fail
            refine (C4 _).mono ?_
            rintro e w6 ⟨rfl, rfl⟩
            go_wp2
            go_ret
            exact ⟨by simp, by go_grown⟩
          by_cases h2 : k = 2
          · subst h2
            have e : rateB 2 t = inB t 0 100 := rfl
            rw [e]
            clear e
            have C4 := fun w => l1In_b t 0 100 w
            generalize inB t 0 100 = v at C4 ⊢
            go_enter Tryd.func15, Tryd.ntmps15
            go_wp2_with fail
            refine (C0 _).mono ?_
            rintro e w1 ⟨rfl, rfl⟩
            go_wp2_with fail
            refine (C1 _).mono ?_
            rintro e w2 ⟨rfl, rfl⟩
            go_wp2_with fail
            refine (C2 _).mono ?_
            rintro e w3 ⟨rfl, rfl⟩
            go_wp2_with fail
            refine (C3 _).mono ?_
            rintro e w4 ⟨rfl, rfl⟩
            go_wp2_with fail
            refine (C4 _).mono ?_
            rintro e w6 ⟨rfl, rfl⟩
            go_wp2
            go_ret
            exact ⟨by simp, by go_grown⟩
          · have e : rateB k t = false := by simp [rateB, h1, h2]
            rw [e]
            clear e
            go_enter Tryd.func15, Tryd.ntmps15
            go_wp2_with fail
            refine (C0 _).mono ?_
            rintro e w1 ⟨rfl, rfl⟩
            go_wp2_with fail
            refine (C1 _).mono ?_
            rintro e w2 ⟨rfl, rfl⟩
            go_wp2_with fail
            refine (C2 _).mono ?_
            rintro e w3 ⟨rfl, rfl⟩
            go_wp2_with fail
            refine (C3 _).mono ?_
            rintro e w4 ⟨rfl, rfl⟩
            go_wp2
            go_ret
            exact ⟨by simp, by go_grown⟩
set_option maxHeartbeats 1000000 in
theorem implTapOk_any (r p q h k t : Int) (w : World) :
    Calls Tryd.prog 46 #[tapV r p q h k t] w fun e w' => e = .returned (.bool (tapOk r p q h k t)) ∧ Below w.heap.size w w' := by
  have C0 := fun w => isPlace_b r w
  have C1 := fun w => isPart_b p w
  have C2 := fun w => isPlace_b q w
  have C3 := fun w => isRes_b h w
  unfold tapOk
  generalize inB r 0 4 = x at C0 ⊢
  generalize inB p 0 2 = y at C1 ⊢
  generalize inB q 0 4 = z at C2 ⊢
  generalize inB h 0 2 = u at C3 ⊢
  cases x with
  | false =>
    clear C1
    clear C2
    clear C3
    go_enter Tryd.func46, Tryd.ntmps46
    go_wp2_with fail
    refine (C0 _).mono ?_
    rintro e w1 ⟨rfl, rfl⟩
    go_wp2
    go_ret
    exact ⟨by simp, by go_grown⟩
  | true =>
    cases y with
    | false =>
      clear C2
      clear C3
      go_enter Tryd.func46, Tryd.ntmps46
      go_wp2_with fail
      refine (C0 _).mono ?_
      rintro e w1 ⟨rfl, rfl⟩
      go_wp2_with fail
      refine (C1 _).mono ?_
      rintro e w2 ⟨rfl, rfl⟩
      go_wp2
      go_ret
      exact ⟨by simp, by go_grown⟩
    | true =>
      cases z with
      | false =>
        clear C3
        go_enter Tryd.func46, Tryd.ntmps46
        go_wp2_with fail
        refine (C0 _).mono ?_
        rintro e w1 ⟨rfl, rfl⟩
        go_wp2_with fail
        refine (C1 _).mono ?_
        rintro e w2 ⟨rfl, rfl⟩
        go_wp2_with fail
        refine (C2 _).mono ?_
        rintro e w3 ⟨rfl, rfl⟩
        go_wp2
        go_ret
        exact ⟨by simp, by go_grown⟩
      | true =>
        cases u with
        | false =>
          go_enter Tryd.func46, Tryd.ntmps46
          go_wp2_with fail
          refine (C0 _).mono ?_
          rintro e w1 ⟨rfl, rfl⟩
          go_wp2_with fail
          refine (C1 _).mono ?_
          rintro e w2 ⟨rfl, rfl⟩
          go_wp2_with fail
          refine (C2 _).mono ?_
          rintro e w3 ⟨rfl, rfl⟩
          go_wp2_with fail
          refine (C3 _).mono ?_
          rintro e w4 ⟨rfl, rfl⟩
          go_wp2
          go_ret
          exact ⟨by simp, by go_grown⟩
        | true =>
          simp only [Bool.true_and]
          by_cases h1 : k = 1
          · subst h1
            have e : rateB 1 t = inB t 0 1000 := rfl
            rw [e]
            clear e
            have C5 := fun w => kindOf_any r p q h 1 t w
            have e : kindV 1 t = .iface 92 (.int .i64 t) := rfl
            rw [e] at C5
            clear e
            have C4 := fun w => constRateOk_b t w
            generalize inB t 0 1000 = v at C4 ⊢
            go_enter Tryd.func46, Tryd.ntmps46
            go_wp2_with fail
            refine (C0 _).mono ?_
            rintro e w1 ⟨rfl, rfl⟩
            go_wp2_with fail
            refine (C1 _).mono ?_
            rintro e w2 ⟨rfl, rfl⟩
            go_wp2_with fail
            refine (C2 _).mono ?_
            rintro e w3 ⟨rfl, rfl⟩
            go_wp2_with fail
            refine (C3 _).mono ?_
            rintro e w4 ⟨rfl, rfl⟩
            go_wp2_with fail
            refine (C5 _).mono ?_
            rintro e w5 ⟨rfl, hb⟩
            go_wp2_with fail
            refine (C4 _).mono ?_
            rintro e w6 ⟨rfl, rfl⟩
            go_wp2
            go_ret
            exact ⟨by simp, below_more (below_alloc w _) hb⟩
          by_cases h2 : k = 2
          · subst h2
            have e : rateB 2 t = inB t 0 100 := rfl
            rw [e]
            clear e
            have C5 := fun w => kindOf_any r p q h 2 t w
            have e : kindV 2 t = .iface 93 (.int .i64 t) := rfl
            rw [e] at C5
            clear e
            have C4 := fun w => shareRateOk_b t w
            generalize inB t 0 100 = v at C4 ⊢
            go_enter Tryd.func46, Tryd.ntmps46
            go_wp2_with fail
            refine (C0 _).mono ?_
            rintro e w1 ⟨rfl, rfl⟩
            go_wp2_with fail
            refine (C1 _).mono ?_
            rintro e w2 ⟨rfl, rfl⟩
            go_wp2_with fail
            refine (C2 _).mono ?_
            rintro e w3 ⟨rfl, rfl⟩
            go_wp2_with fail
            refine (C3 _).mono ?_
            rintro e w4 ⟨rfl, rfl⟩
            go_wp2_with fail
            refine (C5 _).mono ?_
            rintro e w5 ⟨rfl, hb⟩
            go_wp2_with fail
            refine (C4 _).mono ?_
            rintro e w6 ⟨rfl, rfl⟩
            go_wp2
            go_ret
            exact ⟨by simp, below_more (below_alloc w _) hb⟩
          · have e : rateB k t = false := by simp [rateB, h1, h2]
            rw [e]
            clear e
            have C5 := fun w => kindOf_any r p q h k t w
            have e : kindV k t = .iface 95 (.agg #[]) := by simp [kindV, h1, h2]
            rw [e] at C5
            clear e
            go_enter Tryd.func46, Tryd.ntmps46
            go_wp2_with fail
            refine (C0 _).mono ?_
            rintro e w1 ⟨rfl, rfl⟩
            go_wp2_with fail
            refine (C1 _).mono ?_
            rintro e w2 ⟨rfl, rfl⟩
            go_wp2_with fail
            refine (C2 _).mono ?_
            rintro e w3 ⟨rfl, rfl⟩
            go_wp2_with fail
            refine (C3 _).mono ?_
            rintro e w4 ⟨rfl, rfl⟩
            go_wp2_with fail
            refine (C5 _).mono ?_
            rintro e w5 ⟨rfl, hb⟩
            go_wp2
            go_ret
            exact ⟨by simp, below_more (below_more (below_alloc w _) hb) (below_alloc _ _)⟩
end Go.Proofs.YtlemhlioidmanaaDoor
