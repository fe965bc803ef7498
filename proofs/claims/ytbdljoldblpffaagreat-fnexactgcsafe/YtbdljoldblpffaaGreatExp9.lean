/-
  Has a thing run out?
-/
import Derived.Test.YtbdljoldblpffaaGreatArT
namespace Go.Proofs.YtbdljoldblpffaaGreat
open Go.RowKit
set_option linter.unusedVariables false
set_option maxRecDepth 100000

def expB (o : Ob) (now : Int) : Bool := (o.kind == 0) || decide (o.unt < now)
theorem implExp_any (x : Ob) (l d m : Value) (now : Int) (w : World) :
    Calls Tryz.prog 73 #[obV x l d m, .int .i64 now] w fun e w' => e = .returned (.bool (expB x now)) ∧ Below w.heap.size w w' := by
  by_cases hk : x.kind = 0
  · have e : expB x now = true := by unfold expB; rw [hk]; rfl
    have qk : (x.kind == 0) = true := beq_iff_eq.2 hk
    rw [e]
    clear e hk
    go_enter Tryz.func73, Tryz.ntmps73
    go_wp2
    go_ret
    exact ⟨rfl, by go_grown⟩
  · have e : expB x now = decide (x.unt < now) := by unfold expB; rw [beq_eq_false_iff_ne.2 hk]; simp
    have qk : (x.kind == 0) = false := beq_eq_false_iff_ne.2 hk
    rw [e]
    clear e hk
    go_enter Tryz.func73, Tryz.ntmps73
    go_wp2
    go_ret
    exact ⟨rfl, by go_grown⟩
theorem specExp_any (x : Ob) (l d m : Value) (now : Int) (w : World) :
    Calls Tryz.prog 39 #[obV x l d m, .int .i64 now] w fun e w' => e = .returned (.bool (expB x now)) ∧ Below w.heap.size w w' := by
  by_cases hk : x.kind = 0
  · have e : expB x now = true := by unfold expB; rw [hk]; rfl
    have qk : (x.kind == 0) = true := beq_iff_eq.2 hk
    rw [e]
    clear e hk
    go_enter Tryz.func39, Tryz.ntmps39
    go_wp2
    go_ret
    exact ⟨rfl, by go_grown⟩
  · have e : expB x now = decide (x.unt < now) := by unfold expB; rw [beq_eq_false_iff_ne.2 hk]; simp
    have qk : (x.kind == 0) = false := beq_eq_false_iff_ne.2 hk
    rw [e]
    clear e hk
    go_enter Tryz.func39, Tryz.ntmps39
    go_wp2
    go_ret
    exact ⟨rfl, by go_grown⟩
end Go.Proofs.YtbdljoldblpffaaGreat
