/-
  A new arena: the model's and the program's.
-/
import Derived.Test.YtbdljoldblpffaaGreatMarkO8
namespace Go.Proofs.YtbdljoldblpffaaGreat
open Go.RowKit
set_option linter.unusedVariables false
set_option maxRecDepth 100000

def rootOb : Ob := ⟨0, 1, -1, 0, 1000000, 0, 0, 0, 0, false, [-1, -1], [], []⟩
def newA : List Ob := rootOb :: List.replicate 9 noOb
theorem OwnA.turned {g cap : Nat} {es : List El} {rest : List Value} {lo hi l0 h0 : Nat} {w w' : World} (h : OwnA g cap es rest lo hi w) (ht : Turned8 l0 h0 w w') (hd : hi ≤ l0 ∨ h0 ≤ lo) : OwnA g cap es rest lo hi w' :=
  ⟨ht.block _ _ h.at' (by have := h.lo; have := h.hi; omega), h.cap, h.lo, h.hi, fun i hi' => (h.own i hi').move (fun b x h1 h2 hx => ht.block _ _ hx (by omega)) (Nat.le_refl _) (Nat.le_refl _), h.ne, h.apart⟩
/-- An arena of the call's own is handed back. -/
def ArenaAns (os : List Ob) (w : World) (e : Ending) (w' : World) : Prop := ∃ g c fs rest, e = .returned (.slice (some ⟨g, 0, none⟩) os.length c) ∧ arOf fs = os ∧ OwnA g c fs rest w.heap.size w'.heap.size w' ∧ Below w.heap.size w w'
end Go.Proofs.YtbdljoldblpffaaGreat
