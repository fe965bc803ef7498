/-
  An arena that came in, and its copy.
-/
import Derived.Test.YtbdljoldblpffaaGreatReadT8
import Derived.Test.YtbdljoldblpffaaGreatArOkI
namespace Go.Proofs.YtbdljoldblpffaaGreat
open Go.RowKit
set_option linter.unusedVariables false
set_option maxRecDepth 100000

theorem wide8 {os : List Ob} (h : ∀ i, Sound8 (obAt os i)) : Wide os := fun i => ⟨Nat.le_trans (h i).l1 (by decide), Nat.le_trans (h i).l2 (by decide), Nat.le_trans (h i).l3 (by decide)⟩
theorem small8 {os : List Ob} (h : arN os ≤ 1048576) : Small8 os := fun i => Nat.le_trans (obAt_le os i) h
/-- The laws' copy of an arena. -/
theorem toObjS_is (v : Value) (os : List Ob) (w : World) (hx : IsArena w v os) (hn : os.length ≤ 1048576) (ht : Small8 os) :
    Calls Tryz.prog 26 #[v] w fun e w' => ∃ g, e = .returned (.slice (some ⟨g, 0, none⟩) os.length os.length) ∧ (∃ fs, arOf fs = os ∧ OwnA g os.length fs [] w.heap.size w'.heap.size w') ∧ Below w.heap.size w w' :=
  (toObjS_any v os w hx hn ht).mono fun e w' h => ⟨_, h.1, h.2.1, h.2.2⟩
theorem own_is {g n : Nat} {fs : List El} {rest : List Value} {lo hi : Nat} {w : World} {os : List Ob} (he : arOf fs = os) (h : OwnA g n fs rest lo hi w) : IsArena w (.slice (some ⟨g, 0, none⟩) os.length n) os := by
  have e := h.arena
  rw [he] at e
  rw [← he, arOf_length, he]
  exact e
end Go.Proofs.YtbdljoldblpffaaGreat
