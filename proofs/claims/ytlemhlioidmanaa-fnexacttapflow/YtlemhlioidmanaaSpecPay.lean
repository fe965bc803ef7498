/-
  The model's TreePay.
-/
import Derived.Test.YtlemhlioidmanaaAns
namespace Go.Proofs.Ytlemhlioidmanaa
open Go.RowKit
set_option linter.unusedVariables false

/-- A tree and whether it was done. -/
def TreeAns (n : Nat) (ts : List Re) (o : Bool) (w : World) (e : Ending) (w' : World) : Prop := ∃ g c rs, e = .returned (.tuple #[.slice (some ⟨g, 0, none⟩) n c, .bool o]) ∧ OwnT g c ts rs w.heap.size w'.heap.size w' ∧ Below w.heap.size w w'
theorem OwnT.more {g cap : Nat} {ts : List Re} {rest : List Value} {lo hi : Nat} {w : World} (h : OwnT g cap ts rest lo hi w) : OwnT g cap ts rest lo w.heap.size w := ⟨h.at', h.cap, h.lo, lt_of_block h.at'⟩
/-- What is there when 'from' has paid. -/
def payT (ts : List Re) (i : Int) (a b c : Int) : List Re := ts.set i.toNat { reAt ts i.toNat with a := (reAt ts i.toNat).a - a, b := (reAt ts i.toNat).b - b, c := (reAt ts i.toNat).c - c }
/-- May it pay? -/
def payOk (ts : List Re) (i : Int) (a b c : Int) : Bool := liveIn ts i && fitsIn a b c (reAt ts i.toNat).a (reAt ts i.toNat).b (reAt ts i.toNat).c
def payOf (ts : List Re) (i : Int) (a b c : Int) : List Re := if payOk ts i a b c then payT ts i a b c else ts
theorem OwnT.lower {g cap : Nat} {ts : List Re} {rest : List Value} {lo lo' hi : Nat} {w : World} (h : OwnT g cap ts rest lo hi w) (hl : lo' ≤ lo) : OwnT g cap ts rest lo' hi w := ⟨h.at', h.cap, Nat.le_trans hl h.lo, h.hi⟩

end Go.Proofs.Ytlemhlioidmanaa
