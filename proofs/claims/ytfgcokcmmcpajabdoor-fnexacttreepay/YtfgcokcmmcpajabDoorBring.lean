/-
  What is brought to a place of an owned tree.
-/
import Derived.Test.YtfgcokcmmcpajabDoorITree
namespace Go.Proofs.YtfgcokcmmcpajabDoor
open Go.RowKit
set_option linter.unusedVariables false
set_option maxRecDepth 100000

theorem grownBy_below {w w1 w2 : World} {row : Option Nat} (h : w.grownBy w1 row) (hb : Below w1.heap.size w1 w2) : w.grownBy w2 row := by
  obtain ⟨a1, b1, c1, d1, e1⟩ := h
  exact ⟨hb.os.trans a1, hb.tape.trans b1, hb.output.trans c1, Nat.le_trans d1 hb.size, fun k hk hne => (hb.block k (by omega)).trans (e1 k hk hne)⟩
theorem grownBy_drew (w : World) (row : Option Nat) : w.grownBy w.drew row := ⟨rfl, rfl, rfl, Nat.le_refl _, fun _ _ _ => rfl⟩
theorem grownBy_more {w w1 w2 : World} {row : Option Nat} (hb : Below w.heap.size w w1) (h : w1.grownBy w2 row) : w.grownBy w2 row := by
  obtain ⟨a1, b1, c1, d1, e1⟩ := h
  exact ⟨a1.trans hb.os, b1.trans hb.tape, c1.trans hb.output, Nat.le_trans hb.size d1, fun k hk hne => (e1 k (by have := hb.size; omega) hne).trans (hb.block k hk)⟩
theorem TreeIn.drew {w : World} {g : Nat} {ts : List Re} {rs : List Value} (h : TreeIn w g ts rs) : TreeIn w.drew g ts rs := h
def addR (r : Re) (a b c : Int) : Re := ⟨r.live, r.par, r.a + a, r.b + b, r.c + c⟩
end Go.Proofs.YtfgcokcmmcpajabDoor
