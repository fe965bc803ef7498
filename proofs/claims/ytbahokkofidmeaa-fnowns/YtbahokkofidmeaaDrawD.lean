/-
  DrawFlows and DrawJoin: two labels out of a code.
-/
import Derived.Test.YtbahokkofidmeaaDrawC
namespace Go.Proofs.Ytbahokkofidmeaa
open Go.RowKit
set_option linter.unusedVariables false

/-- Two labels, drawn. -/
def TwoLabels (w : World) (r1 r2 : Value) (w' : World) : Prop :=
  ∃ xs ys : List Int, xs.length ≤ 5 ∧ ys.length ≤ 5 ∧ w'.ownsRow (w.heap.size + 1 + 1) 3 1 r1 xs.length (icells xs) ∧ w'.ownsRow (w.heap.size + 1 + 1) 3 1 r2 ys.length (icells ys) ∧ Below w.heap.size w w'
theorem two_end {w w1 w3 : World} {g s0 : Nat} {r1 r2 : Value} (hb : Below (w.heap.size + 1 + 1) ((w.alloc ZL).alloc ZL) w1) (hg : w.heap.size + 1 + 1 ≤ g) (h : TwoDrawn w1 g s0 r1 r2 w3) (u v : Value) :
    TwoLabels w r1 r2 ((w3.setCell ⟨w.heap.size, 0, none⟩ u).setCell ⟨w.heap.size + 1, 0, none⟩ v) := by
  obtain ⟨xs, ys, h1, h2, o1, o2, hc, hgr⟩ := h
  have hsz : w.heap.size + 1 + 1 ≤ w1.heap.size := by have := hb.size; simp at this; omega
  refine ⟨xs, ys, h1, h2, ?_, ?_, ?_⟩
  · exact own_from2 (ownsRow_setCell_below (ownsRow_setCell_below o1 (by simp; omega) _) (by simp; omega) _) (by omega)
  · exact own_from2 (ownsRow_setCell_below (ownsRow_setCell_below o2 (by simp; omega) _) (by simp; omega) _) (by omega)
  · have h0 : Below w.heap.size w w1 := (((Below.refl w.heap.size w).alloc (Nat.le_refl _) _).alloc (by simp) _).trans (hb.mono (by omega))
    have h3 : Below w.heap.size w w3 := h0.grown hgr h0.size (fun k e => by have := Option.some.inj e; omega)
    exact (h3.setCell (by simp) _).setCell (by simp) _

end Go.Proofs.Ytbahokkofidmeaa
