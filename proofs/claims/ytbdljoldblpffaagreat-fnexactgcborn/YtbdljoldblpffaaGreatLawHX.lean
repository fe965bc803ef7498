/-
  What the laws keep whose calls answer heaps.
-/
import Derived.Test.YtbdljoldblpffaaGreatHeapM
namespace Go.Proofs.YtbdljoldblpffaaGreat
open Go.RowKit
set_option linter.unusedVariables false
set_option maxRecDepth 100000

/-- A heap of its own in a box of the law. -/
structure InBox (w : World) (lo hi b : Nat) (p t r : Int) (os : List Ob) (xs : List Int) (A G : Value) (wz : World) : Prop where
  base : Below w.heap.size w wz
  box : wz.heap[b]? = some (boxH A p t r G)
  got : GotH lo hi os xs A G wz
  low : w.heap.size < lo
  lh : lo ≤ hi
  mid : hi ≤ b
theorem InBox.on {w : World} {lo hi b : Nat} {p t r : Int} {os : List Ob} {xs : List Int} {A G : Value} {wz w' : World} (h : InBox w lo hi b p t r os xs A G wz) (hb : Below wz.heap.size wz w') : InBox w lo hi b p t r os xs A G w' :=
  ⟨below_more h.base hb, keep h.box hb, h.got.on hb, h.low, h.lh, h.mid⟩
theorem InBox.turned {w : World} {lo hi b : Nat} {p t r : Int} {os : List Ob} {xs : List Int} {A G : Value} {l0 h0 : Nat} {wz w' : World} (h : InBox w lo hi b p t r os xs A G wz) (ht : Turned8 l0 h0 wz w') (hw : w.heap.size ≤ l0) (hd : b < l0 ∨ h0 ≤ lo) : InBox w lo hi b p t r os xs A G w' :=
  ⟨ht.below _ _ hw h.base, ht.block _ _ h.box (by have := h.mid; have := h.lh; omega), h.got.turned ht (by have := h.mid; omega), h.low, h.lh, h.mid⟩
theorem InBox.made {w w1 w2 : World} {p t r : Int} {os : List Ob} {xs : List Int} {A G : Value} (hb : Below w.heap.size w w1) (hs : w.heap.size < w1.heap.size) (hg : GotH w1.heap.size w2.heap.size os xs A G w2) (hb2 : Below w1.heap.size w1 w2) : InBox w w1.heap.size w2.heap.size w2.heap.size p t r os xs A G (w2.alloc (boxH A p t r G)) :=
  ⟨(below_more hb hb2).trans ((below_alloc w2 _).mono (by have := hb.size; have := hb2.size; omega)), heap_alloc_new w2 _, hg.on (below_alloc w2 _), hs, hb2.size, Nat.le_refl _⟩
/-- It is marked. -/
theorem InBox.marked {w : World} {lo hi b : Nat} {p t r : Int} {os os' : List Ob} {xs xs' : List Int} {A G : Value} {wz w' : World} (h : InBox w lo hi b p t r os xs A G wz) (ht : Turned8 lo hi wz w') (hg : GotH lo hi os' xs' A G w') : InBox w lo hi b p t r os' xs' A G w' :=
  ⟨ht.below _ _ (Nat.le_of_lt h.low) h.base, ht.block _ _ h.box (.inr h.mid), hg, h.low, h.lh, h.mid⟩
theorem InBox.size {w : World} {lo hi b : Nat} {p t r : Int} {os : List Ob} {xs : List Int} {A G : Value} {wz : World} (h : InBox w lo hi b p t r os xs A G wz) : lo ≤ wz.heap.size ∧ hi ≤ wz.heap.size := by
  have := lt_of_block h.box
  have := h.mid
  have := h.lh
  omega
structure LawX (w : World) (a g : Value) (p t r : Int) (os : List Ob) (xs : List Int) (l2 h2 b2 : Nat) (A2 G2 : Value) (p' t' r' : Int) (rs : List Ob) (ys : List Int) (l1 h1 b1 : Nat) (A1 G1 : Value) (l3 h3 b3 : Nat) (A3 G3 : Value) (wz : World) : Prop where
  arg : wz.heap[w.heap.size]? = some (boxHL a p t r g)
  x1 : InBox w l1 h1 b1 p' t' r' rs ys A1 G1 wz
  x2 : InBox w l2 h2 b2 p t r os xs A2 G2 wz
  x3 : InBox w l3 h3 b3 p' t' r' rs ys A3 G3 wz
  n12 : b1 < l2
  n23 : b2 < l3
section
variable {w : World} {a g : Value} {p t r : Int} {os : List Ob} {xs : List Int} {l2 h2 b2 : Nat} {A2 G2 : Value} {p' t' r' : Int} {rs : List Ob} {ys : List Int} {l1 h1 b1 : Nat} {A1 G1 : Value} {l3 h3 b3 : Nat} {A3 G3 : Value} {wz w' : World}
theorem LawX.on (h : LawX w a g p t r os xs l2 h2 b2 A2 G2 p' t' r' rs ys l1 h1 b1 A1 G1 l3 h3 b3 A3 G3 wz) (hb : Below wz.heap.size wz w') : LawX w a g p t r os xs l2 h2 b2 A2 G2 p' t' r' rs ys l1 h1 b1 A1 G1 l3 h3 b3 A3 G3 w' :=
  ⟨keep h.arg hb, h.x1.on hb, h.x2.on hb, h.x3.on hb, h.n12, h.n23⟩
theorem LawX.base (h : LawX w a g p t r os xs l2 h2 b2 A2 G2 p' t' r' rs ys l1 h1 b1 A1 G1 l3 h3 b3 A3 G3 wz) : Below w.heap.size w wz := h.x1.base
theorem LawX.box (h : LawX w a g p t r os xs l2 h2 b2 A2 G2 p' t' r' rs ys l1 h1 b1 A1 G1 l3 h3 b3 A3 G3 wz) : wz.heap[b2]? = some (boxH A2 p t r G2) := h.x2.box
theorem LawX.ar (h : LawX w a g p t r os xs l2 h2 b2 A2 G2 p' t' r' rs ys l1 h1 b1 A1 G1 l3 h3 b3 A3 G3 wz) : IsArena wz A2 os := h.x2.got.arena
theorem LawX.gr (h : LawX w a g p t r os xs l2 h2 b2 A2 G2 p' t' r' rs ys l1 h1 b1 A1 G1 l3 h3 b3 A3 G3 wz) : IsInts wz G2 xs := h.x2.got.ints
/-- What was handed in is marked. -/
theorem LawX.turn2 (h : LawX w a g p t r os xs l2 h2 b2 A2 G2 p' t' r' rs ys l1 h1 b1 A1 G1 l3 h3 b3 A3 G3 wz) (ht : Turned8 l2 h2 wz w') {os' : List Ob} {xs' : List Int} (hg : GotH l2 h2 os' xs' A2 G2 w') : LawX w a g p t r os' xs' l2 h2 b2 A2 G2 p' t' r' rs ys l1 h1 b1 A1 G1 l3 h3 b3 A3 G3 w' :=
  ⟨ht.block _ _ h.arg (by have := h.x2.low; omega), h.x1.turned ht (Nat.le_of_lt h.x2.low) (.inl h.n12), h.x2.marked ht hg, h.x3.turned ht (Nat.le_of_lt h.x2.low) (.inr (by have := h.x2.mid; have := h.n23; omega)), h.n12, h.n23⟩
end
end Go.Proofs.YtbdljoldblpffaaGreat
