/-
  What the laws of heaps keep in hand.
-/
import Derived.Test.YtbdljoldblpffaaGreatReadT8
import Derived.Test.YtbdljoldblpffaaGreatCopy8
namespace Go.Proofs.YtbdljoldblpffaaGreat
open Go.RowKit
set_option linter.unusedVariables false
set_option maxRecDepth 100000

theorem cells5 {w : World} {b : Nat} {v0 v1 v2 v3 v4 : Value} {T : TypeId} (h : w.heap[b]? = some (.cells #[v0, v1, v2, v3, v4] T (0, 0))) : w.cell? ⟨b, 0, none⟩ = some v0 ∧ w.cell? ⟨b, 1, none⟩ = some v1 ∧ w.cell? ⟨b, 2, none⟩ = some v2 ∧ w.cell? ⟨b, 3, none⟩ = some v3 ∧ w.cell? ⟨b, 4, none⟩ = some v4 := by
  refine ⟨?_, ?_, ?_, ?_, ?_⟩ <;> simp [World.cell?, h]
/-- A value that reads as a heap. -/
def LikeH (p t r : Int) (os : List Ob) (xs : List Int) (u : Value) (w : World) : Prop := ∃ A G, u = hpV A p t r G ∧ IsArena w A os ∧ IsInts w G xs
theorem LikeH.on {p t r : Int} {os : List Ob} {xs : List Int} {u : Value} {w w' : World} (h : LikeH p t r os xs u w) (hb : Below w.heap.size w w') : LikeH p t r os xs u w' := by
  obtain ⟨A, G, h1, h2, h3⟩ := h
  exact ⟨A, G, h1, h2.on hb, h3.on hb⟩
/-- A law's argument in its box, and what is held against it in another. -/
structure AtX (w0 : World) (a g : Value) (p t r : Int) (X : Nat) (A G : Value) (os : List Ob) (xs : List Int) (wz : World) : Prop where
  base : Below w0.heap.size w0 wz
  arg : wz.heap[w0.heap.size]? = some (boxHL a p t r g)
  box : wz.heap[X]? = some (boxH A p t r G)
  ar : IsArena wz A os
  gr : IsInts wz G xs
theorem AtX.on {w0 : World} {a g : Value} {p t r : Int} {X : Nat} {A G : Value} {os : List Ob} {xs : List Int} {wz w' : World} (h : AtX w0 a g p t r X A G os xs wz) (hb : Below wz.heap.size wz w') : AtX w0 a g p t r X A G os xs w' :=
  ⟨below_more h.base hb, keep h.arg hb, keep h.box hb, h.ar.on hb, h.gr.on hb⟩
/-- The third of them leaves a heap; the others what is known. -/
def gEq (P : Value → World → Prop) (vs : List Value) (j : Nat) (u : Value) (w : World) : Prop := (j = 2 → P u w) ∧ (j ≠ 2 → u = vs.getD j undef)
theorem gEq_on {P : Value → World → Prop} {w w' : World} (hP : ∀ u, P u w → P u w') (vs : List Value) : ∀ j u, gEq P vs j u w → gEq P vs j u w' := fun j u h => ⟨fun e => hP u (h.1 e), h.2⟩
theorem toHeap_like (a : Value) (p t r : Int) (g : Value) (os : List Ob) (xs : List Int) (w : World) (ha : IsArena w a os) (hx : IsInts w g xs) (hl : os.length ≤ 1048576) (hs : ∀ i, obN (obAt os i) ≤ 1048576) (hn : xs.length ≤ 1048576) :
    Calls Tryz.prog 9 #[hpV a p t r g] w fun e w' => (∃ u, e = .returned u ∧ LikeH p t r os xs u w') ∧ Below w.heap.size w w' :=
  (toHeap_any a p t r g os xs w ha hx hl hs hn).mono fun e w' h => by
    obtain ⟨⟨b, m, u, he, ⟨fs, h1, h2⟩, h3, _, _⟩, hb⟩ := h
    exact ⟨⟨_, he, _, _, rfl, own_is h1 h2, h3.ints⟩, hb⟩
theorem toHeap_some (a : Value) (p t r : Int) (g : Value) (os : List Ob) (xs : List Int) (w : World) (ha : IsArena w a os) (hx : IsInts w g xs) (hl : os.length ≤ 1048576) (hs : ∀ i, obN (obAt os i) ≤ 1048576) (hn : xs.length ≤ 1048576) :
    Calls Tryz.prog 9 #[hpV a p t r g] w fun e w' => (∃ b u : Nat, e = .returned (hpV (.slice (some ⟨b, 0, none⟩) os.length os.length) p t r (.slice (some ⟨u, 0, none⟩) xs.length xs.length)) ∧ IsArena w' (.slice (some ⟨b, 0, none⟩) os.length os.length) os ∧ IsInts w' (.slice (some ⟨u, 0, none⟩) xs.length xs.length) xs) ∧ Below w.heap.size w w' :=
  (toHeap_any a p t r g os xs w ha hx hl hs hn).mono fun e w' h => by
    obtain ⟨⟨b, m, u, he, ⟨fs, h1, h2⟩, h3, _, _⟩, hb⟩ := h
    exact ⟨⟨b, u, he, own_is h1 h2, h3.ints⟩, hb⟩
end Go.Proofs.YtbdljoldblpffaaGreat
