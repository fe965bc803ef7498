/-
  Amounts: what the model answers, what is taken away.
-/
import Derived.Test.YtlemhlioidmanaaSpec
namespace Go.Proofs.Ytlemhlioidmanaa
open Go.RowKit
set_option linter.unusedVariables false


/-- Three numbers in a block. -/
structure Box3 (w : World) (g : Nat) (t : TypeId) (a b c : Int) : Prop where
  at' : w.heap[g]? = some (.cells #[.int .i64 a, .int .i64 b, .int .i64 c] t (0, 0))
theorem Box3.c0 {w : World} {g : Nat} {t : TypeId} {a b c : Int} (h : Box3 w g t a b c) : w.cell? ⟨g, 0, none⟩ = some (.int .i64 a) := by simp [World.cell?, h.at']
theorem Box3.c1 {w : World} {g : Nat} {t : TypeId} {a b c : Int} (h : Box3 w g t a b c) : w.cell? ⟨g, 1, none⟩ = some (.int .i64 b) := by simp [World.cell?, h.at']
theorem Box3.c2 {w : World} {g : Nat} {t : TypeId} {a b c : Int} (h : Box3 w g t a b c) : w.cell? ⟨g, 2, none⟩ = some (.int .i64 c) := by simp [World.cell?, h.at']
theorem Box3.f0 {w : World} {g : Nat} {t : TypeId} {a b c : Int} (h : Box3 w g t a b c) (i : Nat) : w.frozen? ⟨g, i, none⟩ = false := by simp [World.frozen?, h.at']
theorem Box3.on {w w' : World} {g : Nat} {t : TypeId} {a b c : Int} (h : Box3 w g t a b c) {B : Nat} (hb : Below B w w') (hg : g < B) : Box3 w' g t a b c := ⟨by rw [hb.block g hg]; exact h.at'⟩

theorem three_boxes (w : World) (a b c d e f : Int) (w1 : World)
    (hb : Below (w.heap.size + 1 + 1 + 1) (((w.alloc (boxA a b c)).alloc (boxA d e f)).alloc (boxA 0 0 0)) w1) :
    Box3 w1 w.heap.size 31 a b c ∧ Box3 w1 (w.heap.size + 1) 31 d e f ∧ Box3 w1 (w.heap.size + 1 + 1) 31 0 0 0 ∧ Below w.heap.size w w1 := by
  refine ⟨⟨?_⟩, ⟨?_⟩, ⟨?_⟩, ?_⟩
  · rw [hb.block _ (by omega), heap_alloc_old _ _ (by simp; omega), heap_alloc_old _ _ (by simp)]
    exact heap_alloc_new w _
  · rw [hb.block _ (by omega), heap_alloc_old _ _ (by simp)]
    have := heap_alloc_new (w.alloc (boxA a b c)) (boxA d e f)
    simpa using this
  · rw [hb.block _ (by omega)]
    have := heap_alloc_new ((w.alloc (boxA a b c)).alloc (boxA d e f)) (boxA 0 0 0)
    simpa using this
  · exact ((((Below.refl _ _).alloc (Nat.le_refl _) _).alloc (by simp) _).alloc (by simp; omega) _).trans (hb.mono (by omega))

theorem Box3.put {w : World} {g : Nat} {t : TypeId} {a b c : Int} (h : Box3 w g t a b c) (x y z : Value) :
    (w.setCell ⟨g, 0, none⟩ x).cell? ⟨g, 0, none⟩ = some x ∧ ((w.setCell ⟨g, 0, none⟩ x).setCell ⟨g, 1, none⟩ y).cell? ⟨g, 1, none⟩ = some y ∧ (((w.setCell ⟨g, 0, none⟩ x).setCell ⟨g, 1, none⟩ y).setCell ⟨g, 2, none⟩ z).cell? ⟨g, 2, none⟩ = some z := by
  have h1 : (w.setCell ⟨g, 0, none⟩ x).cell? ⟨g, 1, none⟩ = some (.int .i64 b) := by rw [World.cell?_setCell_other _ _ _ _ (by simp)]; exact h.c1
  have h2 : ((w.setCell ⟨g, 0, none⟩ x).setCell ⟨g, 1, none⟩ y).cell? ⟨g, 2, none⟩ = some (.int .i64 c) := by
    rw [World.cell?_setCell_other _ _ _ _ (by simp), World.cell?_setCell_other _ _ _ _ (by simp)]; exact h.c2
  exact ⟨World.cell?_setCell_same _ _ _ h.c0, World.cell?_setCell_same _ _ _ h1, World.cell?_setCell_same _ _ _ h2⟩
theorem below_put {w wr : World} {g : Nat} (h : Below w.heap.size w wr) (hg : w.heap.size ≤ g) (x y z : Value) :
    Below w.heap.size w (((wr.setCell ⟨g, 0, none⟩ x).setCell ⟨g, 1, none⟩ y).setCell ⟨g, 2, none⟩ z) :=
  ((h.setCell hg _).setCell hg _).setCell hg _
end Go.Proofs.Ytlemhlioidmanaa
