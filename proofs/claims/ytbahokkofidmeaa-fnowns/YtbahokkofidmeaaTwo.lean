/-
  What a law of two labels keeps in memory.
-/
import Derived.Test.YtbahokkofidmeaaReads
import Derived.Deep.DeepCutAuto
namespace Go.Proofs.Ytbahokkofidmeaa
open Go.RowKit
set_option linter.unusedVariables false

theorem keep2 {w w' : World} {b : Nat} {o : Obj} (h : w.heap[b]? = some o) (hb : Below w.heap.size w w') : w'.heap[b]? = some o := by
  rw [hb.block b (lt_of_block h)]; exact h
theorem kcell2 {w : World} {b : Nat} {t : TypeId} {v : Value} (h : w.heap[b]? = some (.cells #[v] t (0, 0))) : w.cell? ⟨b, 0, none⟩ = some v := by simp [World.cell?, h]
theorem RowAt.ints2 {w : World} {g : Nat} {xs : List Int} (h : RowAt w g xs) : IsInts w (.slice (some ⟨g, 0, none⟩) xs.length xs.length) xs :=
  ⟨_, _, rfl, Nat.le_refl _, fun i hi => ⟨_, rfl, by rw [add_head]; exact h.cell i hi⟩⟩
theorem below_draw (w : World) : Below w.heap.size w w.drew := (Below.refl _ _).drew
theorem below_alloc (w : World) (o : Obj) : Below w.heap.size w (w.alloc o) := (Below.refl _ _).alloc (Nat.le_refl _) _
/-- The two arguments in boxes. -/
structure Two (w : World) (v u : Value) (wr : World) : Prop where
  b0 : wr.heap[w.heap.size]? = some (.cells #[v] 44 (0, 0))
  b1 : wr.heap[w.heap.size + 1]? = some (.cells #[u] 44 (0, 0))
  below : Below w.heap.size w wr
theorem Two.on {w wr w' : World} {v u : Value} (h : Two w v u wr) (hb : Below wr.heap.size wr w') : Two w v u w' :=
  ⟨keep2 h.b0 hb, keep2 h.b1 hb, h.below.trans (hb.mono h.below.size)⟩
theorem Two.drew {w wr : World} {v u : Value} (h : Two w v u wr) : Two w v u wr.drew := h.on (below_draw wr)
theorem Two.alloc {w wr : World} {v u : Value} (h : Two w v u wr) (o : Obj) : Two w v u (wr.alloc o) := h.on (below_alloc wr o)
theorem Two.c0 {w wr : World} {v u : Value} (h : Two w v u wr) : wr.cell? ⟨w.heap.size, 0, none⟩ = some v := kcell2 h.b0
theorem Two.c1 {w wr : World} {v u : Value} (h : Two w v u wr) : wr.cell? ⟨w.heap.size + 1, 0, none⟩ = some u := kcell2 h.b1
def twoW (w : World) (v u : Value) : World := (w.alloc (.cells #[v] 44 (0, 0))).alloc (.cells #[u] 44 (0, 0))
theorem twoW_two (w : World) (v u : Value) : Two w v u (twoW w v u) := by
  refine ⟨?_, ?_, ((Below.refl _ _).alloc (Nat.le_refl _) _).alloc (by simp) _⟩
  · unfold twoW
    rw [heap_alloc_old _ _ (by simp)]
    exact heap_alloc_new w _
  · have := heap_alloc_new (w.alloc (.cells #[v] 44 (0, 0))) (.cells #[u] 44 (0, 0))
    simpa [twoW] using this
/-- A label in a box. -/
structure Lab (b : Nat) (v : Value) (xs : List Int) (wr : World) : Prop where
  box : wr.heap[b]? = some (.cells #[v] 26 (0, 0))
  ints : IsInts wr v xs
theorem Lab.on {b : Nat} {v : Value} {xs : List Int} {wr w' : World} (h : Lab b v xs wr) (hb : Below wr.heap.size wr w') : Lab b v xs w' := ⟨keep2 h.box hb, h.ints.on hb⟩
theorem Lab.drew {b : Nat} {v : Value} {xs : List Int} {wr : World} (h : Lab b v xs wr) : Lab b v xs wr.drew := h.on (below_draw wr)
theorem Lab.cell {b : Nat} {v : Value} {xs : List Int} {wr : World} (h : Lab b v xs wr) : wr.cell? ⟨b, 0, none⟩ = some v := kcell2 h.box
theorem Lab.lt {b : Nat} {v : Value} {xs : List Int} {wr : World} (h : Lab b v xs wr) : b < wr.heap.size := lt_of_block h.box
theorem lab_new {v : Value} {xs : List Int} {wr : World} (h : IsInts wr v xs) : Lab wr.heap.size v xs (wr.alloc (.cells #[v] 26 (0, 0))) := ⟨heap_alloc_new wr _, h.on (below_alloc wr _)⟩
end Go.Proofs.Ytbahokkofidmeaa
