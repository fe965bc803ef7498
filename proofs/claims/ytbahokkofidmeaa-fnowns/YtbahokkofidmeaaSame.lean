/-
  The model's SameLabel and Flows.
-/
import Derived.Test.YtbahokkofidmeaaLabelOk
namespace Go.Proofs.Ytbahokkofidmeaa
open Go.RowKit
set_option linter.unusedVariables false

/-- Two labels in boxes of their own. -/
def boxed (w : World) (v u : Value) : World := (w.alloc (.cells #[v] 26 (0, 0))).alloc (.cells #[u] 26 (0, 0))
theorem boxed_size (w : World) (v u : Value) : (boxed w v u).heap.size = w.heap.size + 1 + 1 := by simp [boxed]
theorem boxed_below (w : World) (v u : Value) : Below w.heap.size w (boxed w v u) := ((Below.refl _ _).alloc (Nat.le_refl _) _).alloc (by simp) _
theorem boxed_one (w : World) (v u : Value) : (boxed w v u).heap[w.heap.size]? = some (.cells #[v] 26 (0, 0)) := by
  unfold boxed
  rw [heap_alloc_old _ _ (by simp)]
  exact heap_alloc_new w _
theorem boxed_two (w : World) (v u : Value) : (boxed w v u).heap[w.heap.size + 1]? = some (.cells #[u] 26 (0, 0)) := by
  have := heap_alloc_new (w.alloc (.cells #[v] 26 (0, 0))) (.cells #[u] 26 (0, 0))
  simpa [boxed] using this
/-- A world behind the two boxes. -/
structure Behind (w : World) (v u : Value) (wr : World) : Prop where
  kept : Below (w.heap.size + 1 + 1) (boxed w v u) wr
theorem Behind.start (w : World) (v u : Value) : Behind w v u (boxed w v u) := ⟨Below.refl _ _⟩
theorem Behind.one {w wr : World} {v u : Value} (h : Behind w v u wr) : wr.cell? ⟨w.heap.size, 0, none⟩ = some v := by
  rw [h.kept.cell (by simp; omega)]; simp [World.cell?, boxed_one]
theorem Behind.two {w wr : World} {v u : Value} (h : Behind w v u wr) : wr.cell? ⟨w.heap.size + 1, 0, none⟩ = some u := by
  rw [h.kept.cell (by simp)]; simp [World.cell?, boxed_two]
theorem Behind.below {w wr : World} {v u : Value} (h : Behind w v u wr) : Below w.heap.size w wr := (boxed_below w v u).trans (h.kept.mono (by omega))
theorem Behind.drewN {w wr : World} {v u : Value} (h : Behind w v u wr) (n : Nat) : Behind w v u (wr.drewN n) := ⟨below_drewN h.kept n⟩
theorem Behind.on {w wr wr' : World} {v u : Value} (h : Behind w v u wr) (hb : Below wr.heap.size wr wr') : Behind w v u wr' := ⟨h.kept.trans (hb.mono (by have := h.kept.size; rw [boxed_size] at this; exact this))⟩

/-- Is no level of the one above that of the other? -/
def leAll (xs ys : List Int) : Bool := (List.range 4).all fun i => decide (xs.getD i 0 ≤ ys.getD i 0)
theorem leAll_no {xs ys : List Int} {k : Nat} (hk : k < 4) (h : ¬ xs.getD k 0 ≤ ys.getD k 0) : leAll xs ys = false := by
  unfold leAll; exact List.all_eq_false.2 ⟨k, List.mem_range.2 hk, by simpa using h⟩
theorem leAll_yes {xs ys : List Int} (h : ∀ i, i < 4 → xs.getD i 0 ≤ ys.getD i 0) : leAll xs ys = true := by
  unfold leAll; exact List.all_eq_true.2 fun i hi => decide_eq_true (h i (List.mem_range.1 hi))
theorem le_more {xs ys : List Int} {k : Nat} (h : ∀ i, i < k → xs.getD i 0 ≤ ys.getD i 0) (hk : xs.getD k 0 ≤ ys.getD k 0) : ∀ i, i < k + 1 → xs.getD i 0 ≤ ys.getD i 0 := by
  intro i hi
  by_cases he : i = k
  · subst he; exact hk
  · exact h i (by omega)
/-- May the one flow to the other? -/
def flowsTo (xs ys : List Int) : Bool := labelOk xs && labelOk ys && leAll xs ys
theorem labelOk_four {xs : List Int} (h : labelOk xs = true) : xs.length = 4 := by
  unfold labelOk at h; simp at h; exact h.1

end Go.Proofs.Ytbahokkofidmeaa
