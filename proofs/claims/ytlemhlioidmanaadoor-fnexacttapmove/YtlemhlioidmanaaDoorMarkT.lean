/-
  A tree that the call owns: what is written into it, and the laws' marks.
-/
import Derived.Test.YtlemhlioidmanaaDoorToTree
namespace Go.Proofs.YtlemhlioidmanaaDoor
open Go.RowKit
set_option linter.unusedVariables false
set_option maxRecDepth 100000

/-- A tree at a block's head, and what is spare behind it. -/
def TreeIn (w : World) (g : Nat) (ts : List Re) (rest : List Value) : Prop := w.heap[g]? = some (.cells (rcells ts ++ rest).toArray 51 (0, 0))
theorem TreeIn.cell {w : World} {g : Nat} {ts : List Re} {rest : List Value} (h : TreeIn w g ts rest) (i : Nat) (hi : i < ts.length) : Cells5 w ⟨g, i * 5, none⟩ (reAt ts i) := by
  unfold TreeIn at h
  have := rcells_at ts i hi
  have hl := rcells_length ts
  refine ⟨?_, ?_, ?_, ?_, ?_⟩ <;> simp only [World.cell?, h] <;> simp only [List.getElem?_toArray] <;> rw [List.getElem?_append_left (by omega)] <;> simp [this]
theorem TreeIn.free {w : World} {g : Nat} {ts : List Re} {rest : List Value} (h : TreeIn w g ts rest) (i : Nat) : w.frozen? ⟨g, i, none⟩ = false := by
  unfold TreeIn at h
  simp [World.frozen?, h]
theorem rcells_put0 (ts : List Re) : ∀ (i : Nat) (x : Bool), i < ts.length → (rcells ts).set (i * 5) (.bool x) = rcells (ts.set i { reAt ts i with live := x }) := by
  induction ts with
  | nil => intro i x hi; simp at hi
  | cons r ts ih =>
    intro i x hi
    cases i with
    | zero => simp [rcells_cons, reAt]
    | succ i =>
      have := ih i x (by simpa using hi)
      rw [rcells_cons, show (i + 1) * 5 = i * 5 + 1 + 1 + 1 + 1 + 1 by omega]
      simp only [List.set_cons_succ, rcells_cons]
      rw [this]; simp [reAt]
theorem rcells_put1 (ts : List Re) : ∀ (i : Nat) (x : Int), i < ts.length → (rcells ts).set (i * 5 + 1) (.int .i64 x) = rcells (ts.set i { reAt ts i with par := x }) := by
  induction ts with
  | nil => intro i x hi; simp at hi
  | cons r ts ih =>
    intro i x hi
    cases i with
    | zero => simp [rcells_cons, reAt]
    | succ i =>
      have := ih i x (by simpa using hi)
      rw [rcells_cons, show (i + 1) * 5 + 1 = i * 5 + 1 + 1 + 1 + 1 + 1 + 1 by omega]
      simp only [List.set_cons_succ, rcells_cons]
      rw [this]; simp [reAt]
theorem rcells_put2 (ts : List Re) : ∀ (i : Nat) (x : Int), i < ts.length → (rcells ts).set (i * 5 + 2) (.int .i64 x) = rcells (ts.set i { reAt ts i with a := x }) := by
  induction ts with
  | nil => intro i x hi; simp at hi
  | cons r ts ih =>
    intro i x hi
    cases i with
    | zero => simp [rcells_cons, reAt]
    | succ i =>
      have := ih i x (by simpa using hi)
      rw [rcells_cons, show (i + 1) * 5 + 2 = i * 5 + 2 + 1 + 1 + 1 + 1 + 1 by omega]
      simp only [List.set_cons_succ, rcells_cons]
      rw [this]; simp [reAt]
theorem rcells_put3 (ts : List Re) : ∀ (i : Nat) (x : Int), i < ts.length → (rcells ts).set (i * 5 + 3) (.int .i64 x) = rcells (ts.set i { reAt ts i with b := x }) := by
  induction ts with
  | nil => intro i x hi; simp at hi
  | cons r ts ih =>
    intro i x hi
    cases i with
    | zero => simp [rcells_cons, reAt]
    | succ i =>
      have := ih i x (by simpa using hi)
      rw [rcells_cons, show (i + 1) * 5 + 3 = i * 5 + 3 + 1 + 1 + 1 + 1 + 1 by omega]
      simp only [List.set_cons_succ, rcells_cons]
      rw [this]; simp [reAt]
theorem rcells_put4 (ts : List Re) : ∀ (i : Nat) (x : Int), i < ts.length → (rcells ts).set (i * 5 + 4) (.int .i64 x) = rcells (ts.set i { reAt ts i with c := x }) := by
  induction ts with
  | nil => intro i x hi; simp at hi
  | cons r ts ih =>
    intro i x hi
    cases i with
    | zero => simp [rcells_cons, reAt]
    | succ i =>
      have := ih i x (by simpa using hi)
      rw [rcells_cons, show (i + 1) * 5 + 4 = i * 5 + 4 + 1 + 1 + 1 + 1 + 1 by omega]
      simp only [List.set_cons_succ, rcells_cons]
      rw [this]; simp [reAt]
theorem TreeIn.put {w : World} {g : Nat} {ts : List Re} {rest : List Value} (h : TreeIn w g ts rest) (i j : Nat) (hi : i < ts.length) (hj : j < 5) (v : Value) (r : Re) (hr : (rcells ts).set (i * 5 + j) v = rcells (ts.set i r)) : TreeIn (w.setCell ⟨g, i * 5 + j, none⟩ v) g (ts.set i r) rest := by
  have h1 := heap_setCell_same w g (i * 5 + j) _ 51 v h
  unfold TreeIn
  rw [h1, ← hr]
  have hl := rcells_length ts
  simp only [List.setIfInBounds_toArray]
  rw [List.set_append_left _ _ (by omega)]
theorem TreeIn.put0 {w : World} {g : Nat} {ts : List Re} {rest : List Value} (h : TreeIn w g ts rest) (i : Nat) (hi : i < ts.length) (x : Bool) : TreeIn (w.setCell ⟨g, i * 5, none⟩ (.bool x)) g (ts.set i { reAt ts i with live := x }) rest :=
  h.put i 0 hi (by omega) _ _ (rcells_put0 ts i x hi)
theorem TreeIn.put1 {w : World} {g : Nat} {ts : List Re} {rest : List Value} (h : TreeIn w g ts rest) (i : Nat) (hi : i < ts.length) (x : Int) : TreeIn (w.setCell ⟨g, i * 5 + 1, none⟩ (.int .i64 x)) g (ts.set i { reAt ts i with par := x }) rest :=
  h.put i 1 hi (by omega) _ _ (rcells_put1 ts i x hi)
theorem TreeIn.put2 {w : World} {g : Nat} {ts : List Re} {rest : List Value} (h : TreeIn w g ts rest) (i : Nat) (hi : i < ts.length) (x : Int) : TreeIn (w.setCell ⟨g, i * 5 + 2, none⟩ (.int .i64 x)) g (ts.set i { reAt ts i with a := x }) rest :=
  h.put i 2 hi (by omega) _ _ (rcells_put2 ts i x hi)
theorem TreeIn.put3 {w : World} {g : Nat} {ts : List Re} {rest : List Value} (h : TreeIn w g ts rest) (i : Nat) (hi : i < ts.length) (x : Int) : TreeIn (w.setCell ⟨g, i * 5 + 3, none⟩ (.int .i64 x)) g (ts.set i { reAt ts i with b := x }) rest :=
  h.put i 3 hi (by omega) _ _ (rcells_put3 ts i x hi)
theorem TreeIn.put4 {w : World} {g : Nat} {ts : List Re} {rest : List Value} (h : TreeIn w g ts rest) (i : Nat) (hi : i < ts.length) (x : Int) : TreeIn (w.setCell ⟨g, i * 5 + 4, none⟩ (.int .i64 x)) g (ts.set i { reAt ts i with c := x }) rest :=
  h.put i 4 hi (by omega) _ _ (rcells_put4 ts i x hi)
theorem TreeIn.tree {w : World} {g : Nat} {ts : List Re} {rest : List Value} (h : TreeIn w g ts rest) (cap : Nat) (hc : ts.length ≤ cap) : IsTree w (.slice (some ⟨g, 0, none⟩) ts.length cap) ts :=
  ⟨_, _, rfl, hc, fun i hi => ⟨_, rfl, by rw [add_head]; exact h.cell i hi⟩⟩
theorem TreeIn.keep {w w' : World} {g : Nat} {ts : List Re} {rest : List Value} (h : TreeIn w g ts rest) (hb : Below w.heap.size w w') : TreeIn w' g ts rest := Go.Proofs.YtlemhlioidmanaaDoor.keep h hb
/-- An owned tree, and where it lies. -/
structure OwnT (g cap : Nat) (ts : List Re) (rest : List Value) (lo hi : Nat) (w : World) : Prop where
  at' : TreeIn w g ts rest
  cap : ts.length ≤ cap
  lo : lo ≤ g
  hi : g < hi
theorem OwnT.on {g cap : Nat} {ts : List Re} {rest : List Value} {lo hi : Nat} {w w' : World} (h : OwnT g cap ts rest lo hi w) (hb : Below w.heap.size w w') : OwnT g cap ts rest lo hi w' := ⟨h.at'.keep hb, h.cap, h.lo, h.hi⟩
theorem OwnT.by' {g cap : Nat} {ts : List Re} {rest : List Value} {lo hi : Nat} {w w' : World} {row : Option Nat} (h : OwnT g cap ts rest lo hi w) (hg : w.grownBy w' row) (hk : ∀ k, row = some k → k < lo ∨ hi ≤ k) : OwnT g cap ts rest lo hi w' :=
  ⟨grown_kept hg h.at' fun e => by have := hk g e; have := h.lo; have := h.hi; omega, h.cap, h.lo, h.hi⟩
theorem OwnT.tree {g cap : Nat} {ts : List Re} {rest : List Value} {lo hi : Nat} {w : World} (h : OwnT g cap ts rest lo hi w) : IsTree w (.slice (some ⟨g, 0, none⟩) ts.length cap) ts := h.at'.tree cap h.cap
theorem TreeAt.own {w : World} {g : Nat} {ts : List Re} (h : TreeAt w g ts) {lo hi : Nat} (h1 : lo ≤ g) (h2 : g < hi) : OwnT g ts.length ts [] lo hi w := ⟨by unfold TreeIn; rw [List.append_nil]; exact h, Nat.le_refl _, h1, h2⟩
end Go.Proofs.YtlemhlioidmanaaDoor
