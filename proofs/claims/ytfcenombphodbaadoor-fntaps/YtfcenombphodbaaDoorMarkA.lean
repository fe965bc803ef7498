/-
  A tree that the call owns: what is written into it, and the laws' marks. The laws' marks on a tree.
-/
import Derived.Test.YtfcenombphodbaaDoorToTree
namespace Go.Proofs.YtfcenombphodbaaDoor
open Go.RowKit
set_option linter.unusedVariables false
set_option maxRecDepth 100000

/-- A tree at a block's head, and what is spare behind it. -/
def TreeIn (w : World) (g : Nat) (ts : List Re) (rest : List Value) : Prop := w.heap[g]? = some (.cells (rcells ts ++ rest).toArray 39 (0, 0))
theorem TreeIn.cell {w : World} {g : Nat} {ts : List Re} {rest : List Value} (h : TreeIn w g ts rest) (i : Nat) (hi : i < ts.length) : Cells5 w ⟨g, i * 5, none⟩ (reAt ts i) := by
  unfold TreeIn at h
  have := rcells_at ts i hi
  have hl := rcells_length ts
  refine ⟨?_, ?_, ?_, ?_, ?_⟩ <;> simp only [World.cell?, h] <;> simp only [List.getElem?_toArray] <;> rw [List.getElem?_append_left (by omega)] <;> simp [this]
theorem TreeIn.free {w : World} {g : Nat} {ts : List Re} {rest : List Value} (h : TreeIn w g ts rest) (i : Nat) : w.frozen? ⟨g, i, none⟩ = false := by
  unfold TreeIn at h
  simp [World.frozen?, h]
theorem rcells_put0 (ts : List Re) : ∀ (i : Nat) (x : Bool), i < ts.length → (rcells ts).set (i * 5) (.bool x) = rcells (ts.set i { reAt ts i with live := x }) := by
  induction ts with
  | nil => intro i x hi; simp at hi
  | cons r ts ih =>
    intro i x hi
    cases i with
    | zero => simp [rcells_cons, reAt]
    | succ i =>
      have := ih i x (by simpa using hi)
      rw [rcells_cons, show (i + 1) * 5 = i * 5 + 1 + 1 + 1 + 1 + 1 by omega]
      simp only [List.set_cons_succ, rcells_cons]
      rw [this]; simp [reAt]
theorem rcells_put1 (ts : List Re) : ∀ (i : Nat) (x : Int), i < ts.length → (rcells ts).set (i * 5 + 1) (.int .i64 x) = rcells (ts.set i { reAt ts i with par := x }) := by
  induction ts with
  | nil => intro i x hi; simp at hi
  | cons r ts ih =>
    intro i x hi
    cases i with
    | zero => simp [rcells_cons, reAt]
    | succ i =>
      have := ih i x (by simpa using hi)
      rw [rcells_cons, show (i + 1) * 5 + 1 = i * 5 + 1 + 1 + 1 + 1 + 1 + 1 by omega]
      simp only [List.set_cons_succ, rcells_cons]
      rw [this]; simp [reAt]
theorem rcells_put2 (ts : List Re) : ∀ (i : Nat) (x : Int), i < ts.length → (rcells ts).set (i * 5 + 2) (.int .i64 x) = rcells (ts.set i { reAt ts i with a := x }) := by
  induction ts with
  | nil => intro i x hi; simp at hi
  | cons r ts ih =>
    intro i x hi
    cases i with
    | zero => simp [rcells_cons, reAt]
    | succ i =>
      have := ih i x (by simpa using hi)
      rw [rcells_cons, show (i + 1) * 5 + 2 = i * 5 + 2 + 1 + 1 + 1 + 1 + 1 by omega]
      simp only [List.set_cons_succ, rcells_cons]
      rw [this]; simp [reAt]
theorem rcells_put3 (ts : List Re) : ∀ (i : Nat) (x : Int), i < ts.length → (rcells ts).set (i * 5 + 3) (.int .i64 x) = rcells (ts.set i { reAt ts i with b := x }) := by
  induction ts with
  | nil => intro i x hi; simp at hi
  | cons r ts ih =>
    intro i x hi
    cases i with
    | zero => simp [rcells_cons, reAt]
    | succ i =>
      have := ih i x (by simpa using hi)
      rw [rcells_cons, show (i + 1) * 5 + 3 = i * 5 + 3 + 1 + 1 + 1 + 1 + 1 by omega]
      simp only [List.set_cons_succ, rcells_cons]
      rw [this]; simp [reAt]
theorem rcells_put4 (ts : List Re) : ∀ (i : Nat) (x : Int), i < ts.length → (rcells ts).set (i * 5 + 4) (.int .i64 x) = rcells (ts.set i { reAt ts i with c := x }) := by
  induction ts with
  | nil => intro i x hi; simp at hi
  | cons r ts ih =>
    intro i x hi
    cases i with
    | zero => simp [rcells_cons, reAt]
    | succ i =>
      have := ih i x (by simpa using hi)
      rw [rcells_cons, show (i + 1) * 5 + 4 = i * 5 + 4 + 1 + 1 + 1 + 1 + 1 by omega]
      simp only [List.set_cons_succ, rcells_cons]
      rw [this]; simp [reAt]
theorem TreeIn.put {w : World} {g : Nat} {ts : List Re} {rest : List Value} (h : TreeIn w g ts rest) (i j : Nat) (hi : i < ts.length) (hj : j < 5) (v : Value) (r : Re) (hr : (rcells ts).set (i * 5 + j) v = rcells (ts.set i r)) : TreeIn (w.setCell ⟨g, i * 5 + j, none⟩ v) g (ts.set i r) rest := by
  have h1 := heap_setCell_same w g (i * 5 + j) _ 39 v h
  unfold TreeIn
  rw [h1, ← hr]
  have hl := rcells_length ts
  simp only [List.setIfInBounds_toArray]
  rw [List.set_append_left _ _ (by omega)]
theorem TreeIn.put0 {w : World} {g : Nat} {ts : List Re} {rest : List Value} (h : TreeIn w g ts rest) (i : Nat) (hi : i < ts.length) (x : Bool) : TreeIn (w.setCell ⟨g, i * 5, none⟩ (.bool x)) g (ts.set i { reAt ts i with live := x }) rest :=
  h.put i 0 hi (by omega) _ _ (rcells_put0 ts i x hi)
theorem TreeIn.put1 {w : World} {g : Nat} {ts : List Re} {rest : List Value} (h : TreeIn w g ts rest) (i : Nat) (hi : i < ts.length) (x : Int) : TreeIn (w.setCell ⟨g, i * 5 + 1, none⟩ (.int .i64 x)) g (ts.set i { reAt ts i with par := x }) rest :=
  h.put i 1 hi (by omega) _ _ (rcells_put1 ts i x hi)
theorem TreeIn.put2 {w : World} {g : Nat} {ts : List Re} {rest : List Value} (h : TreeIn w g ts rest) (i : Nat) (hi : i < ts.length) (x : Int) : TreeIn (w.setCell ⟨g, i * 5 + 2, none⟩ (.int .i64 x)) g (ts.set i { reAt ts i with a := x }) rest :=
  h.put i 2 hi (by omega) _ _ (rcells_put2 ts i x hi)
theorem TreeIn.put3 {w : World} {g : Nat} {ts : List Re} {rest : List Value} (h : TreeIn w g ts rest) (i : Nat) (hi : i < ts.length) (x : Int) : TreeIn (w.setCell ⟨g, i * 5 + 3, none⟩ (.int .i64 x)) g (ts.set i { reAt ts i with b := x }) rest :=
  h.put i 3 hi (by omega) _ _ (rcells_put3 ts i x hi)
theorem TreeIn.put4 {w : World} {g : Nat} {ts : List Re} {rest : List Value} (h : TreeIn w g ts rest) (i : Nat) (hi : i < ts.length) (x : Int) : TreeIn (w.setCell ⟨g, i * 5 + 4, none⟩ (.int .i64 x)) g (ts.set i { reAt ts i with c := x }) rest :=
  h.put i 4 hi (by omega) _ _ (rcells_put4 ts i x hi)
theorem TreeIn.tree {w : World} {g : Nat} {ts : List Re} {rest : List Value} (h : TreeIn w g ts rest) (cap : Nat) (hc : ts.length ≤ cap) : IsTree w (.slice (some ⟨g, 0, none⟩) ts.length cap) ts :=
  ⟨_, _, rfl, hc, fun i hi => ⟨_, rfl, by rw [add_head]; exact h.cell i hi⟩⟩
theorem TreeIn.keep {w w' : World} {g : Nat} {ts : List Re} {rest : List Value} (h : TreeIn w g ts rest) (hb : Below w.heap.size w w') : TreeIn w' g ts rest := Go.Proofs.YtfcenombphodbaaDoor.keep h hb
/-- An owned tree, and where it lies. -/
structure OwnT (g cap : Nat) (ts : List Re) (rest : List Value) (lo hi : Nat) (w : World) : Prop where
  at' : TreeIn w g ts rest
  cap : ts.length ≤ cap
  lo : lo ≤ g
  hi : g < hi
theorem OwnT.on {g cap : Nat} {ts : List Re} {rest : List Value} {lo hi : Nat} {w w' : World} (h : OwnT g cap ts rest lo hi w) (hb : Below w.heap.size w w') : OwnT g cap ts rest lo hi w' := ⟨h.at'.keep hb, h.cap, h.lo, h.hi⟩
theorem OwnT.by' {g cap : Nat} {ts : List Re} {rest : List Value} {lo hi : Nat} {w w' : World} {row : Option Nat} (h : OwnT g cap ts rest lo hi w) (hg : w.grownBy w' row) (hk : ∀ k, row = some k → k < lo ∨ hi ≤ k) : OwnT g cap ts rest lo hi w' :=
  ⟨grown_kept hg h.at' fun e => by have := hk g e; have := h.lo; have := h.hi; omega, h.cap, h.lo, h.hi⟩
theorem OwnT.tree {g cap : Nat} {ts : List Re} {rest : List Value} {lo hi : Nat} {w : World} (h : OwnT g cap ts rest lo hi w) : IsTree w (.slice (some ⟨g, 0, none⟩) ts.length cap) ts := h.at'.tree cap h.cap
theorem TreeAt.own {w : World} {g : Nat} {ts : List Re} (h : TreeAt w g ts) {lo hi : Nat} (h1 : lo ≤ g) (h2 : g < hi) : OwnT g ts.length ts [] lo hi w := ⟨by unfold TreeIn; rw [List.append_nil]; exact h, Nat.le_refl _, h1, h2⟩
end Go.Proofs.YtfcenombphodbaaDoor
namespace Go.Proofs.YtfcenombphodbaaDoor
open Go.RowKit
set_option linter.unusedVariables false
set_option maxRecDepth 100000

theorem grownBy_set (w : World) (g i : Nat) (v : Value) : w.grownBy (w.setCell ⟨g, i, none⟩ v) (some g) :=
  ⟨rfl, rfl, rfl, by simp, fun k hk hne => Below.heap_setCell w ⟨g, i, none⟩ v k (by simpa using hne)⟩
theorem grownBy_trans {w w1 w2 : World} {row : Option Nat} (h1 : w.grownBy w1 row) (h2 : w1.grownBy w2 row) : w.grownBy w2 row := by
  obtain ⟨a1, b1, c1, d1, e1⟩ := h1
  obtain ⟨a2, b2, c2, d2, e2⟩ := h2
  exact ⟨a2.trans a1, b2.trans b1, c2.trans c1, Nat.le_trans d1 d2, fun k hk hne => (e2 k (by omega) hne).trans (e1 k hk hne)⟩
def thirdB (x : Int) : Bool := x.tmod 3 == 0
/-- The marks of one, from y on. -/
def upY (y : Int) : Re := ⟨thirdB y, y + 1, y + 1 + 1, y + 1 + 1 + 1, y + 1 + 1 + 1 + 1⟩
def upR (k0 : Int) (i : Nat) : Re := upY (k0 + 5 * (i : Int))
def upTree (k0 : Int) (n : Nat) : List Re := (List.range n).map (upR k0)
theorem upTree_length (k0 : Int) (n : Nat) : (upTree k0 n).length = n := by simp [upTree]
theorem upTree_at (k0 : Int) (n i : Nat) (h : i < n) : reAt (upTree k0 n) i = upR k0 i := by simp [reAt, upTree, h]
def markT (ts : List Re) (k0 : Int) (k : Nat) : List Re := upTree k0 k ++ ts.drop k
theorem markT_length (ts : List Re) (k0 : Int) (k : Nat) (h : k ≤ ts.length) : (markT ts k0 k).length = ts.length := by simp [markT, upTree]; omega
theorem markT_start (ts : List Re) (k0 : Int) : markT ts k0 0 = ts := by simp [markT, upTree]
theorem markT_end (ts : List Re) (k0 : Int) : markT ts k0 ts.length = upTree k0 ts.length := by simp [markT]
theorem markT_set (ts : List Re) (k0 : Int) (k : Nat) (h : k < ts.length) : (markT ts k0 k).set k (upR k0 k) = markT ts k0 (k + 1) := by
  unfold markT
  have e : upTree k0 (k + 1) = upTree k0 k ++ [upR k0 k] := by simp [upTree, List.range_succ]
  rw [List.set_append_right _ _ (by rw [upTree_length]; exact Nat.le_refl _), upTree_length, Nat.sub_self, e, List.append_assoc, List.drop_eq_getElem_cons h, List.set_cons_zero]
  rfl
theorem reAt_set (ts : List Re) (i : Nat) (r : Re) (h : i < ts.length) : reAt (ts.set i r) i = r := by simp [reAt, h]
/-- One is marked, cell by cell. -/
theorem mark_one {w : World} {g : Nat} {ts : List Re} {rest : List Value} (h : TreeIn w g ts rest) (i : Nat) (hi : i < ts.length) (y : Int) :
    (∃ u, w.cell? ⟨g, i * 5, none⟩ = some u) ∧
    (∃ u, (w.setCell ⟨g, i * 5, none⟩ (.bool (thirdB y))).cell? ⟨g, i * 5 + 1, none⟩ = some u) ∧
    (∃ u, ((w.setCell ⟨g, i * 5, none⟩ (.bool (thirdB y))).setCell ⟨g, i * 5 + 1, none⟩ (.int .i64 (y + 1))).cell? ⟨g, i * 5 + 2, none⟩ = some u) ∧
    (∃ u, (((w.setCell ⟨g, i * 5, none⟩ (.bool (thirdB y))).setCell ⟨g, i * 5 + 1, none⟩ (.int .i64 (y + 1))).setCell ⟨g, i * 5 + 2, none⟩ (.int .i64 (y + 1 + 1))).cell? ⟨g, i * 5 + 3, none⟩ = some u) ∧
    (∃ u, ((((w.setCell ⟨g, i * 5, none⟩ (.bool (thirdB y))).setCell ⟨g, i * 5 + 1, none⟩ (.int .i64 (y + 1))).setCell ⟨g, i * 5 + 2, none⟩ (.int .i64 (y + 1 + 1))).setCell ⟨g, i * 5 + 3, none⟩ (.int .i64 (y + 1 + 1 + 1))).cell? ⟨g, i * 5 + 4, none⟩ = some u) ∧
    w.frozen? ⟨g, i * 5, none⟩ = false ∧
    (w.setCell ⟨g, i * 5, none⟩ (.bool (thirdB y))).frozen? ⟨g, i * 5 + 1, none⟩ = false ∧
    ((w.setCell ⟨g, i * 5, none⟩ (.bool (thirdB y))).setCell ⟨g, i * 5 + 1, none⟩ (.int .i64 (y + 1))).frozen? ⟨g, i * 5 + 2, none⟩ = false ∧
    (((w.setCell ⟨g, i * 5, none⟩ (.bool (thirdB y))).setCell ⟨g, i * 5 + 1, none⟩ (.int .i64 (y + 1))).setCell ⟨g, i * 5 + 2, none⟩ (.int .i64 (y + 1 + 1))).frozen? ⟨g, i * 5 + 3, none⟩ = false ∧
    ((((w.setCell ⟨g, i * 5, none⟩ (.bool (thirdB y))).setCell ⟨g, i * 5 + 1, none⟩ (.int .i64 (y + 1))).setCell ⟨g, i * 5 + 2, none⟩ (.int .i64 (y + 1 + 1))).setCell ⟨g, i * 5 + 3, none⟩ (.int .i64 (y + 1 + 1 + 1))).frozen? ⟨g, i * 5 + 4, none⟩ = false ∧
    TreeIn (w5 w g (i * 5) (thirdB y) (y + 1) (y + 1 + 1) (y + 1 + 1 + 1) (y + 1 + 1 + 1 + 1)) g (ts.set i (upY y)) rest := by
  have r1 := h.put0 i hi (thirdB y)
  have r2 := r1.put1 i (by simpa using hi) (y + 1)
  rw [reAt_set _ _ _ hi, List.set_set] at r2
  have r3 := r2.put2 i (by simpa using hi) (y + 1 + 1)
  rw [reAt_set _ _ _ hi, List.set_set] at r3
  have r4 := r3.put3 i (by simpa using hi) (y + 1 + 1 + 1)
  rw [reAt_set _ _ _ hi, List.set_set] at r4
  have r5 := r4.put4 i (by simpa using hi) (y + 1 + 1 + 1 + 1)
  rw [reAt_set _ _ _ hi, List.set_set] at r5
  exact ⟨⟨_, (h.cell i hi).c0⟩, ⟨_, (r1.cell i (by simpa using hi)).c1⟩, ⟨_, (r2.cell i (by simpa using hi)).c2⟩, ⟨_, (r3.cell i (by simpa using hi)).c3⟩, ⟨_, (r4.cell i (by simpa using hi)).c4⟩,
    h.free _, r1.free _, r2.free _, r3.free _, r4.free _, r5⟩
theorem grownBy_w5 {w wr : World} {g : Nat} (h : w.grownBy wr (some g)) (i : Nat) (l : Bool) (p a b c : Int) : w.grownBy (w5 wr g i l p a b c) (some g) :=
  grownBy_trans (grownBy_trans (grownBy_trans (grownBy_trans (grownBy_trans h (grownBy_set _ _ _ _)) (grownBy_set _ _ _ _)) (grownBy_set _ _ _ _)) (grownBy_set _ _ _ _)) (grownBy_set _ _ _ _)

end Go.Proofs.YtfcenombphodbaaDoor
