/-
  The laws' marks on a tree.
-/
import Derived.Test.YtlemhlioidmanaaMarkT
namespace Go.Proofs.Ytlemhlioidmanaa
open Go.RowKit
set_option linter.unusedVariables false

theorem grownBy_set (w : World) (g i : Nat) (v : Value) : w.grownBy (w.setCell ⟨g, i, none⟩ v) (some g) :=
  ⟨rfl, rfl, rfl, by simp, fun k hk hne => Below.heap_setCell w ⟨g, i, none⟩ v k (by simpa using hne)⟩
theorem grownBy_trans {w w1 w2 : World} {row : Option Nat} (h1 : w.grownBy w1 row) (h2 : w1.grownBy w2 row) : w.grownBy w2 row := by
  obtain ⟨a1, b1, c1, d1, e1⟩ := h1
  obtain ⟨a2, b2, c2, d2, e2⟩ := h2
  exact ⟨a2.trans a1, b2.trans b1, c2.trans c1, Nat.le_trans d1 d2, fun k hk hne => (e2 k (by omega) hne).trans (e1 k hk hne)⟩
def thirdB (x : Int) : Bool := x.tmod 3 == 0
/-- The marks of one, from y on. -/
def upY (y : Int) : Re := ⟨thirdB y, y + 1, y + 1 + 1, y + 1 + 1 + 1, y + 1 + 1 + 1 + 1⟩
def upR (k0 : Int) (i : Nat) : Re := upY (k0 + 5 * (i : Int))
def upTree (k0 : Int) (n : Nat) : List Re := (List.range n).map (upR k0)
theorem upTree_length (k0 : Int) (n : Nat) : (upTree k0 n).length = n := by simp [upTree]
theorem upTree_at (k0 : Int) (n i : Nat) (h : i < n) : reAt (upTree k0 n) i = upR k0 i := by simp [reAt, upTree, h]
def markT (ts : List Re) (k0 : Int) (k : Nat) : List Re := upTree k0 k ++ ts.drop k
theorem markT_length (ts : List Re) (k0 : Int) (k : Nat) (h : k ≤ ts.length) : (markT ts k0 k).length = ts.length := by simp [markT, upTree]; omega
theorem markT_start (ts : List Re) (k0 : Int) : markT ts k0 0 = ts := by simp [markT, upTree]
theorem markT_end (ts : List Re) (k0 : Int) : markT ts k0 ts.length = upTree k0 ts.length := by simp [markT]
theorem markT_set (ts : List Re) (k0 : Int) (k : Nat) (h : k < ts.length) : (markT ts k0 k).set k (upR k0 k) = markT ts k0 (k + 1) := by
  unfold markT
  have e : upTree k0 (k + 1) = upTree k0 k ++ [upR k0 k] := by simp [upTree, List.range_succ]
  rw [List.set_append_right _ _ (by rw [upTree_length]; exact Nat.le_refl _), upTree_length, Nat.sub_self, e, List.append_assoc, List.drop_eq_getElem_cons h, List.set_cons_zero]
  rfl
theorem reAt_set (ts : List Re) (i : Nat) (r : Re) (h : i < ts.length) : reAt (ts.set i r) i = r := by simp [reAt, h]
/-- One is marked, cell by cell. -/
theorem mark_one {w : World} {g : Nat} {ts : List Re} {rest : List Value} (h : TreeIn w g ts rest) (i : Nat) (hi : i < ts.length) (y : Int) :
    (∃ u, w.cell? ⟨g, i * 5, none⟩ = some u) ∧
    (∃ u, (w.setCell ⟨g, i * 5, none⟩ (.bool (thirdB y))).cell? ⟨g, i * 5 + 1, none⟩ = some u) ∧
    (∃ u, ((w.setCell ⟨g, i * 5, none⟩ (.bool (thirdB y))).setCell ⟨g, i * 5 + 1, none⟩ (.int .i64 (y + 1))).cell? ⟨g, i * 5 + 2, none⟩ = some u) ∧
    (∃ u, (((w.setCell ⟨g, i * 5, none⟩ (.bool (thirdB y))).setCell ⟨g, i * 5 + 1, none⟩ (.int .i64 (y + 1))).setCell ⟨g, i * 5 + 2, none⟩ (.int .i64 (y + 1 + 1))).cell? ⟨g, i * 5 + 3, none⟩ = some u) ∧
    (∃ u, ((((w.setCell ⟨g, i * 5, none⟩ (.bool (thirdB y))).setCell ⟨g, i * 5 + 1, none⟩ (.int .i64 (y + 1))).setCell ⟨g, i * 5 + 2, none⟩ (.int .i64 (y + 1 + 1))).setCell ⟨g, i * 5 + 3, none⟩ (.int .i64 (y + 1 + 1 + 1))).cell? ⟨g, i * 5 + 4, none⟩ = some u) ∧
    w.frozen? ⟨g, i * 5, none⟩ = false ∧
    (w.setCell ⟨g, i * 5, none⟩ (.bool (thirdB y))).frozen? ⟨g, i * 5 + 1, none⟩ = false ∧
    ((w.setCell ⟨g, i * 5, none⟩ (.bool (thirdB y))).setCell ⟨g, i * 5 + 1, none⟩ (.int .i64 (y + 1))).frozen? ⟨g, i * 5 + 2, none⟩ = false ∧
    (((w.setCell ⟨g, i * 5, none⟩ (.bool (thirdB y))).setCell ⟨g, i * 5 + 1, none⟩ (.int .i64 (y + 1))).setCell ⟨g, i * 5 + 2, none⟩ (.int .i64 (y + 1 + 1))).frozen? ⟨g, i * 5 + 3, none⟩ = false ∧
    ((((w.setCell ⟨g, i * 5, none⟩ (.bool (thirdB y))).setCell ⟨g, i * 5 + 1, none⟩ (.int .i64 (y + 1))).setCell ⟨g, i * 5 + 2, none⟩ (.int .i64 (y + 1 + 1))).setCell ⟨g, i * 5 + 3, none⟩ (.int .i64 (y + 1 + 1 + 1))).frozen? ⟨g, i * 5 + 4, none⟩ = false ∧
    TreeIn (w5 w g (i * 5) (thirdB y) (y + 1) (y + 1 + 1) (y + 1 + 1 + 1) (y + 1 + 1 + 1 + 1)) g (ts.set i (upY y)) rest := by
  have r1 := h.put0 i hi (thirdB y)
  have r2 := r1.put1 i (by simpa using hi) (y + 1)
  rw [reAt_set _ _ _ hi, List.set_set] at r2
  have r3 := r2.put2 i (by simpa using hi) (y + 1 + 1)
  rw [reAt_set _ _ _ hi, List.set_set] at r3
  have r4 := r3.put3 i (by simpa using hi) (y + 1 + 1 + 1)
  rw [reAt_set _ _ _ hi, List.set_set] at r4
  have r5 := r4.put4 i (by simpa using hi) (y + 1 + 1 + 1 + 1)
  rw [reAt_set _ _ _ hi, List.set_set] at r5
  exact ⟨⟨_, (h.cell i hi).c0⟩, ⟨_, (r1.cell i (by simpa using hi)).c1⟩, ⟨_, (r2.cell i (by simpa using hi)).c2⟩, ⟨_, (r3.cell i (by simpa using hi)).c3⟩, ⟨_, (r4.cell i (by simpa using hi)).c4⟩,
    h.free _, r1.free _, r2.free _, r3.free _, r4.free _, r5⟩
theorem grownBy_w5 {w wr : World} {g : Nat} (h : w.grownBy wr (some g)) (i : Nat) (l : Bool) (p a b c : Int) : w.grownBy (w5 wr g i l p a b c) (some g) :=
  grownBy_trans (grownBy_trans (grownBy_trans (grownBy_trans (grownBy_trans h (grownBy_set _ _ _ _)) (grownBy_set _ _ _ _)) (grownBy_set _ _ _ _)) (grownBy_set _ _ _ _)) (grownBy_set _ _ _ _)

end Go.Proofs.Ytlemhlioidmanaa
