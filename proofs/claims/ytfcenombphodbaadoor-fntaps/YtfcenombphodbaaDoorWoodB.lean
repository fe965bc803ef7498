/-
  Lists of trees: their size, two alike, marks. Marks on lists of trees of the call's own.
-/
import Derived.Test.YtfcenombphodbaaDoorWoodA
namespace Go.Proofs.YtfcenombphodbaaDoor
open Go.RowKit
set_option linter.unusedVariables false
set_option maxRecDepth 100000

theorem IsTrees.at {w : World} {a : Option Addr} {n cap : Nat} {tss : List (List Re)} (h : IsTrees w (.slice a n cap) tss) {i : Nat} (hi : i < tss.length) : ∃ p q u, a = some p ∧ p.add i = q ∧ w.cell? q = some u ∧ IsTree w u (treeAt tss i) := by
  obtain ⟨a', cap', hv, _, hx⟩ := h
  cases hv
  obtain ⟨p, u, hp, h1, h2⟩ := hx i hi
  exact ⟨p, _, u, hp, rfl, h1, h2⟩
/-- What is left of the room behind all of them. -/
def szA (tss : List (List Re)) : Int := if ((tss.length : Int) + woodN tss) ≤ 1048576 then 1048576 - tss.length - woodN tss else -1
theorem szA_yes {tss : List (List Re)} (h : ((tss.length : Int) + woodN tss) ≤ 1048576) : szA tss = 1048576 - tss.length - woodN tss := if_pos h
theorem szA_no {tss : List (List Re)} (h : ¬ ((tss.length : Int) + woodN tss) ≤ 1048576) : szA tss = -1 := if_neg h
/-- The trees as they are marked from k on. -/
def upWood : Int → List (List Re) → List (List Re)
  | _, [] => []
  | k, ts :: tss => upTree k ts.length :: upWood (k + 5 * (ts.length : Int)) tss
theorem upWood_length : ∀ (k : Int) (tss : List (List Re)), (upWood k tss).length = tss.length
  | _, [] => rfl
  | k, ts :: tss => by simp [upWood, upWood_length]
theorem upWood_at : ∀ (tss : List (List Re)) (k : Int) (i : Nat), i < tss.length → treeAt (upWood k tss) i = upTree (k + 5 * (woodN (tss.take i) : Int)) (treeAt tss i).length
  | [], _, i, h => by simp at h
  | ts :: tss, k, 0, _ => by simp [upWood, treeAt, woodN]
  | ts :: tss, k, i + 1, h => by
    have ih := upWood_at tss (k + 5 * (ts.length : Int)) i (by simpa using h)
    have e1 : treeAt (upWood k (ts :: tss)) (i + 1) = treeAt (upWood (k + 5 * (ts.length : Int)) tss) i := by simp [treeAt, upWood]
    have e2 : treeAt (ts :: tss) (i + 1) = treeAt tss i := by simp [treeAt]
    rw [e1, e2, ih, List.take_succ_cons, woodN_cons]
    congr 1
    omega
/-- The first i are marked. -/
def markW (fs : List Leaf) (k0 : Int) (i : Nat) : List Leaf := (fs.take i).zipIdx.map (fun x => { x.1 with ts := upTree (k0 + 5 * (woodN ((leafTs fs).take x.2) : Int)) x.1.ts.length }) ++ fs.drop i
theorem markW_start (fs : List Leaf) (k0 : Int) : markW fs k0 0 = fs := by simp [markW]
theorem markW_length (fs : List Leaf) (k0 : Int) (i : Nat) (h : i ≤ fs.length) : (markW fs k0 i).length = fs.length := by simp [markW]; omega
theorem markW_low {fs : List Leaf} {k0 : Int} {i j : Nat} (h : i ≤ fs.length) (hj : j < i) : leafAt (markW fs k0 i) j = { leafAt fs j with ts := upTree (k0 + 5 * (woodN ((leafTs fs).take j) : Int)) (leafAt fs j).ts.length } := by
  unfold leafAt List.getD markW
  rw [List.getElem?_append_left (by simp; omega)]
  simp [hj, List.getElem?_eq_getElem (by omega : j < fs.length)]
theorem markW_high {fs : List Leaf} {k0 : Int} {i j : Nat} (h : i ≤ fs.length) (hj : i ≤ j) : leafAt (markW fs k0 i) j = leafAt fs j := by
  unfold leafAt List.getD markW
  rw [List.getElem?_append_right (by simp; omega)]
  simp
  rw [show i + (j - min i fs.length) = j by omega]
theorem leaf_get {fs : List Leaf} {j : Nat} (h : j < fs.length) : fs[j]? = some (leafAt fs j) := by rw [leafAt_in h]; simp [h]
theorem tree_get {tss : List (List Re)} {j : Nat} (h : j < tss.length) : tss[j]? = some (treeAt tss j) := by rw [treeAt_in h]; simp [h]
theorem markW_next {fs : List Leaf} {k0 : Int} {i : Nat} (h : i < fs.length) : markW fs k0 (i + 1) = (markW fs k0 i).set i { leafAt fs i with ts := upTree (k0 + 5 * (woodN ((leafTs fs).take i) : Int)) (leafAt fs i).ts.length } := by
  refine List.ext_getElem? fun j => ?_
  have hl := markW_length fs k0 (i + 1) h
  have hl' := markW_length fs k0 i (by omega)
  by_cases hj : j < fs.length
  · rw [leaf_get (by omega), leaf_get (by rw [List.length_set]; omega)]
    by_cases hij : i = j
    · subst hij
      rw [leafAt_set_same (by omega), markW_low h (by omega)]
    · rw [leafAt_set_other _ _ hij]
      by_cases hlt : j < i
      · rw [markW_low h (by omega), markW_low (by omega) hlt]
      · rw [markW_high h (by omega), markW_high (by omega) (by omega)]
  · rw [List.getElem?_eq_none (by omega), List.getElem?_eq_none (by rw [List.length_set]; omega)]
theorem markW_end (fs : List Leaf) (k0 : Int) : leafTs (markW fs k0 fs.length) = upWood k0 (leafTs fs) := by
  refine List.ext_getElem? fun j => ?_
  have hl := markW_length fs k0 fs.length (Nat.le_refl _)
  by_cases hj : j < fs.length
  · rw [tree_get (by rw [leafTs_length]; omega), tree_get (by rw [upWood_length, leafTs_length]; omega), leafTs_at, markW_low (Nat.le_refl _) hj, upWood_at _ _ _ (by rw [leafTs_length]; exact hj), leafTs_at]
  · rw [List.getElem?_eq_none (by rw [leafTs_length]; omega), List.getElem?_eq_none (by rw [upWood_length, leafTs_length]; omega)]
/-- One of the trees is turned. -/
theorem OwnW.turn {g cap : Nat} {fs : List Leaf} {rest : List Value} {lo hi : Nat} {w w' : World} (h : OwnW g cap fs rest lo hi w) {k : Nat} (hk : k < fs.length) {ts' : List Re} (hg : w.grownBy w' (some (leafAt fs k).g)) (hl : ts'.length = (leafAt fs k).ts.length)
    (ho : OwnT (leafAt fs k).g (leafAt fs k).c ts' (leafAt fs k).rs lo hi w') : OwnW g cap (fs.set k { leafAt fs k with ts := ts' }) rest lo hi w' := by
  have hv : (fs.set k { leafAt fs k with ts := ts' }).map leafV = fs.map leafV := by
    rw [List.map_set]
    refine List.ext_getElem? fun j => ?_
    rw [List.getElem?_set]
    split
    · rename_i e
      subst e
      rw [if_pos (by simpa using hk)]
      rw [List.getElem?_map, List.getElem?_eq_getElem hk]
      simp [leafV, hl, leafAt_in hk]
    · rfl
  refine ⟨by rw [hv]; exact grown_kept hg h.at' (fun e => h.ne k hk (by cases e; rfl)), by rw [List.length_set]; exact h.cap, h.lo, h.hi, fun i hi' => ?_, fun i hi' => ?_, fun i j hij hj => ?_⟩
  · rw [List.length_set] at hi'
    by_cases he : k = i
    · subst he
      rw [leafAt_set_same hk]; exact ho
    · rw [leafAt_set_other _ _ he]
      have h1 := h.own i hi'
      refine ⟨grown_kept hg h1.at' (fun e => ?_), h1.cap, h1.lo, h1.hi⟩
      have e' : (leafAt fs k).g = (leafAt fs i).g := by simpa using e
      rcases Nat.lt_or_gt_of_ne he with hlt | hgt
      · exact h.apart k i hlt hi' e'
      · exact h.apart i k hgt hk e'.symm
  · rw [List.length_set] at hi'
    by_cases he : k = i
    · subst he
      rw [leafAt_set_same hk]; exact h.ne k hk
    · rw [leafAt_set_other _ _ he]; exact h.ne i hi'
  · rw [List.length_set] at hj
    have e1 : ∀ m, (leafAt (fs.set k { leafAt fs k with ts := ts' }) m).g = (leafAt fs m).g := fun m => by
      by_cases he : k = m
      · subst he
        rw [leafAt_set_same hk]
      · rw [leafAt_set_other _ _ he]
    rw [e1, e1]
    exact h.apart i j hij hj
end Go.Proofs.YtfcenombphodbaaDoor
namespace Go.Proofs.YtfcenombphodbaaDoor
open Go.RowKit
set_option linter.unusedVariables false
set_option maxRecDepth 100000

/-- Nothing is turned but between two blocks. -/
structure Turned (lo hi : Nat) (w w' : World) : Prop where
  block : ∀ k o, w.heap[k]? = some o → (k < lo ∨ hi ≤ k) → w'.heap[k]? = some o
  below : ∀ B w0, B ≤ lo → Below B w0 w → Below B w0 w'
theorem Turned.refl (lo hi : Nat) (w : World) : Turned lo hi w w := ⟨fun _ _ h _ => h, fun _ _ _ h => h⟩
theorem Turned.step {lo hi : Nat} {w w1 w2 : World} (h : Turned lo hi w w1) {g : Nat} (hg : w1.grownBy w2 (some g)) (h1 : lo ≤ g) (h2 : g < hi) (h3 : g < w1.heap.size) : Turned lo hi w w2 :=
  ⟨fun k o hk hc => grown_kept hg (h.block k o hk hc) (fun e => by cases e; omega), fun B w0 hB hb => (h.below B w0 hB hb).grown hg (by omega) (fun k e => by cases e; omega)⟩
theorem OwnT.turned {g cap : Nat} {ts : List Re} {rs : List Value} {lo hi l0 h0 : Nat} {w w' : World} (h : OwnT g cap ts rs lo hi w) (ht : Turned l0 h0 w w') (hd : hi ≤ l0 ∨ h0 ≤ lo) : OwnT g cap ts rs lo hi w' :=
  ⟨ht.block _ _ h.at' (by have := h.lo; have := h.hi; omega), h.cap, h.lo, h.hi⟩
theorem OwnW.turned {g cap : Nat} {fs : List Leaf} {rest : List Value} {lo hi l0 h0 : Nat} {w w' : World} (h : OwnW g cap fs rest lo hi w) (ht : Turned l0 h0 w w') (hd : hi ≤ l0 ∨ h0 ≤ lo) : OwnW g cap fs rest lo hi w' :=
  ⟨ht.block _ _ h.at' (by have := h.lo; have := h.hi; omega), h.cap, h.lo, h.hi, fun i hi' => (h.own i hi').turned ht hd, h.ne, h.apart⟩
theorem leafTs_len (fs : List Leaf) (i : Nat) : (leafAt fs i).ts.length = (treeAt (leafTs fs) i).length := by rw [leafTs_at]
end Go.Proofs.YtfcenombphodbaaDoor
