/-
  Nobody leads to a slot any more: the program.
-/
import Derived.Test.YtglpfgachcoheabMarkA
namespace Go.Proofs.Ytglpfgachcoheab
open Go.RowKit
set_option linter.unusedVariables false
set_option maxRecDepth 100000

/-- What leads to i leads nowhere. -/
def unN (i x : Int) : Int := if x = i then -1 else x
def unO (i : Int) (o : Ob) : Ob := { o with into := unN i o.into, ls := o.ls.map (unN i) }
/-- The first n are turned. -/
def unL (i : Int) (xs : List Int) (n : Nat) : List Int := (xs.take n).map (unN i) ++ xs.drop n
theorem unL_start (i : Int) (xs : List Int) : unL i xs 0 = xs := by simp [unL]
theorem unL_end (i : Int) (xs : List Int) : unL i xs xs.length = xs.map (unN i) := by simp [unL]
theorem unL_length (i : Int) (xs : List Int) (n : Nat) (h : n ≤ xs.length) : (unL i xs n).length = xs.length := by simp [unL]; omega
theorem unL_at (i : Int) {xs : List Int} {n : Nat} (h : n < xs.length) : (unL i xs n).getD n 0 = xs.getD n 0 := by
  unfold unL
  rw [List.getD_eq_getElem?_getD, List.getElem?_append_right (by simp; omega), List.getElem?_drop, List.getD_eq_getElem?_getD]
  rw [show n + (n - ((xs.take n).map (unN i)).length) = n by simp; omega]
theorem unL_set (i : Int) {xs : List Int} {n : Nat} (h : n < xs.length) : (unL i xs n).set n (unN i (xs.getD n 0)) = unL i xs (n + 1) := by
  unfold unL
  rw [List.set_append_right _ _ (by simp; omega)]
  rw [show n - ((xs.take n).map (unN i)).length = 0 by simp; omega, List.drop_eq_getElem_cons h, List.set_cons_zero, List.take_add_one, List.getElem?_eq_getElem h]
  simp [List.getD, h]
  rw [List.take_add_one, List.getElem?_map, List.getElem?_eq_getElem h]
  simp
theorem unL_same (i : Int) {xs : List Int} {n : Nat} (h : n < xs.length) (he : xs.getD n 0 ≠ i) : unL i xs n = unL i xs (n + 1) := by
  have e := unL_set i h
  have e2 : unN i (xs.getD n 0) = xs.getD n 0 := if_neg he
  rw [e2] at e
  rw [← e]
  refine List.ext_getElem? fun j => ?_
  rw [List.getElem?_set]
  split
  · rename_i hj
    subst hj
    have hl := unL_length i xs n (by omega)
    rw [if_pos (by omega), List.getElem?_eq_getElem (by omega)]
    have e3 := unL_at i h
    rw [List.getD_eq_getElem?_getD, List.getElem?_eq_getElem (by omega : n < (unL i xs n).length)] at e3
    simpa using e3
  · rfl
theorem OwnI.at {lo hi : Nat} {w : World} {a : Option Addr} {n c : Nat} {xs : List Int} (h : OwnI lo hi w (.slice a n c) xs) {k : Nat} (hk : k < xs.length) : ∃ b rs, a = some ⟨b, 0, none⟩ ∧ lo ≤ b ∧ b < hi ∧ RowIn w b xs rs ∧ n = xs.length ∧ n ≤ c := by
  obtain ⟨a', c', hv, hc, hx⟩ := h
  cases hv
  obtain ⟨b, rs, ha, h1, h2, h3⟩ := hx (by omega)
  exact ⟨b, rs, ha, h1, h2, h3, rfl, hc⟩
/-- One number of a list of the call's own is written. -/
theorem OwnI.setAt {lo hi : Nat} {w : World} {b n c : Nat} {xs : List Int} (h : OwnI lo hi w (.slice (some ⟨b, 0, none⟩) n c) xs) {k : Nat} (hk : k < xs.length) (x : Int) : OwnI lo hi (w.setCell ⟨b, k, none⟩ (.int .i64 x)) (.slice (some ⟨b, 0, none⟩) n c) (xs.set k x) ∧ Touch (Go.Proofs.Ytglpfgachcoheab.blk (.slice (some ⟨b, 0, none⟩) n c)) w (w.setCell ⟨b, k, none⟩ (.int .i64 x)) := by
  obtain ⟨b', rs, ha, h1, h2, h3, hn, hc⟩ := h.at hk
  cases ha
  refine ⟨⟨_, c, by rw [List.length_set, ← hn], by rw [List.length_set, ← hn]; exact hc, fun _ => ⟨b, rs, rfl, h1, h2, h3.set k hk x⟩⟩, ?_⟩
  rw [blk_one _ (by omega)]
  exact touch_one (grownBy_set w b k _) (lt_of_block h3)
theorem cell10_of {w : World} {g k : Nat} {fs : List El} {e : El} {rest : List Value} (h : w.heap[g]? = some (.cells (ecells (fs.set k e) ++ rest).toArray 39 (0, 0))) (hk : k < fs.length) : w.cell? ⟨g, k * 13 + 10, none⟩ = some e.l := by
  have e1 := cell_of h (i := k) (by rw [List.length_set]; exact hk) (j := 10) (by decide)
  rw [elAt_set_same hk] at e1
  exact e1
theorem Touch.trans {bs : List Nat} {w w1 w2 : World} (h : Touch bs w w1) (h2 : Touch bs w1 w2) : Touch bs w w2 :=
  ⟨fun k x hk hx => h2.block k x hk (h.block k x hk hx), fun B w0 hB hb => h2.below B w0 hB (h.below B w0 hB hb)⟩
theorem touch_any (bs : List Nat) (w : World) : Touch bs w w := ⟨fun _ _ _ h => h, fun _ _ _ h => h⟩
/-- The first k are turned. -/
def unA (i : Int) (os : List Ob) (k : Nat) : List Ob := (os.take k).map (unO i) ++ os.drop k
theorem unA_start (i : Int) (os : List Ob) : unA i os 0 = os := by simp [unA]
theorem unA_end (i : Int) (os : List Ob) : unA i os os.length = os.map (unO i) := by simp [unA]
theorem unA_at (i : Int) {os : List Ob} {k : Nat} (h : k < os.length) : obAt (unA i os k) k = obAt os k := by
  unfold obAt unA
  rw [List.getD_eq_getElem?_getD, List.getElem?_append_right (by simp; omega), List.getElem?_drop, List.getD_eq_getElem?_getD]
  rw [show k + (k - ((os.take k).map (unO i)).length) = k by simp; omega]
theorem unA_set (i : Int) {os : List Ob} {k : Nat} (h : k < os.length) : (unA i os k).set k (unO i (obAt os k)) = unA i os (k + 1) := by
  unfold unA
  rw [List.set_append_right _ _ (by simp; omega)]
  rw [show k - ((os.take k).map (unO i)).length = 0 by simp; omega, List.drop_eq_getElem_cons h, List.set_cons_zero, take_ob h]
  simp
theorem unA_length (i : Int) (os : List Ob) (k : Nat) : (unA i os k).length = os.length := by simp [unA]; omega
end Go.Proofs.Ytglpfgachcoheab
