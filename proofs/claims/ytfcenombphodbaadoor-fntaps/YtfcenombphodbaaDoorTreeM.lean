/-
  Trees: when one is right, in plain words.
-/
import Derived.Test.YtfcenombphodbaaDoorMarkA
import Derived.Test.YtfcenombphodbaaDoorAmts
namespace Go.Proofs.YtfcenombphodbaaDoor
open Go.RowKit
set_option linter.unusedVariables false
set_option maxRecDepth 100000

theorem wraps_i64 : ∀ n : Int, 0 ≤ n → n < 2 ^ 63 → IntKind.i64.wrap n = n := by
  intro n h0 h1
  simp [IntKind.wrap, IntKind.bits, IntKind.signed] at *
  split <;> omega
/-- The sum over the first k of those that live. -/
def sumN (f : Re → Int) (ts : List Re) : Nat → Int
  | 0 => 0
  | k + 1 => sumN f ts k + (if (reAt ts k).live then f (reAt ts k) else 0)
theorem sumN_small (f : Re → Int) (ts : List Re) (h : ∀ i, i < 5 → 0 ≤ f (reAt ts i) ∧ f (reAt ts i) ≤ 1000000) : ∀ k, k ≤ 5 → 0 ≤ sumN f ts k ∧ sumN f ts k ≤ 1000000 * (k : Int) := by
  intro k
  induction k with
  | zero => intro _; simp [sumN]
  | succ k ih =>
    intro hk
    have h1 := ih (by omega)
    have h2 := h k (by omega)
    simp only [sumN]
    split <;> omega
/-- Is a place's own right? -/
def isZero (r : Re) : Bool := decide (r.par = 0) && decide (r.a = 0) && decide (r.b = 0) && decide (r.c = 0)
def placeOk (r : Re) : Bool := (r.live || isZero r) && amtOk r.a r.b r.c
/-- Is its Parent a place that lives? -/
def parOk (ts : List Re) (i : Nat) : Bool := decide (i = 0) || !(reAt ts i).live || (decide (0 ≤ (reAt ts i).par) && decide ((reAt ts i).par ≤ 4) && !decide ((reAt ts i).par = i) && (reAt ts (reAt ts i).par.toNat).live)
/-- From parent to parent, n times, as long as there is one above. -/
def upN (ts : List Re) : Nat → Int → Int
  | 0, at' => at'
  | n + 1, at' => if 0 < at' then upN ts n (reAt ts at'.toNat).par else at'
def leads (ts : List Re) (i : Nat) : Bool := !(reAt ts i).live || decide (upN ts 5 i = 0)
/-- Is a tree right? -/
def treeOk (ts : List Re) : Bool :=
  decide (ts.length = 5) && (reAt ts 0).live && decide ((reAt ts 0).par = -1) && ((List.range 5).all fun i => placeOk (reAt ts i) && parOk ts i) && ((List.range 5).all fun i => leads ts i) &&
  amtOk (sumN Re.a ts 5) (sumN Re.b ts 5) (sumN Re.c ts 5)
theorem treeOk_len {ts : List Re} (h : ¬ ts.length = 5) : treeOk ts = false := by unfold treeOk; simp [h]
theorem treeOk_root {ts : List Re} (h : (reAt ts 0).live = false) : treeOk ts = false := by unfold treeOk; simp [h]
theorem treeOk_rpar {ts : List Re} (h : ¬ (reAt ts 0).par = -1) : treeOk ts = false := by unfold treeOk; simp [h]
theorem treeOk_place {ts : List Re} {i : Nat} (hi : i < 5) (h : (placeOk (reAt ts i) && parOk ts i) = false) : treeOk ts = false := by
  have h1 : ((List.range 5).all fun i => placeOk (reAt ts i) && parOk ts i) = false := List.all_eq_false.2 ⟨i, List.mem_range.2 hi, by simp [h]⟩
  unfold treeOk
  rw [h1]
  simp
theorem treeOk_leads {ts : List Re} {i : Nat} (hi : i < 5) (h : leads ts i = false) : treeOk ts = false := by
  have h1 : ((List.range 5).all fun i => leads ts i) = false := List.all_eq_false.2 ⟨i, List.mem_range.2 hi, by simp [h]⟩
  unfold treeOk
  rw [h1]
  simp
theorem treeOk_all {ts : List Re} (hl : ts.length = 5) (hr : (reAt ts 0).live = true) (hp : (reAt ts 0).par = -1) (h1 : ∀ i, i < 5 → (placeOk (reAt ts i) && parOk ts i) = true) (h2 : ∀ i, i < 5 → leads ts i = true) : treeOk ts = amtOk (sumN Re.a ts 5) (sumN Re.b ts 5) (sumN Re.c ts 5) := by
  have e1 : ((List.range 5).all fun i => placeOk (reAt ts i) && parOk ts i) = true := List.all_eq_true.2 fun i hi => h1 i (List.mem_range.1 hi)
  have e2 : ((List.range 5).all fun i => leads ts i) = true := List.all_eq_true.2 fun i hi => h2 i (List.mem_range.1 hi)
  unfold treeOk
  rw [e1, e2]
  simp [hl, hr, hp]
theorem upN_step (ts : List Re) (n A : Nat) (h : 0 < A) : upN ts (n + 1) (A : Int) = upN ts n (reAt ts A).par := by
  simp only [upN]
  rw [if_pos (by omega)]
  simp
theorem upN_stop (ts : List Re) (n : Nat) : upN ts n 0 = 0 := by
  cases n with
  | zero => rfl
  | succ n => simp [upN]
theorem parOk_up {ts : List Re} {A : Nat} (h : parOk ts A = true) (h0 : 0 < A) (hl : (reAt ts A).live = true) : ∃ m : Nat, (reAt ts A).par = (m : Int) ∧ m < 5 ∧ (reAt ts m).live = true := by
  unfold parOk at h
  rw [hl] at h
  simp at h
  rcases h with h | ⟨⟨⟨h1, h2⟩, h3⟩, h4⟩
  · omega
  · exact ⟨(reAt ts A).par.toNat, by omega, by omega, h4⟩
end Go.Proofs.YtfcenombphodbaaDoor
