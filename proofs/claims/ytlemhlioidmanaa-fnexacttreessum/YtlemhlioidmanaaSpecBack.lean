/-
  The model's TreeBack.
-/
import Derived.Test.YtlemhlioidmanaaSpecPay
namespace Go.Proofs.Ytlemhlioidmanaa
open Go.RowKit
set_option linter.unusedVariables false

theorem sumN_ge (f : Re → Int) (ts : List Re) (h : ∀ i, i < 5 → 0 ≤ f (reAt ts i) ∧ f (reAt ts i) ≤ 1000000) (m : Nat) (hl : (reAt ts m).live = true) : ∀ k, m < k → k ≤ 5 → f (reAt ts m) ≤ sumN f ts k := by
  intro k
  induction k with
  | zero => intro h1; omega
  | succ k ih =>
    intro h1 h2
    have hs := sumN_small f ts h k (by omega)
    have hk := h k (by omega)
    simp only [sumN]
    by_cases he : m = k
    · subst he; rw [hl]; simp; omega
    · have := ih (by omega) (by omega)
      split <;> omega
theorem treeOk_rlive {ts : List Re} (h : treeOk ts = true) : (reAt ts 0).live = true := by
  cases hl : (reAt ts 0).live with
  | true => rfl
  | false => rw [treeOk_root hl] at h; cases h
/-- Where it is brought to. -/
def backAt (ts : List Re) (i : Int) : Nat := if liveIn ts i then i.toNat else 0
def backOk (ts : List Re) (a b c : Int) : Bool := treeOk ts && addOk (sumN Re.a ts 5) (sumN Re.b ts 5) (sumN Re.c ts 5) a b c
def backT (ts : List Re) (i : Int) (a b c : Int) : List Re := ts.set (backAt ts i) ⟨(reAt ts (backAt ts i)).live, (reAt ts (backAt ts i)).par, (reAt ts (backAt ts i)).a + a, (reAt ts (backAt ts i)).b + b, (reAt ts (backAt ts i)).c + c⟩
def backOf (ts : List Re) (i : Int) (a b c : Int) : List Re := if backOk ts a b c then backT ts i a b c else ts
theorem addOk_one {ts : List Re} {a b c : Int} {m : Nat} (hok : treeOk ts = true) (hadd : addOk (sumN Re.a ts 5) (sumN Re.b ts 5) (sumN Re.c ts 5) a b c = true) (hm : m < 5) (hl : (reAt ts m).live = true) : addOk (reAt ts m).a (reAt ts m).b (reAt ts m).c a b c = true := by
  have am := treeOk_amts hok
  have g1 := sumN_ge Re.a ts (fun i hi => by have := amtOk_true (am i hi); omega) m hl 5 hm (Nat.le_refl _)
  have g2 := sumN_ge Re.b ts (fun i hi => by have := amtOk_true (am i hi); omega) m hl 5 hm (Nat.le_refl _)
  have g3 := sumN_ge Re.c ts (fun i hi => by have := amtOk_true (am i hi); omega) m hl 5 hm (Nat.le_refl _)
  have u := amtOk_true (am m hm)
  obtain ⟨⟨hx, hy⟩, hz⟩ : (amtOk (sumN Re.a ts 5) (sumN Re.b ts 5) (sumN Re.c ts 5) = true ∧ amtOk a b c = true) ∧ amtOk (sumN Re.a ts 5 + a) (sumN Re.b ts 5 + b) (sumN Re.c ts 5 + c) = true := by unfold addOk at hadd; simpa using hadd
  have v := amtOk_true hy
  have z := amtOk_true hz
  have h3 : amtOk ((reAt ts m).a + a) ((reAt ts m).b + b) ((reAt ts m).c + c) = true := by unfold amtOk; rw [numOk_yes (by omega) (by omega), numOk_yes (by omega) (by omega), numOk_yes (by omega) (by omega)]; rfl
  unfold addOk
  rw [am m hm, hy, h3]
  rfl

end Go.Proofs.Ytlemhlioidmanaa
