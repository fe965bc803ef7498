/-
  A region that draws: a copy of the tree, a copy of the amount, a call whose answer begins with a tree.
-/
import Derived.Test.YtfcenombphodbaaDoorReadT
namespace Go.Proofs.YtfcenombphodbaaDoor
open Go.RowKit
set_option linter.unusedVariables false
set_option maxRecDepth 100000

/-- What has been done: iT copies the tree, iC calls; ahead of iC the values are known, behind it they hang on the answer's tree. -/
structure CallR (W0 : World) (ts ns : List Re) (N iT iC : Nat) (vals : List Value) (aft : Value → List Value) (L : Nat → Bool) (us : Nat → Value) (w : World) : Prop where
  below : Below W0.heap.size W0 w
  vals : ∀ j, j < iC → j ≠ iT → L j = true → us j = vals.getD j undef
  tree : L iT = true → ∃ g, us iT = .slice (some ⟨g, 0, none⟩) ts.length ts.length ∧ IsTree w (.slice (some ⟨g, 0, none⟩) ts.length ts.length) ts
  ans : ∀ j0, iC ≤ j0 → L j0 = true → ∃ g c rs, OwnT g c ns rs W0.heap.size w.heap.size w ∧ ∀ j, iC ≤ j → j < N → L j = true → us j = (aft (.slice (some ⟨g, 0, none⟩) ns.length c)).getD (j - iC) undef
theorem callR_start (W0 : World) (ts ns : List Re) (N iT iC : Nat) (vals : List Value) (aft : Value → List Value) (us : Nat → Value) : CallR W0 ts ns N iT iC vals aft (fun _ => false) us W0.drew :=
  ⟨(Below.refl _ _).drew, fun j _ _ hj => by (cases hj), fun hj => by (cases hj), fun j _ hj => by (cases hj)⟩
theorem CallR.mark {W0 : World} {ts ns : List Re} {N iT iC : Nat} {vals : List Value} {aft : Value → List Value} {L : Nat → Bool} {us : Nat → Value} {w w' : World} (h : CallR W0 ts ns N iT iC vals aft L us w) {i : Nat} {v : Value} (h1 : i ≠ iT) (h2 : i < iC) (hb : Below w.heap.size w w') (hv : v = vals.getD i undef) : CallR W0 ts ns N iT iC vals aft (markd L i) (useAt us i v) w' := by
  refine ⟨below_more h.below hb, fun j hj hne hL => ?_, fun hj => ?_, fun j0 hj0 hL => ?_⟩
  · by_cases he : j = i
    · subst he; rw [use_same]; exact hv
    · rw [markd_other L he] at hL; rw [use_other us v he]; exact h.vals j hj hne hL
  · rw [markd_other L (fun e => h1 e.symm)] at hj
    obtain ⟨g, hu, ht⟩ := h.tree hj
    exact ⟨g, by rw [use_other us v (fun e => h1 e.symm)]; exact hu, ht.on hb⟩
  · rw [markd_other L (by omega)] at hL
    obtain ⟨g, c, rs, ho, hu⟩ := h.ans j0 hj0 hL
    refine ⟨g, c, rs, (ho.on hb).more, fun j hj hN hLj => ?_⟩
    rw [markd_other L (by omega)] at hLj
    rw [use_other us v (by omega)]
    exact hu j hj hN hLj
theorem CallR.copy {W0 : World} {ts ns : List Re} {N iT iC : Nat} {vals : List Value} {aft : Value → List Value} {L : Nat → Bool} {us : Nat → Value} {w w' : World} (h : CallR W0 ts ns N iT iC vals aft L us w) {g : Nat} (h2 : iT < iC) (hb : Below w.heap.size w w') (ht : IsTree w' (.slice (some ⟨g, 0, none⟩) ts.length ts.length) ts) : CallR W0 ts ns N iT iC vals aft (markd L iT) (useAt us iT (.slice (some ⟨g, 0, none⟩) ts.length ts.length)) w' := by
  refine ⟨below_more h.below hb, fun j hj hne hL => ?_, fun hj => ⟨g, use_same _ _ _, ht⟩, fun j0 hj0 hL => ?_⟩
  · rw [markd_other L hne] at hL; rw [use_other us _ hne]; exact h.vals j hj hne hL
  · rw [markd_other L (by omega)] at hL
    obtain ⟨g, c, rs, ho, hu⟩ := h.ans j0 hj0 hL
    refine ⟨g, c, rs, (ho.on hb).more, fun j hj hN hLj => ?_⟩
    rw [markd_other L (by omega)] at hLj
    rw [use_other us _ (by omega)]
    exact hu j hj hN hLj
theorem CallR.call {W0 : World} {ts ns : List Re} {N iT iC : Nat} {vals : List Value} {aft : Value → List Value} {L : Nat → Bool} {us : Nat → Value} {w w' : World} (h : CallR W0 ts ns N iT iC vals aft L us w) {g c : Nat} {rs : List Value} {v : Value} (h2 : iT < iC) (hL0 : ∀ j, iC < j → j < N → L j = false) (hb : Below w.heap.size w w') (ho : OwnT g c ns rs w.heap.size w'.heap.size w') (hv : v = (aft (.slice (some ⟨g, 0, none⟩) ns.length c)).getD 0 undef) : CallR W0 ts ns N iT iC vals aft (markd L iC) (useAt us iC v) w' := by
  refine ⟨below_more h.below hb, fun j hj hne hL => ?_, fun hj => ?_, fun j0 hj0 hL => ⟨g, c, rs, ⟨ho.at', ho.cap, Nat.le_trans h.below.size ho.lo, ho.hi⟩, fun j hj hN hLj => ?_⟩⟩
  · rw [markd_other L (by omega)] at hL; rw [use_other us _ (by omega)]; exact h.vals j hj hne hL
  · rw [markd_other L (by omega)] at hj
    obtain ⟨g, hu, ht⟩ := h.tree hj
    exact ⟨g, by rw [use_other us _ (by omega)]; exact hu, ht.on hb⟩
  · by_cases he : j = iC
    · subst he; rw [use_same, Nat.sub_self]; exact hv
    · rw [markd_other L he, hL0 j (by omega) hN] at hLj; cases hLj
theorem CallR.after {W0 : World} {ts ns : List Re} {N iT iC : Nat} {vals : List Value} {aft : Value → List Value} {L : Nat → Bool} {us : Nat → Value} {w : World} (h : CallR W0 ts ns N iT iC vals aft L us w) {g c i : Nat} {rs : List Value} {v : Value} (h2 : iT < iC) (hi : iC < i) (ho : OwnT g c ns rs W0.heap.size w.heap.size w) (hu : ∀ j, iC ≤ j → j < N → L j = true → us j = (aft (.slice (some ⟨g, 0, none⟩) ns.length c)).getD (j - iC) undef) (hv : v = (aft (.slice (some ⟨g, 0, none⟩) ns.length c)).getD (i - iC) undef) : CallR W0 ts ns N iT iC vals aft (markd L i) (useAt us i v) w := by
  refine ⟨h.below, fun j hj hne hL => ?_, fun hj => ?_, fun j0 hj0 hL => ⟨g, c, rs, ho, fun j hj hN hLj => ?_⟩⟩
  · rw [markd_other L (by omega)] at hL; rw [use_other us _ (by omega)]; exact h.vals j hj hne hL
  · rw [markd_other L (by omega)] at hj
    obtain ⟨g, hu, ht⟩ := h.tree hj
    exact ⟨g, by rw [use_other us _ (by omega)]; exact hu, ht⟩
  · by_cases he : j = i
    · subst he; rw [use_same]; exact hv
    · rw [markd_other L he] at hLj; rw [use_other us _ he]; exact hu j hj hN hLj
theorem heldOwn {w : World} {g c : Nat} {n : Nat} {rs : List Value} {lo hi : Nat} (h : OwnT g c (upTree 1 n) rs lo hi w) : IsTree w (.slice (some ⟨g, 0, none⟩) n c) (upTree 1 n) := by
  have := h.tree
  rw [upTree_length] at this
  exact this
theorem TreeAns.form {n : Nat} {ns : List Re} {o : Bool} {w w' : World} {e : Ending} (h : TreeAns n ns o w e w') (hn : n = ns.length) : TreeAns ns.length ns o w e w' := hn ▸ h
end Go.Proofs.YtfcenombphodbaaDoor
