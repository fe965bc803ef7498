/-
  A region that draws its order, walked once an operation: by what is kept whatever has been done.
-/
import Derived.Test.YtokicnopfmokaaaTree
import Derived.Deep.RegionWith
import Derived.RegionTactic
namespace Go.Proofs.Ytokicnopfmokaaa
open Go.RowKit
set_option linter.unusedVariables false
set_option maxRecDepth 100000

/-- 'i' is done besides. -/
def markd (L : Nat → Bool) (i : Nat) : Nat → Bool := fun j => if j = i then true else L j
theorem markd_same (L : Nat → Bool) (i : Nat) : markd L i i = true := by simp [markd]
theorem markd_other (L : Nat → Bool) {i j : Nat} (h : j ≠ i) : markd L i j = L j := by simp [markd, h]
/-- Every edge leads to an operation ahead. -/
def edgesDown (ops : Array Oper) : Bool := (List.range ops.size).all fun i => ((ops[i]?).map (·.after.all fun e => decide (e.on < i))).getD true
/-- What is asked of one operation. -/
def StepInv (P : Program) (ops : Array Oper) (Q : Exit → Act → World → Prop) (Inv : (Nat → Bool) → Act → World → Prop) (i : Nat) : Prop :=
  ∀ (o : Oper), ops[i]? = some o → ∀ (L : Nat → Bool) (a : Act) (w : World), (o.after.all fun e => !Region.binds .any e || L e.on) = true → Inv L a w →
    ∀ K : Act → World → Prop, (∀ a w, Inv (markd L i) a w → K a w) → if Region.wanted o (yielded ops a.tmps) = true then Oper.wp P o a w K Q else K (a.put o.dst undef) w
/-- How many are left. -/
def leftOf (ops : Array Oper) (listed : Array Bool) : Nat := (List.range ops.size).countP fun i => !listed.getD i false

theorem countP_less {p q : Nat → Bool} {i : Nat} : ∀ (l : List Nat), (∀ j, q j = true → p j = true) → i ∈ l → p i = true → q i = false → l.countP q < l.countP p
  | [], _, h, _, _ => by cases h
  | x :: l, hm, hi, hp, hq => by
    have hle : l.countP q ≤ l.countP p := List.countP_mono_left fun j _ h => hm j h
    rw [List.countP_cons, List.countP_cons]
    by_cases hx : x = i
    · subst hx
      rw [hp, hq]; simp; omega
    · have hil : i ∈ l := by
        rcases List.mem_cons.1 hi with h | h
        · exact absurd h.symm hx
        · exact h
      have := countP_less l hm hil hp hq
      have h2 : (if q x = true then 1 else 0) ≤ (if p x = true then 1 else 0) := by
        by_cases hqx : q x = true
        · rw [if_pos hqx, if_pos (hm x hqx)]; exact Nat.le_refl _
        · rw [if_neg hqx]; exact Nat.zero_le _
      omega

theorem all_listed {ops : Array Oper} (hd : edgesDown ops = true) {listed : Array Bool} (hs : listed.size = ops.size) (hr : Region.ready .any ops listed = []) : ∀ i, i < ops.size → listed.getD i false = true := by
  intro i
  induction i using Nat.strongRecOn with
  | ind i ih =>
    intro hi
    cases hl : listed.getD i false with
    | true => rfl
    | false =>
      exfalso
      have hmem : i ∈ Region.ready .any ops listed := by
        unfold Region.ready
        refine List.mem_filter.2 ⟨List.mem_range.2 hi, ?_⟩
        have h1 : listed.getD i true = false := by
          simp only [Array.getD, hs, hi, dite_true] at hl ⊢
          exact hl
        have ho : ops[i]? = some ops[i] := by simp [hi]
        rw [h1, ho]
        simp only [Bool.not_false, Bool.true_and, Option.map_some, Option.getD_some]
        rw [Array.all_eq_true]
        intro k hk
        have hdn : (ops[i].after.all fun e => decide (e.on < i)) = true := by
          have := List.all_eq_true.1 hd i (List.mem_range.2 hi)
          rw [ho] at this
          exact this
        have hlt := Array.all_eq_true.1 hdn k hk
        have := ih (ops[i].after[k].on) (by simpa using hlt) (by have : ops[i].after[k].on < i := by simpa using hlt
                                                                 omega)
        rw [this]; simp
      rw [hr] at hmem
      cases hmem

theorem getD_set (L : Array Bool) (i j : Nat) (hi : i < L.size) : (L.setIfInBounds i true).getD j false = markd (fun j => L.getD j false) i j := by
  unfold markd
  by_cases h : j = i
  · subst h
    simp [Array.getD, hi]
  · rw [if_neg h]
    simp only [Array.getD, Array.size_setIfInBounds]
    split
    · rename_i hj
      simp only [Array.getInternal_eq_getElem]
      rw [Array.getElem_setIfInBounds_ne hj (fun e => h e.symm)]
    · rfl

theorem wpAny_inv {P : Program} {ops : Array Oper} {Q : Exit → Act → World → Prop} (hd : edgesDown ops = true) (Inv : (Nat → Bool) → Act → World → Prop)
    (hstep : ∀ i, i < ops.size → StepInv P ops Q Inv i) (hend : ∀ L a w, (∀ i, i < ops.size → L i = true) → Inv L a w → Q .normal a w) :
    ∀ (fuel : Nat) (listed : Array Bool) (a : Act) (w : World), listed.size = ops.size → leftOf ops listed ≤ fuel → Inv (fun j => listed.getD j false) a w → wpAny P .any ops Q fuel listed a w := by
  intro fuel
  induction fuel with
  | zero =>
    intro listed a w hs hl hi
    have hall : ∀ i, i < ops.size → listed.getD i false = true := by
      intro i hi
      have h0 : leftOf ops listed = 0 := by omega
      unfold leftOf at h0
      rw [List.countP_eq_zero] at h0
      have := h0 i (List.mem_range.2 hi)
      simpa using this
    refine ⟨?_, hend _ _ _ hall hi⟩
    unfold Region.ready
    rw [List.filter_eq_nil_iff]
    intro i hm
    have hi := hall i (List.mem_range.1 hm)
    have h1 : listed.getD i true = true := by
      simp only [Array.getD, hs, List.mem_range.1 hm, dite_true] at hi ⊢
      exact hi
    rw [h1]; simp
  | succ fuel ih =>
    intro listed a w hs hl hi
    refine ⟨fun hr => hend _ _ _ (all_listed hd hs hr) hi, fun i hr => ?_⟩
    unfold Region.ready at hr
    obtain ⟨hm, hb⟩ := List.mem_filter.1 hr
    have him := List.mem_range.1 hm
    have ho : ops[i]? = some ops[i] := by simp [him]
    rw [ho] at hb
    simp only [Option.map_some, Option.getD_some, Bool.and_eq_true, Bool.not_eq_true'] at hb
    have hun : listed.getD i false = false := by
      have := hb.1
      simp only [Array.getD, hs, him, dite_true] at this ⊢
      exact this
    refine wpOp_step ho fun K hK => ?_
    refine hstep i him _ ho (fun j => listed.getD j false) a w hb.2 hi K ?_
    intro a' w' hi'
    refine hK a' w' (ih (listed.setIfInBounds i true) a' w' (by simp [hs]) ?_ ?_)
    · have : leftOf ops (listed.setIfInBounds i true) < leftOf ops listed := by
        unfold leftOf
        refine countP_less (i := i) _ ?_ hm (by simp [hun]) ?_
        · intro j hj
          rw [getD_set listed i j (by omega)] at hj
          unfold markd at hj
          by_cases h : j = i
          · rw [if_pos h] at hj; simp at hj
          · rw [if_neg h] at hj; exact hj
        · rw [getD_set listed i i (by omega), markd_same]; rfl
      omega
    · have : (fun j => (listed.setIfInBounds i true).getD j false) = markd (fun j => listed.getD j false) i := funext fun j => getD_set listed i j (by omega)
      rw [this]; exact hi'

/-- A region that draws, by what is kept. -/
theorem wp_region_inv {P : Program} {ops : Array Oper} {Q : Exit → Act → World → Prop} {id : Nat} {a : Act} {w : World} (hm : P.follows .mixedOrders = true) (hd : edgesDown ops = true) (Inv : (Nat → Bool) → Act → World → Prop)
    (h0 : Inv (fun _ => false) a w.drew) (hstep : ∀ i, i < ops.size → StepInv P ops Q Inv i) (hend : ∀ L a w, (∀ i, i < ops.size → L i = true) → Inv L a w → Q .normal a w) : (Code.region id ops true).wp P Q a w := by
  refine wp_region_any hm (wpAny_inv hd Inv hstep hend _ _ _ _ (by simp) ?_ ?_)
  · unfold leftOf
    exact Nat.le_trans List.countP_le_length (by simp)
  · have : (fun j => (Array.replicate ops.size false).getD j false) = fun _ => false := by
      funext j
      simp only [Array.getD, Array.size_replicate]
      split
      · simp
      · rfl
    rw [this]; exact h0
end Go.Proofs.Ytokicnopfmokaaa
