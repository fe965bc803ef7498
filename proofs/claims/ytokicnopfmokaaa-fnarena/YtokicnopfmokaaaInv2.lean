/-
  Regions that draw, once more: only what binds leads ahead; and an operation is told that it has not been done.
-/
import Derived.Test.YtokicnopfmokaaaKeep2
namespace Go.Proofs.Ytokicnopfmokaaa
open Go.RowKit
set_option linter.unusedVariables false
set_option maxRecDepth 100000

/-- Every edge that binds leads to an operation ahead. -/
def edgesDown2 (ops : Array Oper) : Bool := (List.range ops.size).all fun i => ((ops[i]?).map (·.after.all fun e => !Region.binds .any e || decide (e.on < i))).getD true
/-- What is asked of one operation. -/
def StepInv2 (P : Program) (ops : Array Oper) (Q : Exit → Act → World → Prop) (Inv : (Nat → Bool) → Act → World → Prop) (i : Nat) : Prop :=
  ∀ (o : Oper), ops[i]? = some o → ∀ (L : Nat → Bool) (a : Act) (w : World), L i = false → (o.after.all fun e => !Region.binds .any e || L e.on) = true → Inv L a w →
    ∀ K : Act → World → Prop, (∀ a w, Inv (markd L i) a w → K a w) → if Region.wanted o (yielded ops a.tmps) = true then Oper.wp P o a w K Q else K (a.put o.dst undef) w
theorem all_listed2 {ops : Array Oper} (hd : edgesDown2 ops = true) {listed : Array Bool} (hs : listed.size = ops.size) (hr : Region.ready .any ops listed = []) : ∀ i, i < ops.size → listed.getD i false = true := by
  intro i
  induction i using Nat.strongRecOn with
  | ind i ih =>
    intro hi
    cases hl : listed.getD i false with
    | true => rfl
    | false =>
      exfalso
      have hmem : i ∈ Region.ready .any ops listed := by
        unfold Region.ready
        refine List.mem_filter.2 ⟨List.mem_range.2 hi, ?_⟩
        have h1 : listed.getD i true = false := by
          simp only [Array.getD, hs, hi, dite_true] at hl ⊢
          exact hl
        have ho : ops[i]? = some ops[i] := by simp [hi]
        rw [h1, ho]
        simp only [Bool.not_false, Bool.true_and, Option.map_some, Option.getD_some]
        rw [Array.all_eq_true]
        intro k hk
        have hdn : (ops[i].after.all fun e => !Region.binds .any e || decide (e.on < i)) = true := by
          have := List.all_eq_true.1 hd i (List.mem_range.2 hi)
          rw [ho] at this
          exact this
        have hlt := Array.all_eq_true.1 hdn k hk
        cases hbk : Region.binds .any ops[i].after[k] with
        | false => rfl
        | true =>
          rw [hbk] at hlt
          have hlt' : ops[i].after[k].on < i := by simpa using hlt
          have := ih (ops[i].after[k].on) hlt' (by omega)
          rw [this]; rfl
      rw [hr] at hmem
      cases hmem

theorem wpAny_inv2 {P : Program} {ops : Array Oper} {Q : Exit → Act → World → Prop} (hd : edgesDown2 ops = true) (Inv : (Nat → Bool) → Act → World → Prop)
    (hstep : ∀ i, i < ops.size → StepInv2 P ops Q Inv i) (hend : ∀ L a w, (∀ i, i < ops.size → L i = true) → Inv L a w → Q .normal a w) :
    ∀ (fuel : Nat) (listed : Array Bool) (a : Act) (w : World), listed.size = ops.size → leftOf ops listed ≤ fuel → Inv (fun j => listed.getD j false) a w → wpAny P .any ops Q fuel listed a w := by
  intro fuel
  induction fuel with
  | zero =>
    intro listed a w hs hl hi
    have hall : ∀ i, i < ops.size → listed.getD i false = true := by
      intro i hi
      have h0 : leftOf ops listed = 0 := by omega
      unfold leftOf at h0
      rw [List.countP_eq_zero] at h0
      have := h0 i (List.mem_range.2 hi)
      simpa using this
    refine ⟨?_, hend _ _ _ hall hi⟩
    unfold Region.ready
    rw [List.filter_eq_nil_iff]
    intro i hm
    have hi := hall i (List.mem_range.1 hm)
    have h1 : listed.getD i true = true := by
      simp only [Array.getD, hs, List.mem_range.1 hm, dite_true] at hi ⊢
      exact hi
    rw [h1]; simp
  | succ fuel ih =>
    intro listed a w hs hl hi
    refine ⟨fun hr => hend _ _ _ (all_listed2 hd hs hr) hi, fun i hr => ?_⟩
    unfold Region.ready at hr
    obtain ⟨hm, hb⟩ := List.mem_filter.1 hr
    have him := List.mem_range.1 hm
    have ho : ops[i]? = some ops[i] := by simp [him]
    rw [ho] at hb
    simp only [Option.map_some, Option.getD_some, Bool.and_eq_true, Bool.not_eq_true'] at hb
    have hun : listed.getD i false = false := by
      have := hb.1
      simp only [Array.getD, hs, him, dite_true] at this ⊢
      exact this
    refine wpOp_step ho fun K hK => ?_
    refine hstep i him _ ho (fun j => listed.getD j false) a w hun hb.2 hi K ?_
    intro a' w' hi'
    refine hK a' w' (ih (listed.setIfInBounds i true) a' w' (by simp [hs]) ?_ ?_)
    · have : leftOf ops (listed.setIfInBounds i true) < leftOf ops listed := by
        unfold leftOf
        refine countP_less (i := i) _ ?_ hm (by simp [hun]) ?_
        · intro j hj
          rw [getD_set listed i j (by omega)] at hj
          unfold markd at hj
          by_cases h : j = i
          · rw [if_pos h] at hj; simp at hj
          · rw [if_neg h] at hj; exact hj
        · rw [getD_set listed i i (by omega), markd_same]; rfl
      omega
    · have : (fun j => (listed.setIfInBounds i true).getD j false) = markd (fun j => listed.getD j false) i := funext fun j => getD_set listed i j (by omega)
      rw [this]; exact hi'


theorem wp_region_inv2 {P : Program} {ops : Array Oper} {Q : Exit → Act → World → Prop} {id : Nat} {a : Act} {w : World} (hm : P.follows .mixedOrders = true) (hd : edgesDown2 ops = true) (Inv : (Nat → Bool) → Act → World → Prop)
    (h0 : Inv (fun _ => false) a w.drew) (hstep : ∀ i, i < ops.size → StepInv2 P ops Q Inv i) (hend : ∀ L a w, (∀ i, i < ops.size → L i = true) → Inv L a w → Q .normal a w) : (Code.region id ops true).wp P Q a w := by
  refine wp_region_any hm (wpAny_inv2 hd Inv hstep hend _ _ _ _ (by simp) ?_ ?_)
  · unfold leftOf
    exact Nat.le_trans List.countP_le_length (by simp)
  · have : (fun j => (Array.replicate ops.size false).getD j false) = fun _ => false := by
      funext j
      simp only [Array.getD, Array.size_replicate]
      split
      · simp
      · rfl
    rw [this]; exact h0
theorem wp_region_keep2 {P : Program} {ops : Array Oper} {Q : Exit → Act → World → Prop} {id : Nat} {a : Act} {w : World} (hm : P.follows .mixedOrders = true) (hd : edgesDown2 ops = true) (ha : dstsApart ops.toList = true)
    (Base : World → Prop) (G : Nat → Value → World → Prop) (h0 : Base w.drew) (hstep : ∀ i, i < ops.size → KeepStep P ops Q a Base G i)
    (hend : ∀ us w', Base w' → (∀ j, j < ops.size → G j (us j) w') → ∀ a', a' = putAll a ops.toList us 0 → Q .normal a' w') : (Code.region id ops true).wp P Q a w := by
  refine wp_region_inv2 hm hd (fun L a' w' => Base w' ∧ ∃ us, a' = putAll a ops.toList us 0 ∧ ∀ j, L j = true → G j (us j) w') ?_ ?_ ?_
  · refine ⟨h0, fun j => (match ops.toList[j]? with | some o => (match o.dst with | some d => a.tmps.getD d undef | none => undef) | none => undef), ?_, fun j hj => by cases hj⟩
    exact (putAll_old _ a _ 0 ha fun j o ho => by simp only [Nat.zero_add]; rw [ho]; rfl).symm
  · intro i hi o ho L a' w' _ hdeps hinv K hK
    obtain ⟨hB, us, rfl, hG⟩ := hinv
    refine hstep i hi o ho us w' hB ?_ K ?_
    · intro k hk hb
      have := Array.all_eq_true.1 hdeps k hk
      rw [hb] at this
      exact hG _ (by simpa using this)
    · intro v w'' hB' ht hgi a'' ha''
      refine hK a'' w'' ⟨hB', useAt us i v, ?_, ?_⟩
      · rw [ha'', putAll_use ops.toList a us 0 i o v ha (by simpa using ho), Nat.zero_add]
      · intro j hj
        unfold markd at hj
        unfold useAt
        by_cases h : j = i
        · rw [if_pos h, h]; exact hgi
        · rw [if_neg h] at hj ⊢; exact ht _ _ (hG j hj)
  · rintro L a' w' hall ⟨hB, us, rfl, hG⟩
    exact hend us w' hB (fun j hj => hG j (hall j hj)) _ rfl

theorem wp_region_all2 {P : Program} {ops : Array Oper} {Q : Exit → Act → World → Prop} {id : Nat} {a : Act} {w : World} (hm : P.follows .mixedOrders = true) (hd : edgesDown2 ops = true) (ha : dstsApart ops.toList = true)
    (Base : World → Prop) (G : Nat → Value → World → Prop) (h0 : Base w.drew) (hstep : KeepAll P ops Q a Base G ops.toList 0)
    (hend : ∀ us w', Base w' → (∀ j, j < ops.size → G j (us j) w') → ∀ a', a' = putAll a ops.toList us 0 → Q .normal a' w') : (Code.region id ops true).wp P Q a w := by
  refine wp_region_keep2 hm hd ha Base G h0 (fun i hi o ho us w hB hdeps K hK => ?_) hend
  have := keepAll_at ops.toList 0 i o hstep (by simpa using ho)
  rw [Nat.zero_add] at this
  refine this us w hB (depsOk_of _ fun e he hb => ?_) K hK
  obtain ⟨k, hk, rfl⟩ := List.getElem_of_mem he
  have hk' : k < o.after.size := by simpa using hk
  have := hdeps k hk' (by simpa using hb)
  simpa using this
end Go.Proofs.Ytokicnopfmokaaa
