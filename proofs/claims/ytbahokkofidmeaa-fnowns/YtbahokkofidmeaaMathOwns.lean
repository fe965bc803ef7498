/-
  What is needed, of plain lists.
-/
import Derived.Test.YtbahokkofidmeaaIFlows
import Derived.Test.YtbahokkofidmeaaIFor
namespace Go.Proofs.Ytbahokkofidmeaa
open Go.RowKit
set_option linter.unusedVariables false

/-- Those of the four that are marked. -/
def marked (a b c d : Bool) : List Int := (cond a [0] []) ++ (cond b [1] []) ++ (cond c [2] []) ++ (cond d [3] [])
def bitOf (a b c d : Bool) : Nat → Bool
  | 0 => a
  | 1 => b
  | 2 => c
  | _ => d
theorem need_marked (xs ys : List Int) : needTo xs ys 4 = marked (mustOwn xs ys 0) (mustOwn xs ys 1) (mustOwn xs ys 2) (mustOwn xs ys 3) := by
  unfold needTo
  rw [show List.range 4 = [0, 1, 2, 3] from rfl]
  cases h0 : mustOwn xs ys 0 <;> cases h1 : mustOwn xs ys 1 <;> cases h2 : mustOwn xs ys 2 <;> cases h3 : mustOwn xs ys 3 <;> simp [List.filter, h0, h1, h2, h3, marked]
theorem must_bit (xs ys : List Int) : ∀ i, i < 4 → mustOwn xs ys i = bitOf (mustOwn xs ys 0) (mustOwn xs ys 1) (mustOwn xs ys 2) (mustOwn xs ys 3) i
  | 0, _ => rfl
  | 1, _ => rfl
  | 2, _ => rfl
  | 3, _ => rfl
  | n + 4, h => by omega
theorem marked_ok : ∀ a b c d : Bool, ownOk (marked a b c d) = true := by decide
theorem marked_has : ∀ a b c d : Bool, (bitOf a b c d 0 = (marked a b c d).contains 0) ∧ (bitOf a b c d 1 = (marked a b c d).contains 1) ∧ (bitOf a b c d 2 = (marked a b c d).contains 2) ∧ (bitOf a b c d 3 = (marked a b c d).contains 3) := by decide
theorem marked_has' (a b c d : Bool) : ∀ i, i < 4 → bitOf a b c d i = (marked a b c d).contains (i : Int)
  | 0, _ => (marked_has a b c d).1
  | 1, _ => (marked_has a b c d).2.1
  | 2, _ => (marked_has a b c d).2.2.1
  | 3, _ => (marked_has a b c d).2.2.2
  | n + 4, h => by omega
/-- Each of them is one of the four, is marked, and isn't there when it is taken out. -/
theorem marked_out (a b c d : Bool) (k : Nat) (hk : k < (marked a b c d).length) : ∃ i : Nat, i < 4 ∧ (marked a b c d).getD k 0 = (i : Int) ∧ bitOf a b c d i = true ∧ ((marked a b c d).take k ++ (marked a b c d).drop (k + 1)).contains (i : Int) = false := by
  have hk4 : k < 4 := by
    have : (marked a b c d).length ≤ 4 := by cases a <;> cases b <;> cases c <;> cases d <;> decide
    omega
  revert hk
  match k, hk4 with
  | 0, _ => cases a <;> cases b <;> cases c <;> cases d <;> first | (intro h; exact absurd h (by decide)) | exact fun _ => ⟨0, by decide, by decide, by decide, by decide⟩ | exact fun _ => ⟨1, by decide, by decide, by decide, by decide⟩ | exact fun _ => ⟨2, by decide, by decide, by decide, by decide⟩ | exact fun _ => ⟨3, by decide, by decide, by decide, by decide⟩
  | 1, _ => cases a <;> cases b <;> cases c <;> cases d <;> first | (intro h; exact absurd h (by decide)) | exact fun _ => ⟨1, by decide, by decide, by decide, by decide⟩ | exact fun _ => ⟨2, by decide, by decide, by decide, by decide⟩ | exact fun _ => ⟨3, by decide, by decide, by decide, by decide⟩
  | 2, _ => cases a <;> cases b <;> cases c <;> cases d <;> first | (intro h; exact absurd h (by decide)) | exact fun _ => ⟨2, by decide, by decide, by decide, by decide⟩ | exact fun _ => ⟨3, by decide, by decide, by decide, by decide⟩
  | 3, _ => cases a <;> cases b <;> cases c <;> cases d <;> first | (intro h; exact absurd h (by decide)) | exact fun _ => ⟨3, by decide, by decide, by decide, by decide⟩
theorem flowsFor_parts {own xs ys : List Int} (h : flowsFor own xs ys = true) : ownOk own = true ∧ labelOk xs = true ∧ labelOk ys = true ∧ ∀ i, i < 4 → lets own xs ys i = true := by
  unfold flowsFor at h
  simp only [Bool.and_eq_true] at h
  exact ⟨h.1.1.1, h.1.1.2, h.1.2, fun i hi => List.all_eq_true.1 h.2 i (List.mem_range.2 hi)⟩
/-- Where it flows for the owner: what is needed is owned, is enough, and all of it. -/
theorem owns_law {own xs ys : List Int} (h : flowsFor own xs ys = true) :
    (∀ k, k < (needsOf own xs ys).length → own.contains ((needsOf own xs ys).getD k 0) = true ∧ flowsFor ((needsOf own xs ys).take k ++ (needsOf own xs ys).drop (k + 1)) xs ys = false) ∧
    flowsFor (needsOf own xs ys) xs ys = true ∧ ((needsOf own xs ys).length == 0) = flowsTo xs ys ∧ (needsOf own xs ys).length ≤ 4 := by
  obtain ⟨h1, h2, h3, h4⟩ := flowsFor_parts h
  have hm := must_bit xs ys
  rw [needsOf_yes h, need_marked]
  have hle : ((marked (mustOwn xs ys 0) (mustOwn xs ys 1) (mustOwn xs ys 2) (mustOwn xs ys 3)).length == 0) = flowsTo xs ys := by
    unfold flowsTo leAll
    rw [h2, h3]
    have e : ∀ i, decide (xs.getD i 0 ≤ ys.getD i 0) = !mustOwn xs ys i := fun i => by
      unfold mustOwn
      by_cases hh : xs.getD i 0 ≤ ys.getD i 0
      · rw [decide_eq_true hh, decide_eq_false (by omega)]; rfl
      · rw [decide_eq_false hh, decide_eq_true (by omega)]; rfl
    simp only [e, show List.range 4 = [0, 1, 2, 3] from rfl, List.all_cons, List.all_nil, Bool.and_true, Bool.true_and]
    generalize mustOwn xs ys 0 = a
    generalize mustOwn xs ys 1 = b
    generalize mustOwn xs ys 2 = c
    generalize mustOwn xs ys 3 = d
    cases a <;> cases b <;> cases c <;> cases d <;> rfl
  generalize ha : mustOwn xs ys 0 = a at hm hle ⊢
  generalize hb : mustOwn xs ys 1 = b at hm hle ⊢
  generalize hc : mustOwn xs ys 2 = c at hm hle ⊢
  generalize hd : mustOwn xs ys 3 = d at hm hle ⊢
  refine ⟨fun k hk => ?_, ?_, hle, ?_⟩
  · obtain ⟨i, hi, he, hbit, hout⟩ := marked_out a b c d k hk
    have hmi : mustOwn xs ys i = true := by rw [hm i hi]; exact hbit
    refine ⟨?_, flowsFor_at hi ?_⟩
    · rw [he]
      have := h4 i hi
      unfold lets at this
      rw [hmi] at this
      simpa using this
    · unfold lets
      rw [hmi, hout]
      rfl
  · refine flowsFor_yes (by rw [marked_ok, h2, h3]; rfl) fun i hi => ?_
    unfold lets
    rw [hm i hi, marked_has' a b c d i hi]
    cases (marked a b c d).contains (i : Int) <;> rfl
  · cases a <;> cases b <;> cases c <;> cases d <;> decide
/-- What flows flows for every owner that is right. -/
theorem owns_more {own xs ys : List Int} (h1 : ownOk own = true) (h2 : flowsTo xs ys = true) : flowsFor own xs ys = true := by
  unfold flowsTo leAll at h2
  simp only [Bool.and_eq_true] at h2
  refine flowsFor_yes (by rw [h1, h2.1.1, h2.1.2]; rfl) fun i hi => ?_
  have := List.all_eq_true.1 h2.2 i (List.mem_range.2 hi)
  have hle : xs.getD i 0 ≤ ys.getD i 0 := by simpa using this
  unfold lets mustOwn
  rw [decide_eq_false (by omega)]
  rfl
end Go.Proofs.Ytbahokkofidmeaa
