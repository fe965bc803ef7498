/-
  What promise 3 says, of plain lists.
-/
import Derived.Test.YtpdhlnnepgkmkaaILate
namespace Go.Proofs.Ytpdhlnnepgkmkaa
open Go.RowKit
set_option linter.unusedVariables false

/-- Four levels, each right. -/
def Right (xs : List Int) : Prop := ∃ a b c d : Int, xs = [a, b, c, d] ∧ (0 ≤ a ∧ a ≤ 3) ∧ (0 ≤ b ∧ b ≤ 3) ∧ (0 ≤ c ∧ c ≤ 3) ∧ (0 ≤ d ∧ d ≤ 3)
theorem right_of {xs : List Int} (h : labelOk xs = true) : Right xs :=
  ⟨_, _, _, _, four_eq (labelOk_four h), labelOk_each h 0 (by omega), labelOk_each h 1 (by omega), labelOk_each h 2 (by omega), labelOk_each h 3 (by omega)⟩
theorem right_ok {xs : List Int} (h : Right xs) : labelOk xs = true := by
  obtain ⟨a, b, c, d, rfl, ha, hb, hc, hd⟩ := h
  exact labelOk_of ha hb hc hd
theorem flows_iff {a b c d e f g h : Int} (h1 : labelOk [a, b, c, d] = true) (h2 : labelOk [e, f, g, h] = true) : flowsTo [a, b, c, d] [e, f, g, h] = (decide (a ≤ e) && decide (b ≤ f) && decide (c ≤ g) && decide (d ≤ h)) := by
  unfold flowsTo leAll
  rw [h1, h2, show List.range 4 = [0, 1, 2, 3] from rfl]
  simp only [List.all_cons, List.all_nil, Bool.and_true, Bool.true_and, Bool.and_assoc, List.getD_cons_zero, List.getD_cons_succ]
theorem join_four {a b c d e f g h : Int} (h1 : labelOk [a, b, c, d] = true) (h2 : labelOk [e, f, g, h] = true) : joinOf [a, b, c, d] [e, f, g, h] = [max a e, max b f, max c g, max d h] := by
  unfold joinOf joinTo
  rw [h1, h2]
  rfl
theorem meet_four {a b c d e f g h : Int} (h1 : labelOk [a, b, c, d] = true) (h2 : labelOk [e, f, g, h] = true) : meetOf [a, b, c, d] [e, f, g, h] = [min a e, min b f, min c g, min d h] := by
  unfold meetOf meetTo
  rw [h1, h2]
  rfl
theorem join_right {xs ys : List Int} (hx : Right xs) (hy : Right ys) : Right (joinOf xs ys) := by
  have h1 := right_ok hx
  have h2 := right_ok hy
  obtain ⟨a, b, c, d, rfl, ha, hb, hc, hd⟩ := hx
  obtain ⟨e, f, g, h, rfl, he, hf, hg, hh⟩ := hy
  rw [join_four h1 h2]
  exact ⟨_, _, _, _, rfl, max_in ha he, max_in hb hf, max_in hc hg, max_in hd hh⟩
theorem meet_right {xs ys : List Int} (hx : Right xs) (hy : Right ys) : Right (meetOf xs ys) := by
  have h1 := right_ok hx
  have h2 := right_ok hy
  obtain ⟨a, b, c, d, rfl, ha, hb, hc, hd⟩ := hx
  obtain ⟨e, f, g, h, rfl, he, hf, hg, hh⟩ := hy
  rw [meet_four h1 h2]
  exact ⟨_, _, _, _, rfl, min_in ha he, min_in hb hf, min_in hc hg, min_in hd hh⟩
theorem flows_dec {xs ys : List Int} (hx : Right xs) (hy : Right ys) : (flowsTo xs ys = true) ↔ ∀ i, i < 4 → xs.getD i 0 ≤ ys.getD i 0 := by
  have h1 := right_ok hx
  have h2 := right_ok hy
  unfold flowsTo
  rw [h1, h2]
  simp only [Bool.true_and]
  constructor
  · intro h i hi
    have := List.all_eq_true.1 h i (List.mem_range.2 hi)
    simpa using this
  · exact leAll_yes
theorem join_get {xs ys : List Int} (hx : Right xs) (hy : Right ys) (i : Nat) (hi : i < 4) : (joinOf xs ys).getD i 0 = max (xs.getD i 0) (ys.getD i 0) := by
  unfold joinOf joinTo
  rw [right_ok hx, right_ok hy]
  simp [List.getD, hi]
theorem meet_get {xs ys : List Int} (hx : Right xs) (hy : Right ys) (i : Nat) (hi : i < 4) : (meetOf xs ys).getD i 0 = min (xs.getD i 0) (ys.getD i 0) := by
  unfold meetOf meetTo
  rw [right_ok hx, right_ok hy]
  simp [List.getD, hi]
theorem bool_same {p q : Bool} (h : p = true ↔ q = true) : p = q := by cases p <;> cases q <;> simp_all
theorem law_join {a b c : List Int} (ha : Right a) (hb : Right b) (hc : Right c) (h : flowsTo a c = true) : flowsTo b c = flowsTo (joinOf a b) c := by
  apply bool_same
  rw [flows_dec hb hc, flows_dec (join_right ha hb) hc]
  rw [flows_dec ha hc] at h
  constructor
  · intro h2 i hi
    rw [join_get ha hb i hi]
    have := h i hi; have := h2 i hi; omega
  · intro h2 i hi
    have := h2 i hi
    rw [join_get ha hb i hi] at this
    omega
theorem law_meet {a b c : List Int} (ha : Right a) (hb : Right b) (hc : Right c) (h : flowsTo c a = true) : flowsTo c b = flowsTo c (meetOf a b) := by
  apply bool_same
  rw [flows_dec hc hb, flows_dec hc (meet_right ha hb)]
  rw [flows_dec hc ha] at h
  constructor
  · intro h2 i hi
    rw [meet_get ha hb i hi]
    have := h i hi; have := h2 i hi; omega
  · intro h2 i hi
    have := h2 i hi
    rw [meet_get ha hb i hi] at this
    omega
theorem law_on {a b c : List Int} (ha : Right a) (hb : Right b) (hc : Right c) (h1 : flowsTo a b = true) (h2 : flowsTo b c = true) : flowsTo a c = true := by
  rw [flows_dec ha hb] at h1
  rw [flows_dec hb hc] at h2
  rw [flows_dec ha hc]
  intro i hi
  have := h1 i hi; have := h2 i hi; omega
theorem law_both {a b : List Int} (ha : Right a) (hb : Right b) (h1 : flowsTo a b = true) (h2 : flowsTo b a = true) : sameInts a b = true := by
  rw [flows_dec ha hb] at h1
  rw [flows_dec hb ha] at h2
  have e : a = b := by
    obtain ⟨a0, a1, a2, a3, rfl, _⟩ := ha
    obtain ⟨b0, b1, b2, b3, rfl, _⟩ := hb
    have e0 := h1 0 (by omega); have f0 := h2 0 (by omega)
    have e1 := h1 1 (by omega); have f1 := h2 1 (by omega)
    have e2 := h1 2 (by omega); have f2 := h2 2 (by omega)
    have e3 := h1 3 (by omega); have f3 := h2 3 (by omega)
    simp only [List.getD_cons_zero, List.getD_cons_succ] at e0 e1 e2 e3 f0 f1 f2 f3
    rw [show a0 = b0 by omega, show a1 = b1 by omega, show a2 = b2 by omega, show a3 = b3 by omega]
  rw [e]; exact sameInts_refl _
theorem law_up {a b : List Int} (ha : Right a) (hb : Right b) : flowsTo a (joinOf a b) = true ∧ flowsTo b (joinOf a b) = true ∧ flowsTo (meetOf a b) a = true ∧ flowsTo (meetOf a b) b = true := by
  refine ⟨(flows_dec ha (join_right ha hb)).2 ?_, (flows_dec hb (join_right ha hb)).2 ?_, (flows_dec (meet_right ha hb) ha).2 ?_, (flows_dec (meet_right ha hb) hb).2 ?_⟩
  all_goals intro i hi
  · rw [join_get ha hb i hi]; omega
  · rw [join_get ha hb i hi]; omega
  · rw [meet_get ha hb i hi]; omega
  · rw [meet_get ha hb i hi]; omega
theorem law_swap {a b : List Int} (ha : Right a) (hb : Right b) : joinOf b a = joinOf a b ∧ meetOf b a = meetOf a b ∧ joinOf a (meetOf a b) = a := by
  have h1 := right_ok ha
  have h2 := right_ok hb
  have h3 := right_ok (meet_right ha hb)
  obtain ⟨a0, a1, a2, a3, rfl, _⟩ := ha
  obtain ⟨b0, b1, b2, b3, rfl, _⟩ := hb
  rw [join_four h2 h1, join_four h1 h2, meet_four h2 h1]
  rw [meet_four h1 h2] at h3 ⊢
  rw [join_four h1 h3]
  refine ⟨?_, ?_, ?_⟩
  · rw [show max b0 a0 = max a0 b0 by omega, show max b1 a1 = max a1 b1 by omega, show max b2 a2 = max a2 b2 by omega, show max b3 a3 = max a3 b3 by omega]
  · rw [show min b0 a0 = min a0 b0 by omega, show min b1 a1 = min a1 b1 by omega, show min b2 a2 = min a2 b2 by omega, show min b3 a3 = min a3 b3 by omega]
  · rw [show max a0 (min a0 b0) = a0 by omega, show max a1 (min a1 b1) = a1 by omega, show max a2 (min a2 b2) = a2 by omega, show max a3 (min a3 b3) = a3 by omega]
theorem flat_right (l : Int) (h : 0 ≤ l ∧ l ≤ 3) : flatOf l = [l, l, l, l] ∧ Right [l, l, l, l] :=
  ⟨rightOf_yes (labelOk_of h h h h), ⟨l, l, l, l, rfl, h, h, h, h⟩⟩
theorem law_flat {a : List Int} (ha : Right a) : flowsTo (flatOf 0) a = true ∧ flowsTo a (flatOf 3) = true := by
  obtain ⟨e0, r0⟩ := flat_right 0 (by omega)
  obtain ⟨e3, r3⟩ := flat_right 3 (by omega)
  rw [e0, e3]
  have h1 := right_ok ha
  obtain ⟨a0, a1, a2, a3, rfl, _⟩ := ha
  rw [flows_iff (right_ok r0) h1, flows_iff h1 (right_ok r3)]
  simp
  omega
theorem law_read {a : List Int} (ha : Right a) : readVals (showOf a) = a := by
  have h1 := right_ok ha
  rw [showOf_yes h1]
  obtain ⟨a0, a1, a2, a3, rfl, h0, h1, h2, h3⟩ := ha
  have v : ∀ x : Int, 0 ≤ x ∧ x ≤ 3 → val (digit x) = x := fun x hx => by unfold val; rw [digit_toNat hx]; omega
  show [val (digit a0), val (digit a1), val (digit a2), val (digit a3)] = _
  rw [v a0 h0, v a1 h1, v a2 h2, v a3 h3]
end Go.Proofs.Ytpdhlnnepgkmkaa
