/-
  What is made and dropped, of plain lists.
-/
import Derived.Test.YtjceffhogoedaaaCatDrop
namespace Go.Proofs.Ytjceffhogoedaaa
open Go.RowKit
set_option linter.unusedVariables false

theorem firstOf_hit (P : Int × Bool → Bool) : ∀ (cs : List (Int × Bool)) (k j : Nat), firstOf P cs k = ((k + j : Nat) : Int) → P (catAt cs j) = true ∧ j < cs.length
  | [], k, j, h => by unfold firstOf at h; omega
  | c :: cs, k, j, h => by
    unfold firstOf at h
    by_cases hp : P c = true
    · rw [if_pos hp] at h
      obtain rfl : j = 0 := by omega
      exact ⟨by simpa [catAt] using hp, by simp⟩
    · rw [if_neg hp] at h
      match j, h with
      | 0, h =>
        rcases firstOf_range P cs (k + 1) with h1 | h1
        · omega
        · omega
      | j + 1, h =>
        have := firstOf_hit P cs (k + 1) j (by rw [h]; congr 1; omega)
        exact ⟨by simpa [catAt] using this.1, by simp; omega⟩
theorem newAt_facts {cs : List (Int × Bool)} {k : Nat} (h : newAt cs = some k) : catsOk cs = true ∧ k < 4 ∧ (catAt cs k).2 = false ∧ (catAt cs k).1 < 999 := by
  unfold newAt at h
  by_cases hh : catsOk cs = true ∧ 0 ≤ firstOf mayMake cs 0
  · rw [if_pos hh] at h
    have hk : firstOf mayMake cs 0 = ((0 + k : Nat) : Int) := by
      have : (firstOf mayMake cs 0).toNat = k := by simpa using h
      omega
    have := firstOf_hit mayMake cs 0 k hk
    have hl := catsOk_four hh.1
    unfold mayMake at this
    simp at this
    exact ⟨hh.1, by omega, this.1.1, this.1.2⟩
  · rw [if_neg hh] at h; cases h
theorem newId_some {cs : List (Int × Bool)} {k : Nat} (h : newAt cs = some k) : newId cs = (k : Int) + 4 * ((catAt cs k).1 + 1) := by unfold newId; rw [h]
theorem newId_none {cs : List (Int × Bool)} (h : newAt cs = none) : newId cs = 0 := by unfold newId; rw [h]
theorem catAt_set_same {cs : List (Int × Bool)} {k : Nat} (hk : k < cs.length) (c : Int × Bool) : catAt (cs.set k c) k = c := by
  simp [catAt, List.getD, hk]
theorem catAt_set_other {cs : List (Int × Bool)} {k i : Nat} (hne : i ≠ k) (c : Int × Bool) : catAt (cs.set k c) i = catAt cs i := by
  simp [catAt, List.getD, List.getElem?_set_ne (Ne.symm hne)]
theorem catsOk_set {cs : List (Int × Bool)} {k : Nat} {x : Int} {b : Bool} (h : catsOk cs = true) (hx : 0 ≤ x ∧ x ≤ 999) (hk : k < 4) : catsOk (cs.set k (x, b)) = true := by
  have hl := catsOk_four h
  unfold catsOk at h ⊢
  rw [Bool.and_eq_true] at h ⊢
  refine ⟨by simpa using hl, ?_⟩
  rw [List.all_eq_true] at h ⊢
  intro i hi
  by_cases hik : i = k
  · subst hik
    rw [catAt_set_same (by omega)]
    simp [genOk, hx]
  · rw [catAt_set_other hik]; exact h.2 i hi
/-- A category that was made: all that the law asks. -/
theorem cats_law {cs : List (Int × Bool)} {k : Nat} (h : newAt cs = some k) :
    catOf cs (newId cs) = -1 ∧ catOf (newCats cs) (newId cs) = (k : Int) ∧ k < 4 ∧ (newId cs) % 4 = k ∧ 4 ≤ newId cs ∧ newId cs ≤ 4000 ∧ catsOk (newCats cs) = true ∧
    dropCats (newCats cs) (newId cs) = (newCats cs).set k ((catAt (newCats cs) k).1, false) ∧ catsOk (dropCats (newCats cs) (newId cs)) = true ∧ catOf (dropCats (newCats cs) (newId cs)) (newId cs) = -1 ∧ newId (dropCats (newCats cs) (newId cs)) ≠ newId cs := by
  obtain ⟨hok, hk, hlive, hgen⟩ := newAt_facts h
  have hl := catsOk_four hok
  have hg := catsOk_gen hok hk
  have hid : newId cs = (k : Int) + 4 * ((catAt cs k).1 + 1) := by unfold newId; rw [h]
  have hnew : newCats cs = cs.set k ((catAt cs k).1 + 1, true) := by unfold newCats; rw [h]
  obtain ⟨n, hn⟩ : ∃ n : Nat, (catAt cs k).1 = n := ⟨(catAt cs k).1.toNat, by omega⟩
  have hidn : (newId cs).toNat = k + 4 * (n + 1) := by rw [hid, hn]; omega
  have hmod : (newId cs).toNat % 4 = k := by rw [hidn]; omega
  have hdiv : (newId cs).toNat / 4 = n + 1 := by rw [hidn]; omega
  have h0 : 0 ≤ newId cs := by rw [hid]; omega
  have hok1 : catsOk (newCats cs) = true := by rw [hnew]; exact catsOk_set hok ⟨by omega, by omega⟩ hk
  have hat1 : catAt (newCats cs) k = ((catAt cs k).1 + 1, true) := by rw [hnew]; exact catAt_set_same (by omega) _
  have hof1 : catOf (newCats cs) (newId cs) = (k : Int) := by
    unfold catOf
    rw [hmod, hdiv, hat1, if_pos ⟨hok1, h0, rfl, by rw [hn]; rfl⟩]
  have hl1 : (newCats cs).length = 4 := catsOk_four hok1
  have hdrop : dropCats (newCats cs) (newId cs) = (newCats cs).set k ((catAt (newCats cs) k).1, false) := by
    unfold dropCats
    rw [hof1, if_neg (by omega)]
    rfl
  have hat2 : catAt (dropCats (newCats cs) (newId cs)) k = ((catAt cs k).1 + 1, false) := by rw [hdrop, catAt_set_same (by omega), hat1]
  have hok2 : catsOk (dropCats (newCats cs) (newId cs)) = true := by rw [hdrop, hat1]; exact catsOk_set hok1 ⟨by omega, by omega⟩ hk
  refine ⟨?_, hof1, hk, by rw [hid]; omega, by rw [hid]; omega, by rw [hid]; omega, hok1, hdrop, hok2, ?_, ?_⟩
  · unfold catOf
    rw [hmod, if_neg (fun hh => by rw [hlive] at hh; exact absurd hh.2.2.1 (by simp))]
  · unfold catOf
    rw [hmod, if_neg (fun hh => by rw [hat2] at hh; exact absurd hh.2.2.1 (by simp))]
  · cases h2 : newAt (dropCats (newCats cs) (newId cs)) with
    | none =>
      have : newId (dropCats (newCats cs) (newId cs)) = 0 := newId_none h2
      rw [this, hid]; omega
    | some j =>
      obtain ⟨hokj, hj, hlj, hgj⟩ := newAt_facts h2
      have : newId (dropCats (newCats cs) (newId cs)) = (j : Int) + 4 * ((catAt (dropCats (newCats cs) (newId cs)) j).1 + 1) := newId_some h2
      rw [this]
      intro he
      have h1 := hid
      by_cases hjk : j = k
      · subst hjk
        rw [hat2] at he
        simp only at he
        omega
      · have hgj2 := catsOk_gen hokj hj
        omega
theorem fits_id {cs : List (Int × Bool)} : Fits64 (newId cs) := by
  cases h : newAt cs with
  | none => rw [newId_none h]; unfold Fits64; omega
  | some k =>
    have := cats_law h
    unfold Fits64
    omega
theorem new_none {cs : List (Int × Bool)} (h : newAt cs = none) : newId cs = 0 ∧ newCats cs = cs := by
  unfold newId newCats
  rw [h]
  exact ⟨rfl, rfl⟩
theorem newCats_len (cs : List (Int × Bool)) : (newCats cs).length = cs.length := by
  unfold newCats
  split <;> simp
theorem dropCats_len (cs : List (Int × Bool)) (id : Int) : (dropCats cs id).length = cs.length := by
  unfold dropCats
  split <;> simp
end Go.Proofs.Ytjceffhogoedaaa
