/-
  When a tree is right, as the program asks it; that it asks the same.
-/
import Derived.Test.YtfcenombphodbaaDoorSpecGive
import Derived.Test.YtfcenombphodbaaDoorISub
namespace Go.Proofs.YtfcenombphodbaaDoor
open Go.RowKit
set_option linter.unusedVariables false
set_option maxRecDepth 100000

/-- Is there a Live place i? -/
def livePl (ts : List Re) (i : Int) : Bool := decide (0 ≤ i) && decide (i < ts.length) && (reAt ts i.toNat).live
theorem livePl_yes {ts : List Re} {i : Int} (h : livePl ts i = true) : ∃ m : Nat, i = (m : Int) ∧ m < ts.length ∧ (reAt ts m).live = true := by
  simp [livePl] at h
  exact ⟨i.toNat, by omega, by omega, h.2⟩
theorem livePl_nat {ts : List Re} {m : Nat} (hm : m < ts.length) : livePl ts (m : Int) = (reAt ts m).live := by
  simp [livePl, hm]
/-- Is each sum on the way right? -/
def balOk (ts : List Re) : Nat → Bool
  | 0 => true
  | k + 1 => balOk ts k && (!(reAt ts k).live || addOk (sumN Re.a ts k) (sumN Re.b ts k) (sumN Re.c ts k) (reAt ts k).a (reAt ts k).b (reAt ts k).c)
def deadZ (ts : List Re) : Bool := (List.range 5).all fun i => (reAt ts i).live || isZero (reAt ts i)
/-- From parent to parent, in fewer than n steps. -/
def climb (ts : List Re) : Nat → Int → Bool
  | 0, _ => false
  | n + 1, at' => decide (at' = 0) || (livePl ts (reAt ts at'.toNat).par && climb ts n (reAt ts at'.toNat).par)
def climbs (ts : List Re) (i : Nat) : Bool := !(reAt ts i).live || climb ts 5 i
def allClimb (ts : List Re) : Bool := (List.range 5).all fun i => climbs ts i
def implOk (ts : List Re) : Bool := decide (ts.length = 5) && (reAt ts 0).live && decide ((reAt ts 0).par = -1) && (balOk ts 5 && deadZ ts && allClimb ts)

theorem climb_zero (ts : List Re) (n : Nat) : climb ts (n + 1) 0 = true := by simp [climb]
theorem climb_up (ts : List Re) (n A : Nat) (hA : 0 < A) : climb ts (n + 1) (A : Int) = (livePl ts (reAt ts A).par && climb ts n (reAt ts A).par) := by
  simp only [climb, Int.toNat_natCast]
  rw [show decide ((A : Int) = 0) = false by simp; omega]
  rfl
theorem climb_self (ts : List Re) (A : Nat) (hA : 0 < A) (hp : (reAt ts A).par = (A : Int)) : ∀ n, climb ts n (A : Int) = false := by
  intro n
  induction n with
  | zero => rfl
  | succ n ih => rw [climb_up ts n A hA, hp, ih]; simp
theorem climb_upN (ts : List Re) : ∀ (n A : Nat), climb ts n (A : Int) = true → upN ts n (A : Int) = 0 := by
  intro n
  induction n with
  | zero => intro A h; cases h
  | succ n ih =>
    intro A h
    by_cases hA : A = 0
    · subst hA; exact upN_stop ts _
    · rw [climb_up ts n A (by omega)] at h
      simp only [Bool.and_eq_true] at h
      obtain ⟨m, hm, _, _⟩ := livePl_yes h.1
      rw [upN_step ts n A (by omega), hm]
      rw [hm] at h
      exact ih m h.2
theorem upN_climb (ts : List Re) (hl : ts.length = 5) (hp : ∀ i, i < 5 → parOk ts i = true) : ∀ (n A : Nat), A < 5 → (reAt ts A).live = true → upN ts n (A : Int) = 0 → climb ts (n + 1) (A : Int) = true := by
  intro n
  induction n with
  | zero => intro A _ _ h; simp [upN] at h; subst h; exact climb_zero ts 0
  | succ n ih =>
    intro A hA hlv h
    by_cases h0 : A = 0
    · subst h0; exact climb_zero ts _
    · obtain ⟨m, hm, hm5, hml⟩ := parOk_up (hp A hA) (by omega) hlv
      rw [upN_step ts n A (by omega), hm] at h
      rw [climb_up ts (n + 1) A (by omega), hm, livePl_nat (by omega), hml, ih m hm5 hml h]
      rfl
/-- Five places: who comes to 0 in five steps comes there in four. -/
def tabF (a b c d : Fin 5) (i : Fin 5) : Fin 5 := if i = 1 then a else if i = 2 then b else if i = 3 then c else if i = 4 then d else 0
def stepsF (a b c d : Fin 5) : Nat → Fin 5 → Fin 5
  | 0, i => i
  | n + 1, i => if i = 0 then 0 else stepsF a b c d n (tabF a b c d i)
set_option maxRecDepth 100000 in
theorem steps_four : ∀ a b c d i : Fin 5, stepsF a b c d 5 i = 0 → stepsF a b c d 4 i = 0 := by decide +kernel
theorem upN_four (ts : List Re) (hpl : ∀ i, i < 5 → (reAt ts i).live = false → (reAt ts i).par = 0) (hp : ∀ i, i < 5 → parOk ts i = true) (A : Nat) (hA : A < 5) (h : upN ts 5 (A : Int) = 0) : upN ts 4 (A : Int) = 0 := by
  have hx : ∀ i, 0 < i → i < 5 → ∃ m : Fin 5, (reAt ts i).par = ((m : Nat) : Int) := fun i h0 h5 => by
    cases hl : (reAt ts i).live with
    | false => exact ⟨0, by rw [hpl i h5 hl]; rfl⟩
    | true =>
      obtain ⟨m, hm, hm5, _⟩ := parOk_up (hp i h5) h0 hl
      exact ⟨⟨m, hm5⟩, hm⟩
  obtain ⟨a, ha⟩ := hx 1 (by omega) (by omega)
  obtain ⟨b, hb⟩ := hx 2 (by omega) (by omega)
  obtain ⟨c, hc⟩ := hx 3 (by omega) (by omega)
  obtain ⟨d, hd⟩ := hx 4 (by omega) (by omega)
  have hs : ∀ (n : Nat) (i : Fin 5), upN ts n ((i : Nat) : Int) = ((stepsF a b c d n i : Nat) : Int) := by
    intro n
    induction n with
    | zero => intro i; rfl
    | succ n ih =>
      intro i
      by_cases h0 : i = 0
      · subst h0; simp [upN, stepsF]
      · have hi : 0 < (i : Nat) := by have : (i : Nat) ≠ 0 := fun e => h0 (Fin.ext e); omega
        rw [upN_step ts n i hi]
        have e : (reAt ts i).par = ((tabF a b c d i : Nat) : Int) := by
          have hi5 := i.2
          have hcase : i = 1 ∨ i = 2 ∨ i = 3 ∨ i = 4 := by
            have : (i : Nat) = 1 ∨ (i : Nat) = 2 ∨ (i : Nat) = 3 ∨ (i : Nat) = 4 := by omega
            rcases this with h | h | h | h
            · exact .inl (Fin.ext h)
            · exact .inr (.inl (Fin.ext h))
            · exact .inr (.inr (.inl (Fin.ext h)))
            · exact .inr (.inr (.inr (Fin.ext h)))
          rcases hcase with rfl | rfl | rfl | rfl
          · exact ha
          · exact hb
          · exact hc
          · exact hd
        rw [e, ih]
        simp [stepsF, h0]
  have h5 := hs 5 ⟨A, hA⟩
  have h4 := hs 4 ⟨A, hA⟩
  simp only at h5 h4
  rw [h] at h5
  rw [h4]
  have := steps_four a b c d ⟨A, hA⟩ (Fin.ext (by have : ((stepsF a b c d 5 ⟨A, hA⟩ : Nat) : Int) = 0 := h5.symm; simpa using this))
  rw [this]
  rfl
theorem balOk_sum (ts : List Re) : ∀ k, balOk ts k = true → amtOk (sumN Re.a ts k) (sumN Re.b ts k) (sumN Re.c ts k) = true := by
  intro k
  induction k with
  | zero => intro _; show amtOk 0 0 0 = true; decide
  | succ k ih =>
    intro h
    simp only [balOk, Bool.and_eq_true] at h
    have := ih h.1
    simp only [sumN]
    cases hl : (reAt ts k).live with
    | false => simpa using this
    | true =>
      have h2 := h.2
      rw [hl] at h2
      simp [addOk] at h2
      simpa using h2.2
theorem balOk_amt (ts : List Re) : ∀ k, balOk ts k = true → ∀ i, i < k → (reAt ts i).live = true → amtOk (reAt ts i).a (reAt ts i).b (reAt ts i).c = true := by
  intro k
  induction k with
  | zero => intro _ i hi; omega
  | succ k ih =>
    intro h i hi hl
    simp only [balOk, Bool.and_eq_true] at h
    by_cases he : i = k
    · subst he
      have h2 := h.2
      rw [hl] at h2
      simp [addOk] at h2
      exact h2.1.2
    · exact ih h.1 i (by omega) hl
theorem sumN_mono (f : Re → Int) (ts : List Re) (h : ∀ i, i < 5 → 0 ≤ f (reAt ts i) ∧ f (reAt ts i) ≤ 1000000) : ∀ j k, j ≤ k → k ≤ 5 → sumN f ts j ≤ sumN f ts k := by
  intro j k hjk
  induction k with
  | zero => intro _; have : j = 0 := by omega
            subst this; exact Int.le_refl _
  | succ k ih =>
    intro hk
    by_cases he : j = k + 1
    · subst he; exact Int.le_refl _
    · have h1 := ih (by omega) (by omega)
      have h2 := h k (by omega)
      simp only [sumN]
      split <;> omega
theorem balOk_of (ts : List Re) (ham : ∀ i, i < 5 → amtOk (reAt ts i).a (reAt ts i).b (reAt ts i).c = true) (hs : amtOk (sumN Re.a ts 5) (sumN Re.b ts 5) (sumN Re.c ts 5) = true) : ∀ k, k ≤ 5 → balOk ts k = true := by
  have z := amtOk_true hs
  have fa : ∀ i, i < 5 → 0 ≤ (reAt ts i).a ∧ (reAt ts i).a ≤ 1000000 := fun i hi => by have := amtOk_true (ham i hi); omega
  have fb : ∀ i, i < 5 → 0 ≤ (reAt ts i).b ∧ (reAt ts i).b ≤ 1000000 := fun i hi => by have := amtOk_true (ham i hi); omega
  have fc : ∀ i, i < 5 → 0 ≤ (reAt ts i).c ∧ (reAt ts i).c ≤ 1000000 := fun i hi => by have := amtOk_true (ham i hi); omega
  have hok : ∀ k, k ≤ 5 → amtOk (sumN Re.a ts k) (sumN Re.b ts k) (sumN Re.c ts k) = true := fun k hk => by
    have g1 := sumN_mono Re.a ts fa k 5 hk (Nat.le_refl _)
    have g2 := sumN_mono Re.b ts fb k 5 hk (Nat.le_refl _)
    have g3 := sumN_mono Re.c ts fc k 5 hk (Nat.le_refl _)
    have s1 := sumN_small Re.a ts fa k hk
    have s2 := sumN_small Re.b ts fb k hk
    have s3 := sumN_small Re.c ts fc k hk
    unfold amtOk; rw [numOk_yes (by omega) (by omega), numOk_yes (by omega) (by omega), numOk_yes (by omega) (by omega)]; rfl
  intro k
  induction k with
  | zero => intro _; rfl
  | succ k ih =>
    intro hk
    simp only [balOk, ih (by omega), Bool.true_and]
    cases hl : (reAt ts k).live with
    | false => rfl
    | true =>
      have h1 := hok (k + 1) hk
      simp only [sumN, hl, if_true] at h1
      simp only [Bool.not_true, Bool.false_or, addOk, hok k (by omega), ham k (by omega), h1, Bool.and_self]
theorem treeOk_parts {ts : List Re} (h : treeOk ts = true) : ts.length = 5 ∧ (reAt ts 0).live = true ∧ (reAt ts 0).par = -1 ∧ (∀ i, i < 5 → placeOk (reAt ts i) = true ∧ parOk ts i = true) ∧ (∀ i, i < 5 → leads ts i = true) ∧ amtOk (sumN Re.a ts 5) (sumN Re.b ts 5) (sumN Re.c ts 5) = true := by
  unfold treeOk at h
  simp only [Bool.and_eq_true, decide_eq_true_eq, List.all_eq_true, List.mem_range] at h
  exact ⟨h.1.1.1.1.1, h.1.1.1.1.2, h.1.1.1.2, h.1.1.2, h.1.2, h.2⟩
theorem implOk_parts {ts : List Re} (h : implOk ts = true) : ts.length = 5 ∧ (reAt ts 0).live = true ∧ (reAt ts 0).par = -1 ∧ balOk ts 5 = true ∧ (∀ i, i < 5 → ((reAt ts i).live || isZero (reAt ts i)) = true) ∧ (∀ i, i < 5 → climbs ts i = true) := by
  unfold implOk deadZ allClimb at h
  simp only [Bool.and_eq_true, decide_eq_true_eq, List.all_eq_true, List.mem_range] at h
  exact ⟨h.1.1.1, h.1.1.2, h.1.2, h.2.1.1, h.2.1.2, h.2.2⟩
theorem isZero_parts {r : Re} (h : isZero r = true) : r.par = 0 ∧ r.a = 0 ∧ r.b = 0 ∧ r.c = 0 := by
  simp [isZero] at h
  exact ⟨h.1.1.1, h.1.1.2, h.1.2, h.2⟩
theorem implOk_of {ts : List Re} (h : treeOk ts = true) : implOk ts = true := by
  obtain ⟨hl, hr, hp, hpl, hle, hs⟩ := treeOk_parts h
  have hb := balOk_of ts (treeOk_amts h) hs 5 (Nat.le_refl _)
  have hd : deadZ ts = true := by
    unfold deadZ
    simp only [List.all_eq_true, List.mem_range]
    intro i hi
    have := (hpl i hi).1
    simp only [placeOk, Bool.and_eq_true] at this
    exact this.1
  have hz : ∀ i, i < 5 → (reAt ts i).live = false → (reAt ts i).par = 0 := fun i hi hlv => by
    have := (hpl i hi).1
    simp only [placeOk, Bool.and_eq_true, hlv, Bool.false_or] at this
    exact (isZero_parts this.1).1
  have hc : allClimb ts = true := by
    unfold allClimb
    simp only [List.all_eq_true, List.mem_range]
    intro i hi
    unfold climbs
    cases hlv : (reAt ts i).live with
    | false => rfl
    | true =>
      have h1 := hle i hi
      simp [leads, hlv] at h1
      have h4 := upN_four ts hz (fun i hi => (hpl i hi).2) i hi h1
      rw [upN_climb ts hl (fun i hi => (hpl i hi).2) 4 i hi hlv h4]
      rfl
  unfold implOk
  rw [hb, hd, hc, hr]
  simp [hl, hp]
theorem treeOk_of {ts : List Re} (h : implOk ts = true) : treeOk ts = true := by
  obtain ⟨hl, hr, hp, hb, hd, hc⟩ := implOk_parts h
  have h1 : ∀ i, i < 5 → (placeOk (reAt ts i) && parOk ts i) = true := fun i hi => by
    have hdi := hd i hi
    have hci := hc i hi
    cases hlv : (reAt ts i).live with
    | false =>
      rw [hlv, Bool.false_or] at hdi
      obtain ⟨z0, z1, z2, z3⟩ := isZero_parts hdi
      have e1 : placeOk (reAt ts i) = true := by unfold placeOk; rw [hdi, z1, z2, z3]; simp; decide
      have e2 : parOk ts i = true := by unfold parOk; rw [hlv]; simp
      rw [e1, e2]; rfl
    | true =>
      have e1 : placeOk (reAt ts i) = true := by unfold placeOk; rw [hlv, balOk_amt ts 5 hb i hi hlv]; rfl
      have e2 : parOk ts i = true := by
        by_cases h0 : i = 0
        · unfold parOk; simp [h0]
        · simp only [climbs, hlv, Bool.not_true, Bool.false_or] at hci
          have hci' := hci
          rw [climb_up ts 4 i (by omega)] at hci
          simp only [Bool.and_eq_true] at hci
          obtain ⟨m, hm, hm5, hml⟩ := livePl_yes hci.1
          have hne : m ≠ i := fun e => by
            rw [climb_self ts i (by omega) (by rw [hm, e])] at hci'
            cases hci'
          unfold parOk
          rw [hlv, hm]
          simp only [Int.toNat_natCast, hml]
          simp
          right
          exact ⟨by omega, by omega⟩
      rw [e1, e2]; rfl
  have h2 : ∀ i, i < 5 → leads ts i = true := fun i hi => by
    have hci := hc i hi
    unfold leads
    cases hlv : (reAt ts i).live with
    | false => rfl
    | true =>
      simp only [climbs, hlv, Bool.not_true, Bool.false_or] at hci
      simp [climb_upN ts 5 i hci]
  rw [treeOk_all hl hr hp h1 h2]
  exact balOk_sum ts 5 hb
theorem implOk_eq (ts : List Re) : implOk ts = treeOk ts := by
  cases h : treeOk ts with
  | true => exact implOk_of h
  | false =>
    cases h2 : implOk ts with
    | false => rfl
    | true => rw [treeOk_of h2] at h; cases h
end Go.Proofs.YtfcenombphodbaaDoor
