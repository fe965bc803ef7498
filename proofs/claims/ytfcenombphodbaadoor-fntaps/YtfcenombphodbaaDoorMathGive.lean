/-
  What is paid and brought back: a tree stays right.
-/
import Derived.Test.YtfcenombphodbaaDoorMathDrop
import Derived.Test.YtfcenombphodbaaDoorIBack
namespace Go.Proofs.YtfcenombphodbaaDoor
open Go.RowKit
set_option linter.unusedVariables false
set_option maxRecDepth 100000

/-- The same places live, with the same parents. -/
def Shape (ts us : List Re) : Prop := us.length = ts.length ∧ ∀ i, (reAt us i).live = (reAt ts i).live ∧ (reAt us i).par = (reAt ts i).par
theorem parOk_shape {ts us : List Re} (h : Shape ts us) (i : Nat) : parOk us i = parOk ts i := by
  unfold parOk
  rw [(h.2 i).1, (h.2 i).2, (h.2 (reAt ts i).par.toNat).1]
theorem upN_shape {ts us : List Re} (h : Shape ts us) : ∀ (n : Nat) (x : Int), upN us n x = upN ts n x := by
  intro n
  induction n with
  | zero => intro x; rfl
  | succ n ih => intro x; simp only [upN]; rw [(h.2 x.toNat).2, ih]
theorem leads_shape {ts us : List Re} (h : Shape ts us) (i : Nat) : leads us i = leads ts i := by
  unfold leads
  rw [(h.2 i).1, upN_shape h]
theorem treeOk_shape {ts us : List Re} (hok : treeOk ts = true) (h : Shape ts us) (hp : ∀ i, i < 5 → placeOk (reAt us i) = true) (hs : amtOk (sumN Re.a us 5) (sumN Re.b us 5) (sumN Re.c us 5) = true) : treeOk us = true := by
  obtain ⟨hl, hr, hrp, hpl, hle, _⟩ := treeOk_parts hok
  rw [treeOk_all (by rw [h.1]; exact hl) (by rw [(h.2 0).1]; exact hr) (by rw [(h.2 0).2]; exact hrp) (fun i hi => by rw [hp i hi, parOk_shape h, (hpl i hi).2]; rfl) (fun i hi => by rw [leads_shape h]; exact hle i hi)]
  exact hs
theorem reAt_over (ts : List Re) (i : Nat) (h : ts.length ≤ i) : reAt ts i = noRe := by
  unfold reAt
  rw [List.getD_eq_getElem?_getD, List.getElem?_eq_none h]
  rfl
theorem shape_set {ts : List Re} {m : Nat} {r : Re} (hm : m < ts.length) (h1 : r.live = (reAt ts m).live) (h2 : r.par = (reAt ts m).par) : Shape ts (ts.set m r) := by
  refine ⟨by simp, fun i => ?_⟩
  by_cases he : m = i
  · subst he; rw [reAt_set _ _ _ hm]; exact ⟨h1, h2⟩
  · rw [reAt_other _ _ _ _ he]; exact ⟨rfl, rfl⟩
theorem sumN_set (f : Re → Int) (ts : List Re) (m : Nat) (r : Re) (hm : m < ts.length) (hl : (reAt ts m).live = true) (hr : r.live = true) : ∀ k, sumN f (ts.set m r) k = sumN f ts k + (if m < k then f r - f (reAt ts m) else 0) := by
  intro k
  induction k with
  | zero => simp [sumN]
  | succ k ih =>
    simp only [sumN]
    rw [ih]
    by_cases he : m = k
    · subst he
      rw [reAt_set _ _ _ hm, hr, hl]
      simp
      omega
    · rw [reAt_other _ _ _ _ he]
      generalize (if (reAt ts k).live = true then f (reAt ts k) else 0) = q
      by_cases h2 : m < k
      · rw [if_pos h2, if_pos (by omega)]; omega
      · rw [if_neg h2, if_neg (by omega)]; omega
theorem treeOk_set {ts : List Re} {m : Nat} {a b c : Int} (hok : treeOk ts = true) (hm : m < 5) (hl : (reAt ts m).live = true) (ha : amtOk a b c = true)
    (hs : amtOk (sumN Re.a ts 5 + (a - (reAt ts m).a)) (sumN Re.b ts 5 + (b - (reAt ts m).b)) (sumN Re.c ts 5 + (c - (reAt ts m).c)) = true) : treeOk (ts.set m ⟨(reAt ts m).live, (reAt ts m).par, a, b, c⟩) = true := by
  have h5 := treeOk_five hok
  refine treeOk_shape hok (shape_set (by omega) rfl rfl) (fun i hi => ?_) ?_
  · by_cases he : m = i
    · subst he; rw [reAt_set _ _ _ (by omega)]; unfold placeOk; rw [hl]; simpa using ha
    · rw [reAt_other _ _ _ _ he]; exact ((treeOk_parts hok).2.2.2.1 i hi).1
  · rw [sumN_set Re.a ts m ⟨(reAt ts m).live, (reAt ts m).par, a, b, c⟩ (by omega) hl hl, sumN_set Re.b ts m ⟨(reAt ts m).live, (reAt ts m).par, a, b, c⟩ (by omega) hl hl, sumN_set Re.c ts m ⟨(reAt ts m).live, (reAt ts m).par, a, b, c⟩ (by omega) hl hl, if_pos hm, if_pos hm, if_pos hm]
    exact hs
theorem amtOk_mk {a b c : Int} (h1 : 0 ≤ a ∧ a ≤ 1000000) (h2 : 0 ≤ b ∧ b ≤ 1000000) (h3 : 0 ≤ c ∧ c ≤ 1000000) : amtOk a b c = true := by
  unfold amtOk; rw [numOk_yes h1.1 h1.2, numOk_yes h2.1 h2.2, numOk_yes h3.1 h3.2]; rfl
/-- What is known where a place may pay. -/
structure PayAt (ts : List Re) (m : Nat) (a b c : Int) : Prop where
  ok : treeOk ts = true
  hm : m < 5
  lm : (reAt ts m).live = true
  am : amtOk a b c = true
  la : a ≤ (reAt ts m).a
  lb : b ≤ (reAt ts m).b
  lc : c ≤ (reAt ts m).c
theorem payAt_of {ts : List Re} {i a b c : Int} (h : payOk ts i a b c = true) : ∃ m : Nat, i = (m : Int) ∧ PayAt ts m a b c := by
  simp only [payOk, liveIn, Bool.and_eq_true, decide_eq_true_eq] at h
  obtain ⟨⟨⟨hok, h0, h4⟩, hl⟩, hf⟩ := h
  obtain ⟨m, rfl⟩ : ∃ m : Nat, i = (m : Int) := ⟨i.toNat, by omega⟩
  simp only [Int.toNat_natCast] at hl hf
  simp only [fitsIn, Bool.and_eq_true, decide_eq_true_eq] at hf
  exact ⟨m, rfl, hok, by omega, hl, hf.1.1, hf.2.1.1, hf.2.1.2, hf.2.2⟩
theorem payT_nat (ts : List Re) (m : Nat) (a b c : Int) : payT ts (m : Int) a b c = ts.set m ⟨(reAt ts m).live, (reAt ts m).par, (reAt ts m).a - a, (reAt ts m).b - b, (reAt ts m).c - c⟩ := by simp [payT]
theorem PayAt.bounds {ts : List Re} {m : Nat} {a b c : Int} (h : PayAt ts m a b c) : ((0 ≤ a ∧ a ≤ 1000000) ∧ (0 ≤ b ∧ b ≤ 1000000) ∧ (0 ≤ c ∧ c ≤ 1000000)) ∧ ((reAt ts m).a ≤ sumN Re.a ts 5 ∧ (reAt ts m).b ≤ sumN Re.b ts 5 ∧ (reAt ts m).c ≤ sumN Re.c ts 5) ∧ ((0 ≤ sumN Re.a ts 5 ∧ sumN Re.a ts 5 ≤ 1000000) ∧ (0 ≤ sumN Re.b ts 5 ∧ sumN Re.b ts 5 ≤ 1000000) ∧ (0 ≤ sumN Re.c ts 5 ∧ sumN Re.c ts 5 ≤ 1000000)) ∧ ((reAt ts m).a ≤ 1000000 ∧ (reAt ts m).b ≤ 1000000 ∧ (reAt ts m).c ≤ 1000000) := by
  have am := treeOk_amts h.ok
  have u := amtOk_true h.am
  have z := amtOk_true (treeOk_parts h.ok).2.2.2.2.2
  have v := amtOk_true (am m h.hm)
  refine ⟨by omega, ⟨?_, ?_, ?_⟩, by omega, by omega⟩
  · exact sumN_ge Re.a ts (fun i hi => by have := amtOk_true (am i hi); omega) m h.lm 5 h.hm (Nat.le_refl _)
  · exact sumN_ge Re.b ts (fun i hi => by have := amtOk_true (am i hi); omega) m h.lm 5 h.hm (Nat.le_refl _)
  · exact sumN_ge Re.c ts (fun i hi => by have := amtOk_true (am i hi); omega) m h.lm 5 h.hm (Nat.le_refl _)
theorem treeOk_pay {ts : List Re} {m : Nat} {a b c : Int} (h : PayAt ts m a b c) : treeOk (payT ts (m : Int) a b c) = true := by
  obtain ⟨h1, h2, h3, h4⟩ := h.bounds
  have la := h.la
  have lb := h.lb
  have lc := h.lc
  rw [payT_nat]
  exact treeOk_set h.ok h.hm h.lm (amtOk_mk (by omega) (by omega) (by omega)) (amtOk_mk (by omega) (by omega) (by omega))
theorem sum_pay {ts : List Re} {m : Nat} {a b c : Int} (h : PayAt ts m a b c) : sumN Re.a (payT ts (m : Int) a b c) 5 = sumN Re.a ts 5 - a ∧ sumN Re.b (payT ts (m : Int) a b c) 5 = sumN Re.b ts 5 - b ∧ sumN Re.c (payT ts (m : Int) a b c) 5 = sumN Re.c ts 5 - c := by
  have h5 := treeOk_five h.ok
  have hm := h.hm
  rw [payT_nat]
  refine ⟨?_, ?_, ?_⟩
  · rw [sumN_set Re.a ts m ⟨(reAt ts m).live, (reAt ts m).par, (reAt ts m).a - a, (reAt ts m).b - b, (reAt ts m).c - c⟩ (by omega) h.lm h.lm, if_pos hm]; simp only; omega
  · rw [sumN_set Re.b ts m ⟨(reAt ts m).live, (reAt ts m).par, (reAt ts m).a - a, (reAt ts m).b - b, (reAt ts m).c - c⟩ (by omega) h.lm h.lm, if_pos hm]; simp only; omega
  · rw [sumN_set Re.c ts m ⟨(reAt ts m).live, (reAt ts m).par, (reAt ts m).a - a, (reAt ts m).b - b, (reAt ts m).c - c⟩ (by omega) h.lm h.lm, if_pos hm]; simp only; omega
theorem shape_pay {ts : List Re} {m : Nat} {a b c : Int} (h : PayAt ts m a b c) : Shape ts (payT ts (m : Int) a b c) := by
  have h5 := treeOk_five h.ok
  have hm := h.hm
  rw [payT_nat]
  exact shape_set (by omega) rfl rfl
theorem back_pay {ts : List Re} {m : Nat} {a b c : Int} (h : PayAt ts m a b c) : backOk (payT ts (m : Int) a b c) a b c = true := by
  obtain ⟨h1, h2, h3, h4⟩ := h.bounds
  obtain ⟨s1, s2, s3⟩ := sum_pay h
  have la := h.la
  have lb := h.lb
  have lc := h.lc
  unfold backOk addOk
  rw [treeOk_pay h, s1, s2, s3, h.am, amtOk_mk (by omega) (by omega) (by omega), amtOk_mk (by omega) (by omega) (by omega)]
  rfl
theorem giveOk_eq {ts : List Re} {i k a b c : Int} (h : giveOk0 ts i k a b c = true) : giveOk ts i k a b c = true := by
  unfold giveOk
  rw [h]
  simp only [giveOk0, Bool.and_eq_true] at h
  obtain ⟨m, rfl, hp⟩ := payAt_of h.2
  rw [back_pay hp]
  rfl
theorem giveOk_no {ts : List Re} {i k a b c : Int} (h : giveOk0 ts i k a b c = false) : giveOk ts i k a b c = false := by unfold giveOk; rw [h]; rfl
theorem give_at {ts : List Re} {i a b c : Int} {k : Nat} (h : giveOk0 ts i (k : Int) a b c = true) : giveOf ts i (k : Int) a b c = (payT ts i a b c).set k (addR (reAt (payT ts i a b c) k) a b c) ∧ addOk (reAt (payT ts i a b c) k).a (reAt (payT ts i a b c) k).b (reAt (payT ts i a b c) k).c a b c = true := by
  have h0 := h
  simp only [giveOk0, Bool.and_eq_true] at h
  obtain ⟨m, rfl, hp⟩ := payAt_of h.2
  have hk := h.1
  simp only [liveIn, Bool.and_eq_true, decide_eq_true_eq, Int.toNat_natCast] at hk
  have hb := back_pay hp
  have hlv : (reAt (payT ts (m : Int) a b c) k).live = true := by rw [((shape_pay hp).2 k).1]; exact hk.2
  have hli : liveIn (payT ts (m : Int) a b c) (k : Int) = true := by
    unfold liveIn
    rw [treeOk_pay hp]
    simp [hlv]; omega
  have hat : backAt (payT ts (m : Int) a b c) (k : Int) = k := by simp [backAt, hli]
  refine ⟨?_, ?_⟩
  · unfold giveOf backOf backT
    rw [h0, hb, hat]
    rfl
  · unfold backOk at hb
    simp only [Bool.and_eq_true] at hb
    exact addOk_one hb.1 hb.2 (by omega) hlv
theorem giveOf_length (ts : List Re) (i k a b c : Int) : (giveOf ts i k a b c).length = ts.length := by
  unfold giveOf; split
  · rw [backOf_length, payT_length]
  · rfl
end Go.Proofs.YtfcenombphodbaaDoor
