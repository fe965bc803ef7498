/-
  What TapMove answers, as promise 7 asks it.
-/
import Derived.Test.YtfcenombphodbaaDoorWood7
import Derived.Test.YtfcenombphodbaaDoorSumA
import Derived.Test.YtfcenombphodbaaDoorMathGive
namespace Go.Proofs.YtfcenombphodbaaDoor
open Go.RowKit
set_option linter.unusedVariables false
set_option maxRecDepth 100000

theorem sumW_set (f : Re → Int) (tss : List (List Re)) (m : Nat) (ts' : List Re) (hm : m < tss.length) : ∀ k, sumW f (tss.set m ts') k = sumW f tss k + (if m < k then sumT f ts' - sumT f (treeAt tss m) else 0)
  | 0 => by simp [sumW]
  | k + 1 => by
    have ih := sumW_set f tss m ts' hm k
    simp only [sumW]
    rw [ih]
    by_cases h : m = k
    · subst h
      rw [treeAt_set_same hm, if_neg (by omega), if_pos (by omega)]
      omega
    · rw [treeAt_set_other _ _ h]
      by_cases h2 : m < k
      · rw [if_pos h2, if_pos (by omega)]; omega
      · rw [if_neg h2, if_neg (by omega)]; omega
theorem sumT_yes {ts : List Re} (h : treeOk ts = true) (f : Re → Int) : sumT f ts = sumN f ts 5 := by simp [sumT, h]
theorem setRe_same (ts : List Re) (m : Nat) : ts.set m (reAt ts m) = ts := by
  refine List.ext_getElem? fun j => ?_
  rw [List.getElem?_set]
  split
  · rename_i e
    subst e
    split
    · rename_i hm
      rw [List.getElem?_eq_getElem hm]
      simp [reAt, hm]
    · rename_i hm
      rw [List.getElem?_eq_none (by omega)]
  · rfl
theorem pay_zero (ts : List Re) (r : Int) : payOf ts r 0 0 0 = ts := by
  unfold payOf
  split
  · unfold payT
    simp only [Int.sub_zero]
    exact setRe_same ts r.toNat
  · rfl
theorem back_zero (ts : List Re) (q : Int) : backOf ts q 0 0 0 = ts := by
  unfold backOf
  split
  · unfold backT
    simp only [Int.add_zero]
    exact setRe_same ts (backAt ts q)
  · rfl
/-- What is brought back makes the sum that much more, and the tree stays right. -/
theorem back_sums {ts : List Re} {q a b c : Int} (h : backOk ts a b c = true) : treeOk (backOf ts q a b c) = true ∧ sumT Re.a (backOf ts q a b c) = sumT Re.a ts + a ∧ sumT Re.b (backOf ts q a b c) = sumT Re.b ts + b ∧ sumT Re.c (backOf ts q a b c) = sumT Re.c ts + c := by
  have e : backOf ts q a b c = backT ts q a b c := by unfold backOf; rw [if_pos h]
  unfold backOk at h
  simp only [Bool.and_eq_true] at h
  obtain ⟨hok, hadd⟩ := h
  have h5 := treeOk_five hok
  have hat : backAt ts q < 5 ∧ (reAt ts (backAt ts q)).live = true := by
    unfold backAt
    split
    · rename_i hl
      unfold liveIn at hl
      simp only [Bool.and_eq_true, decide_eq_true_eq] at hl
      exact ⟨by omega, hl.2⟩
    · exact ⟨by omega, treeOk_rlive hok⟩
  have hone := addOk_one hok hadd hat.1 hat.2
  rw [e]
  unfold backT
  generalize backAt ts q = m at hat hone ⊢
  unfold addOk at hadd hone
  simp only [Bool.and_eq_true] at hadd hone
  have hs := hadd.2
  have ht : treeOk (ts.set m ⟨(reAt ts m).live, (reAt ts m).par, (reAt ts m).a + a, (reAt ts m).b + b, (reAt ts m).c + c⟩) = true := by
    refine treeOk_set hok hat.1 hat.2 hone.2 ?_
    have e1 : ∀ x y z : Int, x + (y + z - y) = x + z := fun x y z => by omega
    rw [e1, e1, e1]
    exact hs
  refine ⟨ht, ?_, ?_, ?_⟩
  · rw [sumT_yes ht, sumT_yes hok, sumN_set Re.a ts m ⟨(reAt ts m).live, (reAt ts m).par, (reAt ts m).a + a, (reAt ts m).b + b, (reAt ts m).c + c⟩ (by omega) hat.2 hat.2, if_pos hat.1]; simp only; omega
  · rw [sumT_yes ht, sumT_yes hok, sumN_set Re.b ts m ⟨(reAt ts m).live, (reAt ts m).par, (reAt ts m).a + a, (reAt ts m).b + b, (reAt ts m).c + c⟩ (by omega) hat.2 hat.2, if_pos hat.1]; simp only; omega
  · rw [sumT_yes ht, sumT_yes hok, sumN_set Re.c ts m ⟨(reAt ts m).live, (reAt ts m).par, (reAt ts m).a + a, (reAt ts m).b + b, (reAt ts m).c + c⟩ (by omega) hat.2 hat.2, if_pos hat.1]; simp only; omega
/-- One number that is there can be paid. -/
theorem pay_one {ts : List Re} {rn : Nat} {h N : Int} (hlive : liveIn ts (rn : Int) = true) (hh : 0 ≤ h ∧ h ≤ 2) (h0 : 0 ≤ N) (hN : N ≤ partOf h (reAt ts rn).a (reAt ts rn).b (reAt ts rn).c) : PayAt ts rn (oneA h N) (oneB h N) (oneC h N) := by
  have hl := hlive
  unfold liveIn at hl
  simp only [Bool.and_eq_true, decide_eq_true_eq, Int.toNat_natCast] at hl
  have am := amtOk_true (treeOk_amts hl.1.1 rn (by omega))
  have hc : h = 0 ∨ h = 1 ∨ h = 2 := by omega
  refine ⟨hl.1.1, by omega, hl.2, amtOk_mk ?_ ?_ ?_, ?_, ?_, ?_⟩ <;> rcases hc with rfl | rfl | rfl <;> simp [oneA, oneB, oneC, partOf] at hN ⊢ <;> omega
theorem payAt_ok {ts : List Re} {rn : Nat} {a b c : Int} (h : PayAt ts rn a b c) : payOf ts (rn : Int) a b c = payT ts (rn : Int) a b c := by
  have am := amtOk_mk (by have := amtOk_true (treeOk_amts h.ok rn h.hm); exact this.1) (by have := amtOk_true (treeOk_amts h.ok rn h.hm); exact this.2.1) (by have := amtOk_true (treeOk_amts h.ok rn h.hm); exact this.2.2)
  have e : payOk ts (rn : Int) a b c = true := by
    unfold payOk liveIn fitsIn
    rw [h.ok, Int.toNat_natCast, h.lm, h.am, am, decide_eq_true h.la, decide_eq_true h.lb, decide_eq_true h.lc, decide_eq_true (by omega : (0 : Int) ≤ rn), decide_eq_true (by have := h.hm; omega : (rn : Int) ≤ 4)]
    rfl
  unfold payOf
  rw [if_pos e]
theorem one_zero (h : Int) : oneA h 0 = 0 ∧ oneB h 0 = 0 ∧ oneC h 0 = 0 := by unfold oneA oneB oneC; refine ⟨?_, ?_, ?_⟩ <;> split <;> rfl
theorem taps_told (tss : List (List Re)) (P r p q h k t : Int) :
    (moveM tss P r p q h k t = 0 ∧ moveOf tss P r p q h k t = tss) ∨
    ∃ m rn pn : Nat, P = (m : Int) ∧ r = (rn : Int) ∧ p = (pn : Int) ∧ 0 < moveM tss P r p q h k t ∧ m < tss.length ∧ pn < tss.length ∧ rn < 5 ∧ tss.length ≤ 3 ∧
      (∀ i, i < tss.length → (treeAt tss i).length = 5 ∧ treeOk (treeAt (moveOf tss P r p q h k t) i) = true) ∧
      (∀ i, i ≠ m → i ≠ pn → treeAt (moveOf tss P r p q h k t) i = treeAt tss i) ∧
      (sumW Re.a (moveOf tss P r p q h k t) tss.length = sumW Re.a tss tss.length ∧ sumW Re.b (moveOf tss P r p q h k t) tss.length = sumW Re.b tss tss.length ∧ sumW Re.c (moveOf tss P r p q h k t) tss.length = sumW Re.c tss tss.length) ∧
      moveM tss P r p q h k t ≤ partOf h (reAt (treeAt tss m) rn).a (reAt (treeAt tss m) rn).b (reAt (treeAt tss m) rn).c ∧ (k = 1 → moveM tss P r p q h k t ≤ t) ∧
      moveM tss P r p q h k t = flowOf r p q h k t (reAt (treeAt tss m) rn).a (reAt (treeAt tss m) rn).b (reAt (treeAt tss m) rn).c := by
  cases hb : moveB tss P r p q h k t with
  | false => exact .inl ⟨moveM_no hb, moveOf_no hb⟩
  | true =>
    have hmay : mayB tss P r p q h k t = true := by
      unfold moveB at hb
      simp only [Bool.and_eq_true] at hb
      exact hb.1
    have hbk : backB tss P r p q h k t = true := by
      unfold moveB at hb
      simp only [Bool.and_eq_true] at hb
      exact hb.2
    obtain ⟨h1, h2, h3, h4, h5, h6, h7⟩ := mayB_true hmay
    have ht := tapOk_true h3
    obtain ⟨m, rfl⟩ : ∃ m : Nat, P = (m : Int) := ⟨P.toNat, by omega⟩
    obtain ⟨rn, rfl⟩ : ∃ m : Nat, r = (m : Int) := ⟨r.toNat, by omega⟩
    obtain ⟨pn, rfl⟩ : ∃ m : Nat, p = (m : Int) := ⟨p.toNat, by omega⟩
    have hm : m < tss.length := by omega
    have hp : pn < tss.length := by omega
    simp only [Int.toNat_natCast] at h7
    have hmN : moveM tss m rn pn q h k t = moveN tss m rn pn q h k t := by unfold moveM; rw [hb, if_pos rfl]
    have hO : moveOf tss m rn pn q h k t = (paidOf tss m rn pn q h k t).set pn (backOf (treeAt (paidOf tss m rn pn q h k t) pn) q (oneA h (moveN tss m rn pn q h k t)) (oneB h (moveN tss m rn pn q h k t)) (oneC h (moveN tss m rn pn q h k t))) := by
      unfold moveOf; rw [hb, if_pos rfl, Int.toNat_natCast]
    unfold backB at hbk
    rw [Int.toNat_natCast] at hbk
    have hN : moveN tss m rn pn q h k t = flowOf rn pn q h k t (reAt (treeAt tss m) rn).a (reAt (treeAt tss m) rn).b (reAt (treeAt tss m) rn).c := by
      unfold moveN balAt; simp only [Int.toNat_natCast]
    have hP : paidOf tss m rn pn q h k t = tss.set m (payOf (treeAt tss m) rn (oneA h (moveN tss m rn pn q h k t)) (oneB h (moveN tss m rn pn q h k t)) (oneC h (moveN tss m rn pn q h k t))) := by
      unfold paidOf; simp only [Int.toNat_natCast]
    rw [hmN, hO]
    generalize moveN tss m rn pn q h k t = N at hbk hN hP ⊢
    rw [hP] at hbk ⊢
    clear hP hO hmN hmay hb
    have hok := all_at h1 hm
    have hr5 : rn < 5 := by omega
    have ham := treeOk_amts hok rn hr5
    have hflow : N = flowN k t (partOf h (reAt (treeAt tss m) rn).a (reAt (treeAt tss m) rn).b (reAt (treeAt tss m) rn).c) := by rw [hN]; exact flowOf_yes h3 ham
    have hsm := partOf_small (h := h) ham
    have hin := flowN_in hsm.1 hsm.2 ht.2.2.2.2
    rw [← hflow] at hin
    by_cases h0 : N = 0
    · left
      obtain ⟨z1, z2, z3⟩ := one_zero h
      rw [h0, z1, z2, z3, pay_zero, back_zero]
      refine ⟨rfl, ?_⟩
      have e1 : tss.set m (treeAt tss m) = tss := by rw [treeAt_in hm]; simp
      rw [e1, treeAt_in hp]
      simp
    · right
      have hpa := pay_one h7 ht.2.2.2.1 hin.1 hin.2.1
      rw [payAt_ok hpa] at hbk ⊢
      have hpt := treeOk_pay hpa
      have hps := sum_pay hpa
      have hbs := back_sums (q := q) hbk
      have hml : m < (tss.set m (payT (treeAt tss m) (rn : Int) (oneA h N) (oneB h N) (oneC h N))).length := by rw [List.length_set]; exact hm
      have hpl : pn < (tss.set m (payT (treeAt tss m) (rn : Int) (oneA h N) (oneB h N) (oneC h N))).length := by rw [List.length_set]; exact hp
      have hsum : ∀ (f : Re → Int) (d : Int), sumT f (payT (treeAt tss m) (rn : Int) (oneA h N) (oneB h N) (oneC h N)) = sumT f (treeAt tss m) - d →
          sumT f (backOf (treeAt (tss.set m (payT (treeAt tss m) (rn : Int) (oneA h N) (oneB h N) (oneC h N))) pn) q (oneA h N) (oneB h N) (oneC h N)) = sumT f (treeAt (tss.set m (payT (treeAt tss m) (rn : Int) (oneA h N) (oneB h N) (oneC h N))) pn) + d →
          sumW f ((tss.set m (payT (treeAt tss m) (rn : Int) (oneA h N) (oneB h N) (oneC h N))).set pn (backOf (treeAt (tss.set m (payT (treeAt tss m) (rn : Int) (oneA h N) (oneB h N) (oneC h N))) pn) q (oneA h N) (oneB h N) (oneC h N))) tss.length = sumW f tss tss.length := fun f d e1 e2 => by
        rw [sumW_set f _ pn _ hpl, if_pos hp, sumW_set f tss m _ hm, if_pos hm, e1, e2]
        omega
      refine ⟨m, rn, pn, rfl, rfl, rfl, by omega, hm, hp, hr5, h2, fun i hi => ⟨treeOk_five (all_at h1 hi), ?_⟩, fun i hi1 hi2 => ?_, ⟨?_, ?_, ?_⟩, hin.2.1, hin.2.2, hN⟩
      · by_cases he : pn = i
        · subst he
          rw [treeAt_set_same hpl]; exact hbs.1
        · rw [treeAt_set_other _ _ he]
          by_cases he2 : m = i
          · subst he2
            rw [treeAt_set_same hm]; exact hpt
          · rw [treeAt_set_other _ _ he2]; exact all_at h1 hi
      · rw [treeAt_set_other _ _ (fun e => hi2 e.symm), treeAt_set_other _ _ (fun e => hi1 e.symm)]
      · exact hsum Re.a (oneA h N) (by rw [sumT_yes hpt, sumT_yes hok]; exact hps.1) hbs.2.1
      · exact hsum Re.b (oneB h N) (by rw [sumT_yes hpt, sumT_yes hok]; exact hps.2.1) hbs.2.2.1
      · exact hsum Re.c (oneC h N) (by rw [sumT_yes hpt, sumT_yes hok]; exact hps.2.2) hbs.2.2.2
end Go.Proofs.YtfcenombphodbaaDoor
