/-
  A place is dropped: what is there then.
-/
import Derived.Test.YtfcenombphodbaaDoorBring
namespace Go.Proofs.YtfcenombphodbaaDoor
open Go.RowKit
set_option linter.unusedVariables false
set_option maxRecDepth 100000

theorem sumN_ge2 (f : Re → Int) (ts : List Re) (h : ∀ i, i < 5 → 0 ≤ f (reAt ts i) ∧ f (reAt ts i) ≤ 1000000) (m P : Nat) (hne : m ≠ P) (hl : (reAt ts m).live = true) (hp : (reAt ts P).live = true) : ∀ k, m < k → P < k → k ≤ 5 → f (reAt ts m) + f (reAt ts P) ≤ sumN f ts k := by
  intro k
  induction k with
  | zero => intro h1; omega
  | succ k ih =>
    intro h1 h2 h3
    have hk := h k (by omega)
    simp only [sumN]
    by_cases he : m = k
    · subst he
      have := sumN_ge f ts h P hp m (by omega) (by omega)
      rw [hl]; simp; omega
    · by_cases he2 : P = k
      · subst he2
        have := sumN_ge f ts h m hl P (by omega) (by omega)
        rw [hp]; simp; omega
      · have := ih (by omega) (by omega) (by omega)
        split <;> omega
theorem addOk_two {ts : List Re} {m P : Nat} (hok : treeOk ts = true) (hne : m ≠ P) (hm : m < 5) (hP : P < 5) (hl : (reAt ts m).live = true) (hp : (reAt ts P).live = true) : addOk (reAt ts P).a (reAt ts P).b (reAt ts P).c (reAt ts m).a (reAt ts m).b (reAt ts m).c = true := by
  have am := treeOk_amts hok
  have z := amtOk_true (treeOk_parts hok).2.2.2.2.2
  have g1 := sumN_ge2 Re.a ts (fun i hi => by have := amtOk_true (am i hi); omega) m P hne hl hp 5 hm hP (Nat.le_refl _)
  have g2 := sumN_ge2 Re.b ts (fun i hi => by have := amtOk_true (am i hi); omega) m P hne hl hp 5 hm hP (Nat.le_refl _)
  have g3 := sumN_ge2 Re.c ts (fun i hi => by have := amtOk_true (am i hi); omega) m P hne hl hp 5 hm hP (Nat.le_refl _)
  have u := amtOk_true (am m hm)
  have v := amtOk_true (am P hP)
  have h3 : amtOk ((reAt ts P).a + (reAt ts m).a) ((reAt ts P).b + (reAt ts m).b) ((reAt ts P).c + (reAt ts m).c) = true := by unfold amtOk; rw [numOk_yes (by omega) (by omega), numOk_yes (by omega) (by omega), numOk_yes (by omega) (by omega)]; rfl
  unfold addOk
  rw [am m hm, am P hP, h3]
  rfl
/-- Whose Parent it was. -/
def fI (m : Nat) (P : Int) (r : Re) : Re := if r.par = (m : Int) then { r with par := P } else r
def fS (m : Nat) (P : Int) (r : Re) : Re := if (r.live && decide (r.par = (m : Int))) = true then { r with par := P } else r
def mapK (f : Re → Re) (xs : List Re) (k : Nat) : List Re := (xs.take k).map f ++ xs.drop k
theorem mapK_length (f : Re → Re) (xs : List Re) (k : Nat) : (mapK f xs k).length = xs.length := by simp [mapK]; omega
theorem mapK_start (f : Re → Re) (xs : List Re) : mapK f xs 0 = xs := by simp [mapK]
theorem mapK_end (f : Re → Re) (xs : List Re) : mapK f xs xs.length = xs.map f := by simp [mapK]
theorem mapK_at (f : Re → Re) (xs : List Re) (k : Nat) (h : k < xs.length) : reAt (mapK f xs k) k = reAt xs k := by
  unfold reAt mapK
  have e : ((xs.take k).map f).length = k := by simp; omega
  rw [List.getD_eq_getElem?_getD, List.getElem?_append_right (by omega), e, Nat.sub_self, List.getElem?_drop]
  simp
theorem mapK_set (f : Re → Re) (xs : List Re) (k : Nat) (h : k < xs.length) : (mapK f xs k).set k (f (reAt xs k)) = mapK f xs (k + 1) := by
  unfold mapK
  have e : ((xs.take k).map f).length = k := by simp; omega
  rw [List.set_append_right _ _ (by omega), e, Nat.sub_self, List.drop_eq_getElem_cons h, List.set_cons_zero]
  rw [show xs.take (k + 1) = xs.take k ++ [reAt xs k] by rw [List.take_add_one, List.getElem?_eq_getElem h]; simp [reAt, h]]
  simp
theorem mapK_same (f : Re → Re) (xs : List Re) (k : Nat) (h : k < xs.length) (hs : f (reAt xs k) = reAt xs k) : mapK f xs (k + 1) = mapK f xs k := by
  rw [← mapK_set f xs k h, hs, ← mapK_at f xs k h]
  have hl := mapK_length f xs k
  unfold reAt
  rw [List.getD_eq_getElem?_getD, List.getElem?_eq_getElem (by omega)]
  simp
def dropB (ts : List Re) (m P : Nat) : List Re := (ts.set m noRe).set P (addR (reAt ts P) (reAt ts m).a (reAt ts m).b (reAt ts m).c)
def dropT (ts : List Re) (m : Nat) : List Re := (dropB ts m (reAt ts m).par.toNat).map (fI m (reAt ts m).par)
def dropOk (ts : List Re) (i : Int) : Bool := liveIn ts i && !decide (i = 0)
def dropOf (ts : List Re) (i : Int) : List Re := if dropOk ts i then dropT ts i.toNat else ts
theorem dropOf_length (ts : List Re) (i : Int) : (dropOf ts i).length = ts.length := by unfold dropOf dropT dropB; split <;> simp
theorem dropB_length (ts : List Re) (m P : Nat) : (dropB ts m P).length = ts.length := by simp [dropB]
theorem reAt_other (ts : List Re) (i j : Nat) (r : Re) (h : i ≠ j) : reAt (ts.set i r) j = reAt ts j := by
  unfold reAt
  rw [List.getD_eq_getElem?_getD, List.getD_eq_getElem?_getD, List.getElem?_set_ne h]
/-- What is known of a place that is dropped. -/
structure DropAt (ts : List Re) (m P : Nat) : Prop where
  hm : m < 5
  m0 : 0 < m
  hP : P < 5
  ne : m ≠ P
  lm : (reAt ts m).live = true
  lP : (reAt ts P).live = true
  par : (reAt ts m).par = (P : Int)
  add : addOk (reAt ts P).a (reAt ts P).b (reAt ts P).c (reAt ts m).a (reAt ts m).b (reAt ts m).c = true
theorem dropAt_of {ts : List Re} {i : Int} (h : dropOk ts i = true) : ∃ m P : Nat, i = (m : Int) ∧ DropAt ts m P := by
  simp only [dropOk, liveIn, Bool.and_eq_true, decide_eq_true_eq, Bool.not_eq_true', decide_eq_false_iff_not] at h
  obtain ⟨⟨⟨hok, h0, h4⟩, hl⟩, hz⟩ := h
  obtain ⟨m, rfl⟩ : ∃ m : Nat, i = (m : Int) := ⟨i.toNat, by omega⟩
  simp only [Int.toNat_natCast] at hl
  have hm : m < 5 := by omega
  have hm0 : 0 < m := by omega
  have hp := ((treeOk_parts hok).2.2.2.1 m hm).2
  obtain ⟨P, hP, hP5, hPl⟩ := parOk_up hp hm0 hl
  have hne : m ≠ P := fun e => by
    unfold parOk at hp
    rw [hl, hP] at hp
    simp [e] at hp
    omega
  exact ⟨m, P, rfl, hm, hm0, hP5, hne, hl, hPl, hP, addOk_two hok hne hm hP5 hl hPl⟩
theorem dropT_of {ts : List Re} {m P : Nat} (h : DropAt ts m P) : dropT ts m = (dropB ts m P).map (fI m P) := by
  unfold dropT; rw [h.par]; simp
theorem dropT_spec {ts : List Re} {m P : Nat} (hok : treeOk ts = true) (h : DropAt ts m P) : dropT ts m = (dropB ts m P).map (fS m P) := by
  rw [dropT_of h]
  have hl := treeOk_five hok
  have hz : ∀ i, i < 5 → (reAt ts i).live = false → (reAt ts i).par = 0 := fun i hi hlv => by
    have := ((treeOk_parts hok).2.2.2.1 i hi).1
    simp only [placeOk, Bool.and_eq_true, hlv, Bool.false_or] at this
    exact (isZero_parts this.1).1
  apply List.map_congr_left
  intro r hr
  obtain ⟨j, hj, rfl⟩ := List.getElem_of_mem hr
  have hj5 : j < 5 := by rw [dropB_length] at hj; omega
  have e : (dropB ts m P)[j] = reAt (dropB ts m P) j := by simp [reAt, hj]
  rw [e]
  have hd : (reAt (dropB ts m P) j).live = false → (reAt (dropB ts m P) j).par = 0 := by
    unfold dropB
    by_cases h1 : P = j
    · subst h1
      rw [reAt_set _ _ _ (by simp; omega)]
      intro h2
      have : (reAt ts P).live = false := h2
      rw [h.lP] at this; cases this
    · rw [reAt_other _ _ _ _ h1]
      by_cases h2 : m = j
      · subst h2; rw [reAt_set _ _ _ (by omega)]; intro _; rfl
      · rw [reAt_other _ _ _ _ h2]; exact hz j hj5
  generalize reAt (dropB ts m P) j = r at hd
  unfold fI fS
  cases hlv : r.live with
  | true => simp
  | false =>
    have := hd hlv
    have hm0 := h.m0
    simp [this]; omega
theorem dropB_spec {ts : List Re} {m P : Nat} (h : m ≠ P) : dropB ts m P = (ts.set P (addR (reAt ts P) (reAt ts m).a (reAt ts m).b (reAt ts m).c)).set m noRe := by
  unfold dropB
  rw [List.set_comm _ _ (by omega)]
theorem TreeIn.set5 {w : World} {g : Nat} {ts : List Re} {rest : List Value} (h : TreeIn w g ts rest) (i : Nat) (hi : i < ts.length) (l : Bool) (p a b c : Int) : TreeIn (w5 w g (i * 5) l p a b c) g (ts.set i ⟨l, p, a, b, c⟩) rest := by
  have r1 := h.put0 i hi l
  have r2 := r1.put1 i (by simpa using hi) p
  rw [reAt_set _ _ _ hi, List.set_set] at r2
  have r3 := r2.put2 i (by simpa using hi) a
  rw [reAt_set _ _ _ hi, List.set_set] at r3
  have r4 := r3.put3 i (by simpa using hi) b
  rw [reAt_set _ _ _ hi, List.set_set] at r4
  have r5 := r4.put4 i (by simpa using hi) c
  rw [reAt_set _ _ _ hi, List.set_set] at r5
  exact r5
theorem TreeIn.set3 {w : World} {g : Nat} {ts : List Re} {rest : List Value} (h : TreeIn w g ts rest) (m : Nat) (hm : m < ts.length) (a b c : Int) : TreeIn (((w.setCell ⟨g, m * 5 + 2, none⟩ (.int .i64 a)).setCell ⟨g, m * 5 + 3, none⟩ (.int .i64 b)).setCell ⟨g, m * 5 + 4, none⟩ (.int .i64 c)) g (ts.set m ⟨(reAt ts m).live, (reAt ts m).par, a, b, c⟩) rest := by
  have t2 := h.put2 m hm a
  have t3 := t2.put3 m (by simpa using hm) b
  rw [reAt_set _ _ _ hm, List.set_set] at t3
  have t4 := t3.put4 m (by simpa using hm) c
  rw [reAt_set _ _ _ hm, List.set_set] at t4
  exact t4
theorem below_set3 {s : Nat} {w wr : World} {g i j k : Nat} (h : Below s w wr) (hg : s ≤ g) (a b c : Value) : Below s w (((wr.setCell ⟨g, i, none⟩ a).setCell ⟨g, j, none⟩ b).setCell ⟨g, k, none⟩ c) :=
  ((h.setCell (p := ⟨g, i, none⟩) hg _).setCell (p := ⟨g, j, none⟩) hg _).setCell (p := ⟨g, k, none⟩) hg _
end Go.Proofs.YtfcenombphodbaaDoor
