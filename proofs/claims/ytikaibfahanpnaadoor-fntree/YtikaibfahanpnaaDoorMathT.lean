/-
  Whatever is split off, dropped, paid, given: a tree stays right, and its sum is what it should be. A place is split off, or dropped: a tree stays right, and its sum is what it was. What the law asks of each answer, in one place each.
-/
import Derived.Test.YtikaibfahanpnaaDoorMathSplit
import Derived.Test.YtikaibfahanpnaaDoorAbove
namespace Go.Proofs.YtikaibfahanpnaaDoor
open Go.RowKit
set_option linter.unusedVariables false
set_option maxRecDepth 100000

def valR (f : Re → Int) (r : Re) : Int := if r.live then f r else 0
theorem sumN_setG (f : Re → Int) (ts : List Re) (m : Nat) (r : Re) (hm : m < ts.length) : ∀ k, sumN f (ts.set m r) k = sumN f ts k + (if m < k then valR f r - valR f (reAt ts m) else 0) := by
  intro k
  induction k with
  | zero => simp [sumN]
  | succ k ih =>
    simp only [sumN]
    rw [ih]
    by_cases he : m = k
    · subst he
      rw [reAt_set _ _ _ hm]
      simp only [Nat.lt_irrefl, if_false, Nat.lt_succ_self, if_true, valR]
      omega
    · rw [reAt_other _ _ _ _ he]
      generalize (if (reAt ts k).live = true then f (reAt ts k) else 0) = q
      by_cases h2 : m < k
      · rw [if_pos h2, if_pos (by omega)]; omega
      · rw [if_neg h2, if_neg (by omega)]; omega
theorem reAt_map (g : Re → Re) (hg : g noRe = noRe) (ts : List Re) (i : Nat) : reAt (ts.map g) i = g (reAt ts i) := by
  unfold reAt
  rw [List.getD_eq_getElem?_getD, List.getD_eq_getElem?_getD, List.getElem?_map]
  cases ts[i]? with
  | none => simp [hg]
  | some r => rfl
theorem sumN_map (f : Re → Int) (g : Re → Re) (hg : g noRe = noRe) (h1 : ∀ r, (g r).live = r.live) (h2 : ∀ r, f (g r) = f r) (ts : List Re) : ∀ k, sumN f (ts.map g) k = sumN f ts k := by
  intro k
  induction k with
  | zero => rfl
  | succ k ih => simp only [sumN]; rw [ih, reAt_map g hg, h1, h2]
theorem climb_mono (ts : List Re) : ∀ (n : Nat) (x : Int), climb ts n x = true → climb ts (n + 1) x = true := by
  intro n
  induction n with
  | zero => intro x h; cases h
  | succ n ih =>
    intro x h
    have e : ∀ k, climb ts (k + 1) x = (decide (x = 0) || (livePl ts (reAt ts x.toNat).par && climb ts k (reAt ts x.toNat).par)) := fun k => rfl
    rw [e] at h ⊢
    cases hx : decide (x = 0) with
    | true => rfl
    | false =>
      rw [hx] at h
      simp only [Bool.false_or, Bool.and_eq_true] at h ⊢
      exact ⟨h.1, ih _ h.2⟩
/-- Right, in the program's way of asking. -/
theorem treeOk_by {ts : List Re} (hl : ts.length = 5) (hr : (reAt ts 0).live = true) (hp : (reAt ts 0).par = -1) (ham : ∀ i, i < 5 → amtOk (reAt ts i).a (reAt ts i).b (reAt ts i).c = true) (hs : amtOk (sumN Re.a ts 5) (sumN Re.b ts 5) (sumN Re.c ts 5) = true)
    (hd : ∀ i, i < 5 → ((reAt ts i).live || isZero (reAt ts i)) = true) (hc : ∀ i, i < 5 → (reAt ts i).live = true → climb ts 5 (i : Int) = true) : treeOk ts = true := by
  rw [← implOk_eq]
  have h1 : deadZ ts = true := by
    unfold deadZ
    exact List.all_eq_true.2 fun i hi => hd i (List.mem_range.1 hi)
  have h2 : allClimb ts = true := by
    unfold allClimb
    refine List.all_eq_true.2 fun i hi => ?_
    unfold climbs
    cases hlv : (reAt ts i).live with
    | false => rfl
    | true => rw [hc i (List.mem_range.1 hi) hlv]; rfl
  unfold implOk
  rw [balOk_of ts ham hs 5 (Nat.le_refl _), h1, h2, hr]
  simp [hl, hp]
theorem dead_noRe {ts : List Re} (hok : treeOk ts = true) {i : Nat} (hi : i < 5) (hlv : (reAt ts i).live = false) : reAt ts i = noRe := by
  have := ((treeOk_parts hok).2.2.2.1 i hi).1
  simp only [placeOk, Bool.and_eq_true, hlv, Bool.false_or] at this
  obtain ⟨z0, z1, z2, z3⟩ := isZero_parts this.1
  generalize reAt ts i = r at hlv z0 z1 z2 z3
  obtain ⟨l, p, a, b, c⟩ := r
  simp only at hlv z0 z1 z2 z3
  subst hlv z0 z1 z2 z3
  rfl
theorem re_ext (ts us : List Re) (hl : ts.length = us.length) (h : ∀ i, i < ts.length → reAt ts i = reAt us i) : ts = us := by
  apply List.ext_getElem hl
  intro i h1 h2
  have := h i h1
  rw [reAt_get ts i h1, reAt_get us i h2] at this
  exact this
theorem set_same (ts : List Re) (m : Nat) : ts.set m (reAt ts m) = ts := by
  by_cases h : m < ts.length
  · refine re_ext _ _ (by simp) fun i hi => ?_
    by_cases he : m = i
    · subst he; rw [reAt_set _ _ _ h]
    · rw [reAt_other _ _ _ _ he]
  · rw [List.set_eq_of_length_le (by omega)]
/-- What is paid is brought back: nothing has changed. -/
theorem pay_back {ts : List Re} {m : Nat} {a b c : Int} (h : PayAt ts m a b c) : (payT ts (m : Int) a b c).set m (addR (reAt (payT ts (m : Int) a b c) m) a b c) = ts := by
  have h5 := treeOk_five h.ok
  have hm := h.hm
  rw [payT_nat, List.set_set, reAt_set _ _ _ (by omega)]
  have e : addR ⟨(reAt ts m).live, (reAt ts m).par, (reAt ts m).a - a, (reAt ts m).b - b, (reAt ts m).c - c⟩ a b c = reAt ts m := by
    unfold addR
    simp
  rw [e]
  exact set_same ts m
theorem backOf_pay {ts : List Re} {m : Nat} {a b c : Int} (h : PayAt ts m a b c) : backOf (payT ts (m : Int) a b c) (m : Int) a b c = ts := by
  have hb := back_pay h
  have hok := treeOk_pay h
  have hli : liveIn (payT ts (m : Int) a b c) (m : Int) = true := by
    unfold liveIn
    rw [hok, Int.toNat_natCast, ((shape_pay h).2 m).1, h.lm]
    have := h.hm
    simp; omega
  have hat : backAt (payT ts (m : Int) a b c) (m : Int) = m := by simp [backAt, hli]
  have e := pay_back h
  unfold backOf backT
  rw [hb, hat]
  exact e
/-- What is given. -/
theorem treeOk_give {ts : List Re} {i a b c : Int} {k : Nat} (h : giveOk0 ts i (k : Int) a b c = true) : treeOk (giveOf ts i (k : Int) a b c) = true ∧ sumN Re.a (giveOf ts i (k : Int) a b c) 5 = sumN Re.a ts 5 ∧ sumN Re.b (giveOf ts i (k : Int) a b c) 5 = sumN Re.b ts 5 ∧ sumN Re.c (giveOf ts i (k : Int) a b c) 5 = sumN Re.c ts 5 := by
  obtain ⟨e, hadd⟩ := give_at h
  rw [e]
  simp only [giveOk0, Bool.and_eq_true] at h
  obtain ⟨m, rfl, hp⟩ := payAt_of h.2
  have hk := h.1
  simp only [liveIn, Bool.and_eq_true, decide_eq_true_eq, Int.toNat_natCast] at hk
  have hok := treeOk_pay hp
  have h5 := treeOk_five hok
  obtain ⟨s1, s2, s3⟩ := sum_pay hp
  have hlv : (reAt (payT ts (m : Int) a b c) k).live = true := by rw [((shape_pay hp).2 k).1]; exact hk.2
  have hk5 : k < 5 := by omega
  have z := amtOk_true (treeOk_parts hp.ok).2.2.2.2.2
  obtain ⟨_, hz⟩ : _ ∧ amtOk _ _ _ = true := by unfold addOk at hadd; simpa using hadd
  refine ⟨treeOk_set hok hk5 hlv hz ?_, ?_, ?_, ?_⟩
  · rw [s1, s2, s3]
    exact amtOk_mk (by omega) (by omega) (by omega)
  · rw [sumN_setG Re.a _ k _ (by omega), if_pos hk5, s1]
    simp only [valR, addR, hlv, if_true]; omega
  · rw [sumN_setG Re.b _ k _ (by omega), if_pos hk5, s2]
    simp only [valR, addR, hlv, if_true]; omega
  · rw [sumN_setG Re.c _ k _ (by omega), if_pos hk5, s3]
    simp only [valR, addR, hlv, if_true]; omega
/-- What stands above a place. -/
theorem above_last (ts : List Re) : ∀ (n A : Nat), 0 < A → climb ts n (A : Int) = true → ∃ xs, aboveN ts n A = xs ++ [0] := by
  intro n
  induction n with
  | zero => intro A _ h; cases h
  | succ n ih =>
    intro A hA h
    obtain ⟨k, m, hk, hm, _, hc⟩ := climb_next hA h
    obtain rfl : n = k := by omega
    rw [aboveN_up ts n A m hA hm]
    by_cases h0 : m = 0
    · subst h0; rw [aboveN_zero]; exact ⟨[], rfl⟩
    · obtain ⟨xs, hx⟩ := ih m (by omega) hc
      rw [hx]
      exact ⟨(m : Int) :: xs, rfl⟩
theorem above_of {ts : List Re} {j : Nat} (hok : treeOk ts = true) (hj : j < 5) (h0 : 0 < j) (hl : (reAt ts j).live = true) : ∃ xs, aboveOf ts (j : Int) = xs ++ [0] ∧ (aboveOf ts (j : Int)).getD 0 0 = (reAt ts j).par := by
  have hli : liveIn ts (j : Int) = true := by
    unfold liveIn
    rw [hok, Int.toNat_natCast, hl]
    simp; omega
  have e : aboveOf ts (j : Int) = aboveN ts 5 j := by simp [aboveOf, hli]
  have hc := live_climb hok hj hl
  obtain ⟨xs, hx⟩ := above_last ts 5 j h0 hc
  refine ⟨xs, by rw [e, hx], ?_⟩
  obtain ⟨k, m, hk, hm, _, _⟩ := climb_next h0 hc
  obtain rfl : k = 4 := by omega
  rw [e, aboveN_up ts 4 j m h0 hm, hm]
  rfl
end Go.Proofs.YtikaibfahanpnaaDoor
namespace Go.Proofs.YtikaibfahanpnaaDoor
open Go.RowKit
set_option linter.unusedVariables false
set_option maxRecDepth 100000

theorem climb_zero' (ts : List Re) (n : Nat) (h : 0 < n) : climb ts n 0 = true := by
  obtain ⟨k, rfl⟩ : ∃ k, n = k + 1 := ⟨n - 1, by omega⟩
  exact climb_zero ts k
theorem climb_pos {ts : List Re} {n : Nat} {x : Int} (h : climb ts n x = true) : 0 < n := by
  cases n with
  | zero => cases h
  | succ n => omega
/-- Who climbs goes on climbing where the places on the way keep their parents, or are led past one. -/
theorem climb_past {ts us : List Re} {m P : Nat} (hl : us.length = ts.length) (hmP : (reAt ts m).par = (P : Int)) (hm0 : 0 < m) (hPm : P ≠ m) (hPl : P < ts.length)
    (hlv : ∀ i, i ≠ m → (reAt us i).live = (reAt ts i).live) (hP : (reAt ts P).live = true)
    (hpar : ∀ i, i ≠ m → (reAt us i).par = if (reAt ts i).par = (m : Int) then (P : Int) else (reAt ts i).par) : ∀ (n A : Nat), A ≠ m → climb ts n (A : Int) = true → climb us n (A : Int) = true := by
  intro n
  induction n using Nat.strongRecOn with
  | _ n ih =>
    intro A hA h
    by_cases h0 : A = 0
    · subst h0; exact climb_zero' us n (climb_pos h)
    · obtain ⟨k, q, hk, hq, hql, hc⟩ := climb_next (by omega) h
      subst hk
      rw [climb_up us k A (by omega), hpar A hA, hq]
      by_cases hqm : q = m
      · subst hqm
        rw [if_pos rfl]
        obtain ⟨k2, q2, hk2, hq2, _, hc2⟩ := climb_next hm0 hc
        subst hk2
        rw [hmP] at hq2
        obtain rfl : P = q2 := by omega
        rw [livePl_nat (by omega), hlv P hPm, hP, climb_mono us k2 _ (ih k2 (by omega) P hPm hc2)]
        rfl
      · rw [if_neg (by omega), livePl_nat (by omega), hlv q hqm]
        rw [climb_up ts k A (by omega), hq] at h
        simp only [Bool.and_eq_true] at h
        have h1 := h.1
        rw [livePl_nat hql] at h1
        rw [h1, ih k (by omega) q hqm hc]
        rfl
theorem fI_live (m : Nat) (P : Int) (r : Re) : (fI m P r).live = r.live := by unfold fI; split <;> rfl
theorem fI_a (m : Nat) (P : Int) (r : Re) : (fI m P r).a = r.a := by unfold fI; split <;> rfl
theorem fI_b (m : Nat) (P : Int) (r : Re) : (fI m P r).b = r.b := by unfold fI; split <;> rfl
theorem fI_c (m : Nat) (P : Int) (r : Re) : (fI m P r).c = r.c := by unfold fI; split <;> rfl
theorem fI_par (m : Nat) (P : Int) (r : Re) : (fI m P r).par = if r.par = (m : Int) then P else r.par := by unfold fI; split <;> rfl
theorem fI_none (m : Nat) (P : Int) (hm : 0 < m) : fI m P noRe = noRe := by
  unfold fI
  rw [if_neg]
  show ¬ ((0 : Int) = (m : Int))
  omega
theorem drop_at {ts : List Re} {m P : Nat} (hok : treeOk ts = true) (h : DropAt ts m P) (i : Nat) : reAt (dropT ts m) i = if i = m then noRe else fI m P (if i = P then addR (reAt ts P) (reAt ts m).a (reAt ts m).b (reAt ts m).c else reAt ts i) := by
  have h5 := treeOk_five hok
  have hm := h.hm
  have hP := h.hP
  rw [dropT_of h, reAt_map _ (fI_none m P h.m0)]
  unfold dropB
  by_cases h1 : P = i
  · subst h1
    rw [reAt_set _ _ _ (by simp; omega), if_neg (fun e => h.ne e.symm), if_pos rfl]
  · rw [reAt_other _ _ _ _ h1]
    by_cases h2 : m = i
    · subst h2; rw [reAt_set _ _ _ (by omega), if_pos rfl, fI_none m P h.m0]
    · rw [reAt_other _ _ _ _ h2, if_neg (fun e => h2 e.symm), if_neg (fun e => h1 e.symm)]
theorem sum_drop {ts : List Re} {m P : Nat} (hok : treeOk ts = true) (h : DropAt ts m P) (f : Re → Int) (hf : ∀ r, f (fI m P r) = f r) (hadd : f (addR (reAt ts P) (reAt ts m).a (reAt ts m).b (reAt ts m).c) = f (reAt ts P) + f (reAt ts m)) : sumN f (dropT ts m) 5 = sumN f ts 5 := by
  have h5 := treeOk_five hok
  have hm := h.hm
  have hP := h.hP
  rw [dropT_of h, sumN_map f _ (fI_none m P h.m0) (fI_live m P) hf]
  unfold dropB
  rw [sumN_setG f _ P _ (by simp; omega), sumN_setG f _ m _ (by omega), if_pos hm, if_pos hP, reAt_other _ _ _ _ h.ne]
  have e1 : valR f noRe = 0 := rfl
  have e2 : valR f (reAt ts m) = f (reAt ts m) := by simp [valR, h.lm]
  have e3 : valR f (reAt ts P) = f (reAt ts P) := by simp [valR, h.lP]
  have e4 : valR f (addR (reAt ts P) (reAt ts m).a (reAt ts m).b (reAt ts m).c) = f (addR (reAt ts P) (reAt ts m).a (reAt ts m).b (reAt ts m).c) := by simp [valR, addR, h.lP]
  rw [e1, e2, e3, e4, hadd]
  omega
theorem sums_drop {ts : List Re} {m P : Nat} (hok : treeOk ts = true) (h : DropAt ts m P) : sumN Re.a (dropT ts m) 5 = sumN Re.a ts 5 ∧ sumN Re.b (dropT ts m) 5 = sumN Re.b ts 5 ∧ sumN Re.c (dropT ts m) 5 = sumN Re.c ts 5 :=
  ⟨sum_drop hok h Re.a (fI_a m P) rfl, sum_drop hok h Re.b (fI_b m P) rfl, sum_drop hok h Re.c (fI_c m P) rfl⟩
theorem treeOk_drop {ts : List Re} {m P : Nat} (hok : treeOk ts = true) (h : DropAt ts m P) : treeOk (dropT ts m) = true := by
  have h5 := treeOk_five hok
  have hm := h.hm
  have hP := h.hP
  have hm0 := h.m0
  have hne := h.ne
  obtain ⟨_, hr, hrp, hpl, _, hs⟩ := treeOk_parts hok
  obtain ⟨s1, s2, s3⟩ := sums_drop hok h
  have hlen : (dropT ts m).length = 5 := by rw [dropT_of h]; simp [dropB]; exact h5
  have hlv : ∀ i, i ≠ m → (reAt (dropT ts m) i).live = (reAt ts i).live := fun i hi => by
    rw [drop_at hok h, if_neg hi, fI_live]
    split
    · rename_i he; subst he; rfl
    · rfl
  have hpar : ∀ i, i ≠ m → (reAt (dropT ts m) i).par = if (reAt ts i).par = (m : Int) then (P : Int) else (reAt ts i).par := fun i hi => by
    rw [drop_at hok h, if_neg hi, fI_par]
    by_cases he : i = P
    · subst he; simp only [if_true]; rfl
    · simp only [if_neg he]
  refine treeOk_by hlen ?_ ?_ (fun i hi => ?_) (by rw [s1, s2, s3]; exact hs) (fun i hi => ?_) (fun i hi hlvi => ?_)
  · rw [hlv 0 (by omega)]; exact hr
  · rw [hpar 0 (by omega), hrp, if_neg (by omega)]
  · rw [drop_at hok h]
    by_cases he : i = m
    · rw [if_pos he]; decide
    · rw [if_neg he, fI_a, fI_b, fI_c]
      by_cases h2 : i = P
      · rw [if_pos h2]
        have := h.add
        unfold addOk at this
        simp only [Bool.and_eq_true] at this
        exact this.2
      · rw [if_neg h2]; exact treeOk_amts hok i hi
  · by_cases he : i = m
    · rw [drop_at hok h, if_pos he]; decide
    · cases hl : (reAt ts i).live with
      | true => rw [hlv i he, hl]; rfl
      | false =>
        have hz := dead_noRe hok hi hl
        have hiP : i ≠ P := fun e => by rw [e, h.lP] at hl; cases hl
        rw [drop_at hok h, if_neg he, if_neg hiP, hz, fI_none m P hm0]
        decide
  · have he : i ≠ m := fun e => by
      rw [drop_at hok h, if_pos e] at hlvi
      cases hlvi
    rw [hlv i he] at hlvi
    exact climb_past (by omega) h.par hm0 (fun e => hne e.symm) (by omega) hlv h.lP hpar 5 i he (live_climb hok hi hlvi)
/-- A new place below one that pays. -/
structure SplitAt (ts : List Re) (m F : Nat) (a b c : Int) : Prop where
  pay : PayAt ts m a b c
  free : FreeAt ts F
theorem splitAt_of {ts : List Re} {i a b c : Int} (h : splitOk ts i a b c = true) : ∃ m : Nat, i = (m : Int) ∧ SplitAt ts m (freeAt ts) a b c := by
  simp only [splitOk, Bool.and_eq_true, decide_eq_true_eq] at h
  obtain ⟨m, rfl, hp⟩ := payAt_of h.1
  rcases free_or ts with ⟨_, hf⟩ | hf
  · omega
  · exact ⟨m, rfl, hp, hf⟩
theorem SplitAt.facts {ts : List Re} {m F : Nat} {a b c : Int} (h : SplitAt ts m F a b c) : F < 5 ∧ 0 < F ∧ F ≠ m ∧ reAt ts F = noRe := by
  have h5 := treeOk_five h.pay.ok
  have hlt := h.free.lt
  have hno := h.free.no
  refine ⟨by omega, ?_, fun e => ?_, dead_noRe h.pay.ok (by omega) hno⟩
  · rcases Nat.eq_zero_or_pos F with e | e
    · rw [e, treeOk_rlive h.pay.ok] at hno; cases hno
    · exact e
  · rw [e, h.pay.lm] at hno; cases hno
def newR (i a b c : Int) : Re := ⟨true, i, a, b, c⟩
theorem split_at {ts : List Re} {m F : Nat} {a b c : Int} (h : SplitAt ts m F a b c) (i : Nat) : reAt ((payT ts (m : Int) a b c).set F (newR m a b c)) i = if i = F then newR m a b c else if i = m then ⟨(reAt ts m).live, (reAt ts m).par, (reAt ts m).a - a, (reAt ts m).b - b, (reAt ts m).c - c⟩ else reAt ts i := by
  have h5 := treeOk_five h.pay.ok
  have hm := h.pay.hm
  obtain ⟨hF, _, _, _⟩ := h.facts
  by_cases h1 : F = i
  · subst h1; rw [reAt_set _ _ _ (by rw [payT_length]; omega), if_pos rfl]
  · rw [reAt_other _ _ _ _ h1, if_neg (fun e => h1 e.symm), payT_nat]
    by_cases h2 : m = i
    · subst h2; rw [reAt_set _ _ _ (by omega), if_pos rfl]
    · rw [reAt_other _ _ _ _ h2, if_neg (fun e => h2 e.symm)]
theorem sums_split {ts : List Re} {m F : Nat} {a b c : Int} (h : SplitAt ts m F a b c) : sumN Re.a ((payT ts (m : Int) a b c).set F (newR m a b c)) 5 = sumN Re.a ts 5 ∧ sumN Re.b ((payT ts (m : Int) a b c).set F (newR m a b c)) 5 = sumN Re.b ts 5 ∧ sumN Re.c ((payT ts (m : Int) a b c).set F (newR m a b c)) 5 = sumN Re.c ts 5 := by
  have h5 := treeOk_five h.pay.ok
  obtain ⟨hF, _, hFm, hz⟩ := h.facts
  obtain ⟨s1, s2, s3⟩ := sum_pay h.pay
  have hlen : (payT ts (m : Int) a b c).length = 5 := by rw [payT_length]; exact h5
  have hold : reAt (payT ts (m : Int) a b c) F = noRe := by rw [payT_nat, reAt_other _ _ _ _ (fun e => hFm e.symm)]; exact hz
  refine ⟨?_, ?_, ?_⟩
  · rw [sumN_setG Re.a _ F _ (by omega), if_pos hF, hold, s1]; simp [valR, newR, noRe]
  · rw [sumN_setG Re.b _ F _ (by omega), if_pos hF, hold, s2]; simp [valR, newR, noRe]
  · rw [sumN_setG Re.c _ F _ (by omega), if_pos hF, hold, s3]; simp [valR, newR, noRe]
theorem climb_more {ts us : List Re} {F : Nat} (hl : us.length = ts.length) (hF : (reAt ts F).live = false) (hlv : ∀ i, i ≠ F → (reAt us i).live = (reAt ts i).live) (hpar : ∀ i, i ≠ F → (reAt us i).par = (reAt ts i).par) : ∀ (n A : Nat), A ≠ F → climb ts n (A : Int) = true → climb us n (A : Int) = true := by
  intro n
  induction n with
  | zero => intro A _ h; cases h
  | succ n ih =>
    intro A hA h
    by_cases h0 : A = 0
    · subst h0; exact climb_zero us n
    · obtain ⟨k, q, hk, hq, hql, hc⟩ := climb_next (by omega) h
      obtain rfl : n = k := by omega
      rw [climb_up ts n A (by omega), hq] at h
      simp only [Bool.and_eq_true] at h
      have h1 := h.1
      rw [livePl_nat hql] at h1
      have hqF : q ≠ F := fun e => by rw [e, hF] at h1; cases h1
      rw [climb_up us n A (by omega), hpar A hA, hq, livePl_nat (by omega), hlv q hqF, h1, ih q hqF hc]
      rfl
set_option maxRecDepth 100000 in
theorem steps_six : ∀ a b c d i : Fin 5, stepsF a b c d 6 i = 0 → stepsF a b c d 4 i = 0 := by decide +kernel
theorem upN_six (ts : List Re) (hx : ∀ i, 0 < i → i < 5 → ∃ m : Fin 5, (reAt ts i).par = ((m : Nat) : Int)) (A : Nat) (hA : A < 5) (h : upN ts 6 (A : Int) = 0) : upN ts 4 (A : Int) = 0 := by
  obtain ⟨a, ha⟩ := hx 1 (by omega) (by omega)
  obtain ⟨b, hb⟩ := hx 2 (by omega) (by omega)
  obtain ⟨c, hc⟩ := hx 3 (by omega) (by omega)
  obtain ⟨d, hd⟩ := hx 4 (by omega) (by omega)
  have hs : ∀ (n : Nat) (i : Fin 5), upN ts n ((i : Nat) : Int) = ((stepsF a b c d n i : Nat) : Int) := by
    intro n
    induction n with
    | zero => intro i; rfl
    | succ n ih =>
      intro i
      by_cases h0 : i = 0
      · subst h0; simp [upN, stepsF]
      · have hi : 0 < (i : Nat) := by have : (i : Nat) ≠ 0 := fun e => h0 (Fin.ext e); omega
        rw [upN_step ts n i hi]
        have e : (reAt ts i).par = ((tabF a b c d i : Nat) : Int) := by
          have hi5 := i.2
          have hcase : i = 1 ∨ i = 2 ∨ i = 3 ∨ i = 4 := by
            have : (i : Nat) = 1 ∨ (i : Nat) = 2 ∨ (i : Nat) = 3 ∨ (i : Nat) = 4 := by omega
            rcases this with h | h | h | h
            · exact .inl (Fin.ext h)
            · exact .inr (.inl (Fin.ext h))
            · exact .inr (.inr (.inl (Fin.ext h)))
            · exact .inr (.inr (.inr (Fin.ext h)))
          rcases hcase with rfl | rfl | rfl | rfl
          · exact ha
          · exact hb
          · exact hc
          · exact hd
        rw [e, ih]
        simp [stepsF, h0]
  have h5 := hs 6 ⟨A, hA⟩
  have h4 := hs 4 ⟨A, hA⟩
  simp only at h5 h4
  rw [h] at h5
  rw [h4]
  have := steps_six a b c d ⟨A, hA⟩ (Fin.ext (by have : ((stepsF a b c d 6 ⟨A, hA⟩ : Nat) : Int) = 0 := h5.symm; simpa using this))
  rw [this]
  rfl
theorem climb_of (ts : List Re) : ∀ (n N A : Nat), climb ts N (A : Int) = true → upN ts n (A : Int) = 0 → climb ts (n + 1) (A : Int) = true := by
  intro n
  induction n with
  | zero => intro N A _ h; simp [upN] at h; subst h; exact climb_zero ts 0
  | succ n ih =>
    intro N A hc h
    by_cases h0 : A = 0
    · subst h0; exact climb_zero ts _
    · obtain ⟨k, q, hk, hq, hql, hcq⟩ := climb_next (by omega) hc
      subst hk
      rw [upN_step ts n A (by omega), hq] at h
      rw [climb_up ts k A (by omega), hq] at hc
      simp only [Bool.and_eq_true] at hc
      rw [climb_up ts (n + 1) A (by omega), hq, hc.1, ih k q hcq h]
      rfl
theorem treeOk_split {ts : List Re} {m F : Nat} {a b c : Int} (h : SplitAt ts m F a b c) : treeOk ((payT ts (m : Int) a b c).set F (newR m a b c)) = true := by
  have hok := h.pay.ok
  have h5 := treeOk_five hok
  have hm := h.pay.hm
  obtain ⟨hF, hF0, hFm, hz⟩ := h.facts
  obtain ⟨_, hr, hrp, hpl, _, hs⟩ := treeOk_parts hok
  obtain ⟨s1, s2, s3⟩ := sums_split h
  obtain ⟨b1, b2, b3, b4⟩ := h.pay.bounds
  have la := h.pay.la
  have lb := h.pay.lb
  have lc := h.pay.lc
  obtain ⟨us, hus⟩ : ∃ u, u = (payT ts (m : Int) a b c).set F (newR m a b c) := ⟨_, rfl⟩
  have hat : ∀ i, reAt us i = if i = F then newR m a b c else if i = m then ⟨(reAt ts m).live, (reAt ts m).par, (reAt ts m).a - a, (reAt ts m).b - b, (reAt ts m).c - c⟩ else reAt ts i := fun i => by rw [hus]; exact split_at h i
  have hlen : us.length = 5 := by rw [hus, List.length_set, payT_length]; exact h5
  rw [← hus] at s1 s2 s3 ⊢
  clear hus
  have hlv : ∀ i, i ≠ F → (reAt us i).live = (reAt ts i).live := fun i hi => by
    rw [hat, if_neg hi]
    split
    · rename_i he; subst he; rfl
    · rfl
  have hpar : ∀ i, i ≠ F → (reAt us i).par = (reAt ts i).par := fun i hi => by
    rw [hat, if_neg hi]
    split
    · rename_i he; subst he; rfl
    · rfl
  have hnF : reAt us F = newR m a b c := by rw [hat, if_pos rfl]
  have hold : ∀ n A, A ≠ F → climb ts n (A : Int) = true → climb us n (A : Int) = true := climb_more (by omega) h.free.no hlv hpar
  have hcF : climb us 5 (F : Int) = true := by
    have h6 : climb us 6 (F : Int) = true := by
      rw [climb_up us 5 F hF0, hnF]
      show (livePl us (m : Int) && climb us 5 (m : Int)) = true
      rw [livePl_nat (by omega), hlv m (fun e => hFm e.symm), h.pay.lm, hold 5 m (fun e => hFm e.symm) (live_climb hok hm h.pay.lm)]
      rfl
    refine climb_of us 4 6 F h6 (upN_six us (fun i h0 h5' => ?_) F hF (climb_upN us 6 F h6))
    by_cases he : i = F
    · subst he; rw [hnF]; exact ⟨⟨m, hm⟩, rfl⟩
    · rw [hpar i he]
      cases hl : (reAt ts i).live with
      | false => rw [dead_noRe hok h5' hl]; exact ⟨0, rfl⟩
      | true =>
        obtain ⟨q, hq, hq5, _⟩ := parOk_up (hpl i h5').2 h0 hl
        exact ⟨⟨q, hq5⟩, hq⟩
  refine treeOk_by hlen ?_ ?_ (fun i hi => ?_) (by rw [s1, s2, s3]; exact hs) (fun i hi => ?_) (fun i hi hlvi => ?_)
  · rw [hlv 0 (by omega)]; exact hr
  · rw [hpar 0 (by omega)]; exact hrp
  · rw [hat]
    by_cases he : i = F
    · rw [if_pos he]; exact h.pay.am
    · rw [if_neg he]
      by_cases h2 : i = m
      · rw [if_pos h2]; exact amtOk_mk (by simp only; omega) (by simp only; omega) (by simp only; omega)
      · rw [if_neg h2]; exact treeOk_amts hok i hi
  · by_cases he : i = F
    · subst he; rw [hnF]; rfl
    · cases hl : (reAt ts i).live with
      | true => rw [hlv i he, hl]; rfl
      | false =>
        have him : i ≠ m := fun e => by rw [e, h.pay.lm] at hl; cases hl
        rw [hat, if_neg he, if_neg him, dead_noRe hok hi hl]
        decide
  · by_cases he : i = F
    · subst he; exact hcF
    · rw [hlv i he] at hlvi
      exact hold 5 i he (live_climb hok hi hlvi)
/-- What is split off is dropped again: nothing has changed. -/
theorem drop_split {ts : List Re} {m F : Nat} {a b c : Int} (h : SplitAt ts m F a b c) : dropOk ((payT ts (m : Int) a b c).set F (newR m a b c)) (F : Int) = true ∧ dropOf ((payT ts (m : Int) a b c).set F (newR m a b c)) (F : Int) = ts := by
  have hok := h.pay.ok
  have h5 := treeOk_five hok
  have hm := h.pay.hm
  obtain ⟨hF, hF0, hFm, hz⟩ := h.facts
  obtain ⟨_, hr, hrp, hpl, _, hs⟩ := treeOk_parts hok
  have hx := treeOk_split h
  have hat := split_at h
  obtain ⟨us, hus⟩ : ∃ u, u = (payT ts (m : Int) a b c).set F (newR m a b c) := ⟨_, rfl⟩
  have hlen : us.length = 5 := by rw [hus, List.length_set, payT_length]; exact h5
  rw [← hus] at hx ⊢
  simp only [← hus] at hat
  clear hus
  have hnF : reAt us F = newR m a b c := by rw [hat, if_pos rfl]
  have hnm : reAt us m = ⟨(reAt ts m).live, (reAt ts m).par, (reAt ts m).a - a, (reAt ts m).b - b, (reAt ts m).c - c⟩ := by rw [hat, if_neg (fun e => hFm e.symm), if_pos rfl]
  have hdo : dropOk us (F : Int) = true := by
    unfold dropOk liveIn
    rw [hx, Int.toNat_natCast, hnF]
    simp [newR]; omega
  have hD : DropAt us F m := by
    refine ⟨hF, hF0, hm, hFm, by rw [hnF]; rfl, by rw [hnm]; exact h.pay.lm, by rw [hnF]; rfl, ?_⟩
    exact addOk_two hx hFm hF hm (by rw [hnF]; rfl) (by rw [hnm]; exact h.pay.lm)
  refine ⟨hdo, ?_⟩
  have e : dropOf us (F : Int) = dropT us F := by simp [dropOf, hdo]
  rw [e]
  refine re_ext _ _ (by rw [dropT_of hD]; simp [dropB]; omega) fun i hi => ?_
  have hi5 : i < 5 := by rw [dropT_of hD] at hi; simp [dropB] at hi; omega
  have hnp : ∀ j, j < 5 → (reAt ts j).par ≠ (F : Int) := fun j hj hp => by
    cases hl : (reAt ts j).live with
    | false =>
      rw [dead_noRe hok hj hl] at hp
      have : (0 : Int) = (F : Int) := hp
      omega
    | true =>
      by_cases h0 : j = 0
      · subst h0; rw [hrp] at hp; omega
      · obtain ⟨q, hq, hq5, hql⟩ := parOk_up (hpl j hj).2 (by omega) hl
        rw [hq] at hp
        have : q = F := by omega
        rw [this, h.free.no] at hql
        cases hql
  have hfx : ∀ j, j < 5 → fI F (m : Int) (reAt ts j) = reAt ts j := fun j hj => by unfold fI; rw [if_neg (hnp j hj)]
  rw [drop_at hx hD]
  by_cases he : i = F
  · rw [if_pos he, he]; exact hz.symm
  · rw [if_neg he]
    by_cases h2 : i = m
    · rw [if_pos h2, h2, hnm, hnF]
      have e2 : addR ⟨(reAt ts m).live, (reAt ts m).par, (reAt ts m).a - a, (reAt ts m).b - b, (reAt ts m).c - c⟩ (newR m a b c).a (newR m a b c).b (newR m a b c).c = reAt ts m := by
        unfold addR newR
        simp
      rw [e2]
      exact hfx m hm
    · rw [if_neg h2, hat, if_neg he, if_neg h2]
      exact hfx i hi5
end Go.Proofs.YtikaibfahanpnaaDoor
namespace Go.Proofs.YtikaibfahanpnaaDoor
open Go.RowKit
set_option linter.unusedVariables false
set_option maxRecDepth 100000

theorem sumT_ok {ts : List Re} (h : treeOk ts = true) (f : Re → Int) : sumT f ts = sumN f ts 5 := by simp [sumT, h]
theorem sumT_no {ts : List Re} (h : treeOk ts = false) (f : Re → Int) : sumT f ts = 0 := by simp [sumT, h]
/-- A right tree whose sum is the same. -/
structure SameSum (ts us : List Re) : Prop where
  ok : treeOk us = true
  a : sumT Re.a us = sumT Re.a ts
  b : sumT Re.b us = sumT Re.b ts
  c : sumT Re.c us = sumT Re.c ts
theorem sameSum_refl {ts : List Re} (h : treeOk ts = true) : SameSum ts ts := ⟨h, rfl, rfl, rfl⟩
theorem sameSum_of {ts us : List Re} (hok : treeOk ts = true) (h : treeOk us = true) (hs : sumN Re.a us 5 = sumN Re.a ts 5 ∧ sumN Re.b us 5 = sumN Re.b ts 5 ∧ sumN Re.c us 5 = sumN Re.c ts 5) : SameSum ts us :=
  ⟨h, by rw [sumT_ok h, sumT_ok hok, hs.1], by rw [sumT_ok h, sumT_ok hok, hs.2.1], by rw [sumT_ok h, sumT_ok hok, hs.2.2]⟩
theorem split_not {ts : List Re} {i a b c : Int} (h : treeOk ts = false) : splitOk ts i a b c = false := by simp [splitOk, payOk, liveIn, h]
theorem split_sum {ts : List Re} {i a b c : Int} (hok : treeOk ts = true) : SameSum ts (splitOf ts i a b c) := by
  cases h : splitOk ts i a b c with
  | false => rw [(split_no h).1]; exact sameSum_refl hok
  | true =>
    rw [(split_yes h).1]
    obtain ⟨m, rfl, hs⟩ := splitAt_of h
    exact sameSum_of hok (treeOk_split hs) (sums_split hs)
theorem split_told {ts : List Re} {i a b c : Int} (hok : treeOk ts = true) :
    (splitOk ts i a b c = true ∧ ∃ F : Nat, splitK ts i a b c = (F : Int) ∧ 0 < F ∧ F < 5 ∧ reAt (splitOf ts i a b c) F = ⟨true, i, a, b, c⟩ ∧ (reAt ts F).live = false ∧ dropOk (splitOf ts i a b c) (splitK ts i a b c) = true ∧ dropOf (splitOf ts i a b c) (splitK ts i a b c) = ts) ∨ (splitOk ts i a b c = false ∧ splitOf ts i a b c = ts) := by
  cases h : splitOk ts i a b c with
  | false => exact .inr ⟨rfl, (split_no h).1⟩
  | true =>
    left
    obtain ⟨e1, e2⟩ := split_yes h
    obtain ⟨m, rfl, hs⟩ := splitAt_of h
    obtain ⟨hF, h0, _, _⟩ := hs.facts
    obtain ⟨d1, d2⟩ := drop_split hs
    refine ⟨rfl, freeAt ts, e2, h0, hF, ?_, hs.free.no, ?_, ?_⟩
    · rw [e1]
      exact reAt_set _ _ _ (by rw [payT_length, treeOk_five hok]; exact hF)
    · rw [e1, e2]; exact d1
    · rw [e1, e2]; exact d2
theorem pay_told {ts : List Re} {i a b c : Int} :
    (payOk ts i a b c = true ∧ treeOk (payOf ts i a b c) = true ∧ backOk (payOf ts i a b c) a b c = true ∧ backOf (payOf ts i a b c) i a b c = ts) ∨ (payOk ts i a b c = false ∧ payOf ts i a b c = ts) := by
  cases h : payOk ts i a b c with
  | false => exact .inr ⟨rfl, by simp [payOf, h]⟩
  | true =>
    left
    obtain ⟨m, rfl, hp⟩ := payAt_of h
    have e : payOf ts (m : Int) a b c = payT ts (m : Int) a b c := by simp [payOf, h]
    rw [e]
    exact ⟨rfl, treeOk_pay hp, back_pay hp, backOf_pay hp⟩
theorem give_told {ts : List Re} {i a b c : Int} {k : Nat} (hok : treeOk ts = true) : SameSum ts (giveOf ts i (k : Int) a b c) ∧ (giveOk ts i (k : Int) a b c = false → giveOf ts i (k : Int) a b c = ts) := by
  cases h : giveOk0 ts i (k : Int) a b c with
  | false =>
    have e : giveOf ts i (k : Int) a b c = ts := by simp [giveOf, h]
    rw [e]
    exact ⟨sameSum_refl hok, fun _ => rfl⟩
  | true =>
    obtain ⟨h1, h2⟩ := treeOk_give h
    refine ⟨sameSum_of hok h1 h2, fun hn => ?_⟩
    have h3 := h
    simp only [giveOk0, Bool.and_eq_true] at h3
    obtain ⟨m, rfl, hp⟩ := payAt_of h3.2
    have := back_pay hp
    rw [giveOk, h, this] at hn
    cases hn
theorem drop_told {ts : List Re} {i : Int} (hok : treeOk ts = true) : SameSum ts (dropOf ts i) := by
  cases h : dropOk ts i with
  | false =>
    have e : dropOf ts i = ts := by simp [dropOf, h]
    rw [e]; exact sameSum_refl hok
  | true =>
    obtain ⟨m, P, rfl, hD⟩ := dropAt_of h
    have e : dropOf ts (m : Int) = dropT ts m := by simp [dropOf, h]
    rw [e]
    exact sameSum_of hok (treeOk_drop hok hD) (sums_drop hok hD)
theorem up_told {ts : List Re} {j : Nat} (hok : treeOk ts = true) (hj : j < 5) (h0 : 0 < j) (hl : (reAt ts j).live = true) : dropOk ts (j : Int) = true ∧ ∃ n : Nat, (aboveOf ts (j : Int)).length = n + 1 ∧ (aboveOf ts (j : Int)).getD 0 0 = (reAt ts j).par ∧ (aboveOf ts (j : Int)).getD n 0 = 0 := by
  obtain ⟨xs, h1, h2⟩ := above_of hok hj h0 hl
  refine ⟨?_, xs.length, by rw [h1]; simp, h2, by rw [h1]; simp⟩
  unfold dropOk liveIn
  rw [hok, Int.toNat_natCast, hl]
  simp; omega
end Go.Proofs.YtikaibfahanpnaaDoor
