/-
  A thing of an arena of the call's own is bent: one of its cells, or a list that is appended to. An arena is drawn that may be bent. One thing is drawn. What FnReached draws. What FnArena draws.
-/
import Derived.ArgAppend
import Derived.Test.YtokicnopfmokaaaCopy9
import Derived.Test.YtokicnopfmokaaaLead
import Derived.Test.YtokicnopfmokaaaPut9
namespace Go.Proofs.Ytokicnopfmokaaa
open Go.RowKit
set_option linter.unusedVariables false
set_option maxRecDepth 100000

theorem blk_own {v : Value} {b : Nat} (h : b ∈ Go.Proofs.Ytokicnopfmokaaa.blk v) : v.ownBlock = some b := by
  unfold Go.Proofs.Ytokicnopfmokaaa.blk at h
  split at h
  · simp at h; subst h; rfl
  · cases h
/-- append onto a list of the call's own, wherever it lies. -/
theorem run_appI (W : World) (lo hi : Nat) (v : Value) (xs new : List Int) (ty : TypeId) (h : OwnI lo hi W v xs) (hlo : lo ≤ W.heap.size) (hhi : hi ≤ W.heap.size) (g k c : Nat) (hk : new.length = k) (h0 : 0 < k) (hcell : ∀ (j : Nat) u, (icells new)[j]? = some u → W.cell? ⟨g, j, none⟩ = some u) (hb : xs.length + k ≤ 1048576) :
    ∃ v' w', (Builtin.append_ #[25, 25] ty #[v, .slice (some ⟨g, 0, none⟩) k c]).run Try.prog W = .ok v' w' ∧ OwnI lo w'.heap.size w' v' (xs ++ new) ∧ (∃ r, W.grownBy w' r ∧ ∀ b, r = some b → b ∈ Go.Proofs.Ytokicnopfmokaaa.blk v) ∧ ∀ b, b ∈ Go.Proofs.Ytokicnopfmokaaa.blk v' → b ∈ Go.Proofs.Ytokicnopfmokaaa.blk v ∨ W.heap.size ≤ b := by
  subst hk
  obtain ⟨i0, hi0, hz0, hz1, hz2⟩ := info_parts info3
  have hcell' : ∀ (j : Nat) u, (icells new)[j]? = some u → W.cell? ((⟨g, 0, none⟩ : Addr).add j) = some u := fun j u hj => by rw [add_head]; exact hcell j u hj
  have hln : (icells new).length = new.length * 1 := by rw [icells_length]; omega
  obtain ⟨a, cap, rfl, hc, hx⟩ := h
  by_cases hz : cap = 0
  · subst hz
    obtain rfl : xs = [] := List.length_eq_zero_iff.1 (by omega)
    have hone : ∃ v' w', (Builtin.append_ #[25, 25] ty #[.slice a 0 0, .slice (some ⟨g, 0, none⟩) new.length c]).run Try.prog W = .ok v' w' ∧ w'.ownsRow W.heap.size 3 1 v' (0 + new.length) ([] ++ icells new) ∧ W.grownBy w' none := by
      cases a with
      | none =>
        obtain ⟨v', w', hr, h2, h3, h4, h5⟩ := run_append_own_at (P := Try.prog) W W.heap.size 25 ty 3 i0 _ 1 8 Try.underlying25 hi0 hz0 hz1 hz2 rfl (by decide) (.slice none 0 0) 0 [] (World.ownsRow_nil _ _ _ _) ⟨g, 0, none⟩ new.length c (icells new) hln hcell' (icells_one _) (by simp only [maxLen]; omega) (by omega) (Nat.le_refl _)
        exact ⟨v', w', hr, h2, h3⟩
      | some p => exact run_append_arg_grows (P := Try.prog) W 25 ty 3 i0 _ 1 8 Try.underlying25 hi0 hz0 hz1 hz2 rfl (by decide) p 0 0 [] (by simp) (fun j u hj => by simp at hj) ⟨g, 0, none⟩ new.length c (icells new) hln hcell' (by omega) (by simp only [maxLen]; omega) (by omega)
    obtain ⟨v', w', hr, h2, h3⟩ := hone
    have h2' : w'.ownsRow W.heap.size 3 1 v' new.length (icells new) := by simpa using h2
    have ho := ownI_row h2'
    refine ⟨v', w', hr, ho.move (fun _ _ _ _ x => x) hlo (Nat.le_refl _), ⟨none, h3, fun b e => by cases e⟩, fun b hb' => .inr (ho.blk hb').1⟩
  · obtain ⟨q, rs, rfl, h1, h2, h3, h4, h5⟩ := hx hz
    have hown : W.ownsRow lo 3 1 (.slice (some ⟨q, 0, none⟩) xs.length cap) xs.length (icells xs) := ⟨by rw [icells_length]; omega, .inr ⟨q, cap, (icells xs ++ rs).toArray, rfl, h1, h3, hc, h5, by simp [icells_length]; omega, by simp [icells_length]⟩⟩
    obtain ⟨v', w', hr, r2, r3, r4, r5⟩ := run_append_own_at (P := Try.prog) W lo 25 ty 3 i0 _ 1 8 Try.underlying25 hi0 hz0 hz1 hz2 rfl (by decide) _ xs.length _ hown ⟨g, 0, none⟩ new.length c (icells new) hln hcell' (icells_one _) (by simp only [maxLen]; omega) (by omega) hlo
    have r2' : w'.ownsRow lo 3 1 v' (xs ++ new).length (icells (xs ++ new)) := by rw [icells_append, List.length_append]; exact r2
    have hbq : Go.Proofs.Ytokicnopfmokaaa.blk (.slice (some ⟨q, 0, none⟩) xs.length cap) = [q] := blk_one _ hz
    refine ⟨v', w', hr, ownI_row r2', ⟨_, r3, fun b e => ?_⟩, fun b hb' => ?_⟩
    · rw [hbq]
      simp [Value.ownBlock] at e
      simp [e]
    · have e := blk_own hb'
      rw [hbq]
      rcases r5 with r5 | r5 <;> rw [e] at r5
      · simp [Value.ownBlock] at r5
        left; simp [r5]
      · simp at r5
        right; omega
theorem run_appM (W : World) (lo hi : Nat) (v : Value) (xs new : List Ms) (ty : TypeId) (h : OwnM lo hi W v xs) (hlo : lo ≤ W.heap.size) (hhi : hi ≤ W.heap.size) (g k c : Nat) (hk : new.length = k) (h0 : 0 < k) (hcell : ∀ (j : Nat) u, (mcells new)[j]? = some u → W.cell? ⟨g, j, none⟩ = some u) (hb : xs.length + k ≤ 1048576) :
    ∃ v' w', (Builtin.append_ #[26, 26] ty #[v, .slice (some ⟨g, 0, none⟩) k c]).run Try.prog W = .ok v' w' ∧ OwnM lo w'.heap.size w' v' (xs ++ new) ∧ (∃ r, W.grownBy w' r ∧ ∀ b, r = some b → b ∈ Go.Proofs.Ytokicnopfmokaaa.blk v) ∧ ∀ b, b ∈ Go.Proofs.Ytokicnopfmokaaa.blk v' → b ∈ Go.Proofs.Ytokicnopfmokaaa.blk v ∨ W.heap.size ≤ b := by
  subst hk
  obtain ⟨i0, hi0, hz0, hz1, hz2⟩ := info_parts infoMsg
  have hcell' : ∀ (j : Nat) u, (mcells new)[j]? = some u → W.cell? ((⟨g, 0, none⟩ : Addr).add j) = some u := fun j u hj => by rw [add_head]; exact hcell j u hj
  have hln : (mcells new).length = new.length * 2 := by rw [mcells_length]
  obtain ⟨a, cap, rfl, hc, hx⟩ := h
  by_cases hz : cap = 0
  · subst hz
    obtain rfl : xs = [] := List.length_eq_zero_iff.1 (by omega)
    have hone : ∃ v' w', (Builtin.append_ #[26, 26] ty #[.slice a 0 0, .slice (some ⟨g, 0, none⟩) new.length c]).run Try.prog W = .ok v' w' ∧ w'.ownsRow W.heap.size 63 2 v' (0 + new.length) ([] ++ mcells new) ∧ W.grownBy w' none := by
      cases a with
      | none =>
        obtain ⟨v', w', hr, h2, h3, h4, h5⟩ := run_append_own_at (P := Try.prog) W W.heap.size 26 ty 63 i0 _ 2 16 Try.underlying26 hi0 hz0 hz1 hz2 rfl (by decide) (.slice none 0 0) 0 [] (World.ownsRow_nil _ _ _ _) ⟨g, 0, none⟩ new.length c (mcells new) hln hcell' (mcells_one _) (by simp only [maxLen]; omega) (by omega) (Nat.le_refl _)
        exact ⟨v', w', hr, h2, h3⟩
      | some p => exact run_append_arg_grows (P := Try.prog) W 26 ty 63 i0 _ 2 16 Try.underlying26 hi0 hz0 hz1 hz2 rfl (by decide) p 0 0 [] (by simp) (fun j u hj => by simp at hj) ⟨g, 0, none⟩ new.length c (mcells new) hln hcell' (by omega) (by simp only [maxLen]; omega) (by omega)
    obtain ⟨v', w', hr, h2, h3⟩ := hone
    have h2' : w'.ownsRow W.heap.size 63 2 v' new.length (mcells new) := by simpa using h2
    have ho := ownM_row h2'
    refine ⟨v', w', hr, ho.move (fun _ _ _ _ x => x) hlo (Nat.le_refl _), ⟨none, h3, fun b e => by cases e⟩, fun b hb' => .inr (ho.blk hb').1⟩
  · obtain ⟨q, rs, rfl, h1, h2, h3, h4, h5⟩ := hx hz
    have hown : W.ownsRow lo 63 2 (.slice (some ⟨q, 0, none⟩) xs.length cap) xs.length (mcells xs) := ⟨by rw [mcells_length], .inr ⟨q, cap, (mcells xs ++ rs).toArray, rfl, h1, h3, hc, h5, by simp [mcells_length]; omega, by simp [mcells_length]⟩⟩
    obtain ⟨v', w', hr, r2, r3, r4, r5⟩ := run_append_own_at (P := Try.prog) W lo 26 ty 63 i0 _ 2 16 Try.underlying26 hi0 hz0 hz1 hz2 rfl (by decide) _ xs.length _ hown ⟨g, 0, none⟩ new.length c (mcells new) hln hcell' (mcells_one _) (by simp only [maxLen]; omega) (by omega) hlo
    have r2' : w'.ownsRow lo 63 2 v' (xs ++ new).length (mcells (xs ++ new)) := by rw [mcells_append, List.length_append]; exact r2
    have hbq : Go.Proofs.Ytokicnopfmokaaa.blk (.slice (some ⟨q, 0, none⟩) xs.length cap) = [q] := blk_one _ hz
    refine ⟨v', w', hr, ownM_row r2', ⟨_, r3, fun b e => ?_⟩, fun b hb' => ?_⟩
    · rw [hbq]
      simp [Value.ownBlock] at e
      simp [e]
    · have e := blk_own hb'
      rw [hbq]
      rcases r5 with r5 | r5 <;> rw [e] at r5
      · simp [Value.ownBlock] at r5
        left; simp [r5]
      · simp at r5
        right; omega
/-- One cell of a thing is written: not one of its lists. -/
theorem OwnA.bend {g cap : Nat} {es : List El} {rest : List Value} {lo hi : Nat} {w : World} (h : OwnA g cap es rest lo hi w) {k : Nat} (hk : k < es.length) (j : Nat) (x : Int) (o' : Ob) (hj : j < 13) (hl : o'.ls = (elAt es k).o.ls ∧ o'.ds = (elAt es k).o.ds ∧ o'.qs = (elAt es k).o.qs)
    (he : elV ⟨o', (elAt es k).l, (elAt es k).d, (elAt es k).m⟩ = (elV (elAt es k)).set j (.int .i64 x)) :
    OwnA g cap (es.set k ⟨o', (elAt es k).l, (elAt es k).d, (elAt es k).m⟩) rest lo hi (w.setCell ⟨g, k * 13 + j, none⟩ (.int .i64 x)) := by
  have hgz := lt_of_block h.at'
  have hoo := h.own k hk
  have hne := h.ne k hk
  have HTW : Touch [g] w (w.setCell ⟨g, k * 13 + j, none⟩ (.int .i64 x)) := touch_one (grownBy_set w g _ _) hgz
  have hk3 : ∀ b y, b ∈ blks (elAt es k) → w.heap[b]? = some y → (w.setCell ⟨g, k * 13 + j, none⟩ (.int .i64 x)).heap[b]? = some y := fun b y hb hy => HTW.block _ _ (by simp; intro e; rw [e] at hb; exact hne hb) hy
  refine h.mark hk (o' := o') ?_ ⟨by rw [hl.1]; exact hoo.ls.keepIf fun b y hb hy => hk3 b y (by unfold blks; simp [hb]) hy, by rw [hl.2.1]; exact hoo.ds.keepIf fun b y hb hy => hk3 b y (by unfold blks; simp [hb]) hy, by rw [hl.2.2]; exact hoo.qs.keepIf fun b y hb hy => hk3 b y (by unfold blks; simp [hb]) hy, hoo.nd⟩ (fun b y hbg _ hy => HTW.block _ _ (by simpa using hbg) hy)
  have e := heap_setCell_same w g (k * 13 + j) _ 28 (.int .i64 x) h.at'
  rw [e, ecells_put1 hk rest ⟨o', (elAt es k).l, (elAt es k).d, (elAt es k).m⟩ j (.int .i64 x) hj he]
  simp only [List.setIfInBounds_toArray]
/-- The first k things of an arena. -/
theorem OwnA.take {g cap : Nat} {es : List El} {rest : List Value} {lo hi : Nat} {w : World} (h : OwnA g cap es rest lo hi w) (k : Nat) (hk : k ≤ es.length) : OwnA g cap (es.take k) (ecells (es.drop k) ++ rest) lo hi w := by
  have hlen : (es.take k).length = k := by simp; omega
  have hat : ∀ i, i < k → elAt (es.take k) i = elAt es i := fun i hi => by
    unfold elAt
    rw [List.getD_eq_getElem?_getD, List.getD_eq_getElem?_getD, List.getElem?_take]
    simp [hi]
  refine ⟨?_, by rw [hlen]; exact Nat.le_trans hk h.cap, h.lo, h.hi, fun i hi0 => ?_, fun i hi0 => ?_, fun i j hij hj => ?_⟩
  · rw [← List.append_assoc, ← ecells_append, List.take_append_drop]
    exact h.at'
  · rw [hlen] at hi0
    rw [hat i hi0]; exact h.own i (by omega)
  · rw [hlen] at hi0
    rw [hat i hi0]; exact h.ne i (by omega)
  · rw [hlen] at hj
    rw [hat i (by omega), hat j hj]; exact h.apart i j hij (by omega)
/-- A thing's lists are other ones now: where they were, or behind all that was there. -/
theorem OwnA.relist {g cap : Nat} {es : List El} {rest : List Value} {lo hi hi' : Nat} {w w1 : World} (h : OwnA g cap es rest lo hi w) {k : Nat} (hk : k < es.length) (hh : hi ≤ hi') {o' : Ob} {l' d' m' : Value} (ho : OwnO lo hi' w1 l' d' m' o')
    (hg : w1.heap[g]? = some (.cells (ecells (es.set k ⟨o', l', d', m'⟩) ++ rest).toArray 28 (0, 0)))
    (hother : ∀ b x, b ≠ g → b ∉ blks (elAt es k) → w.heap[b]? = some x → w1.heap[b]? = some x)
    (hnew : ∀ b, b ∈ Go.Proofs.Ytokicnopfmokaaa.blk l' ++ Go.Proofs.Ytokicnopfmokaaa.blk d' ++ Go.Proofs.Ytokicnopfmokaaa.blk m' → b ∈ blks (elAt es k) ∨ hi ≤ b) : OwnA g cap (es.set k ⟨o', l', d', m'⟩) rest lo hi' w1 := by
  have hap : ∀ i, i ≠ k → i < es.length → ∀ b, b ∈ blks (elAt es i) → b ∉ blks (elAt es k) := fun i hne hi0 b hb hbk => by
    rcases Nat.lt_or_gt_of_ne hne with h1 | h1
    · exact h.apart i k h1 hk b hb hbk
    · exact h.apart k i h1 hi0 b hbk hb
  have hlt : ∀ i, i < es.length → ∀ b, b ∈ blks (elAt es i) → b < hi := fun i hi0 b hb => ((h.own i hi0).blk hb).2.1
  refine ⟨hg, by rw [List.length_set]; exact h.cap, h.lo, Nat.lt_of_lt_of_le h.hi hh, fun i hi0 => ?_, fun i hi0 => ?_, fun i j hij hj => ?_⟩
  · rw [List.length_set] at hi0
    by_cases he : k = i
    · subst he; rw [elAt_set_same hk]; exact ho
    · rw [elAt_set_other _ _ he]
      have hoo := h.own i hi0
      have kp : ∀ b x, b ∈ blks (elAt es i) → w.heap[b]? = some x → w1.heap[b]? = some x := fun b x hb hx => hother b x (fun e => h.ne i hi0 (e ▸ hb)) (hap i (fun e => he e.symm) hi0 b hb) hx
      exact OwnO.move (w := w1) ⟨hoo.ls.keepIf fun b x hb hx => kp b x (by unfold blks; simp [hb]) hx, hoo.ds.keepIf fun b x hb hx => kp b x (by unfold blks; simp [hb]) hx, hoo.qs.keepIf fun b x hb hx => kp b x (by unfold blks; simp [hb]) hx, hoo.nd⟩ (fun _ _ _ _ x => x) (Nat.le_refl _) hh
  · rw [List.length_set] at hi0
    by_cases he : k = i
    · subst he
      rw [elAt_set_same hk]
      intro hm
      rcases hnew g hm with h1 | h1
      · exact h.ne k hk h1
      · have := h.hi; omega
    · rw [elAt_set_other _ _ he]; exact h.ne i hi0
  · rw [List.length_set] at hj
    intro b hb hbj
    by_cases he : k = i
    · subst he
      rw [elAt_set_same hk] at hb
      rw [elAt_set_other _ _ (by omega)] at hbj
      rcases hnew b hb with h1 | h1
      · exact h.apart k j hij hj b h1 hbj
      · have := hlt j hj b hbj; omega
    · rw [elAt_set_other _ _ he] at hb
      by_cases he2 : k = j
      · subst he2
        rw [elAt_set_same hk] at hbj
        rcases hnew b hbj with h1 | h1
        · exact h.apart i k hij hj b hb h1
        · have := hlt i (by omega) b hb; omega
      · rw [elAt_set_other _ _ he2] at hbj
        exact h.apart i j hij hj b hb hbj
/-- Links that were appended to are stored. -/
theorem OwnA.appL {g cap : Nat} {es : List El} {rest : List Value} {lo hi : Nat} {w w' : World} (h : OwnA g cap es rest lo hi w) (hhi : hi ≤ w.heap.size) {k : Nat} (hk : k < es.length) {v' : Value} {ls' : List Int} {r : Option Nat} (ho : OwnI lo w'.heap.size w' v' ls') (hg : w.grownBy w' r) (hr : ∀ b, r = some b → b ∈ Go.Proofs.Ytokicnopfmokaaa.blk (elAt es k).l) (hb : ∀ b, b ∈ Go.Proofs.Ytokicnopfmokaaa.blk v' → b ∈ Go.Proofs.Ytokicnopfmokaaa.blk (elAt es k).l ∨ w.heap.size ≤ b) :
    OwnA g cap (es.set k ⟨{ (elAt es k).o with ls := ls' }, v', (elAt es k).d, (elAt es k).m⟩) rest lo w'.heap.size (w'.setCell ⟨g, k * 13 + 10, none⟩ v') := by
  have hoo := h.own k hk
  have hne := h.ne k hk
  have ap := apart_ld hoo
  have hbg : ∀ b, b ∈ Go.Proofs.Ytokicnopfmokaaa.blk v' → b ≠ g := fun b hb' e => by
    rcases hb b hb' with h1 | h1
    · exact hne (by unfold blks; rw [← e]; simp [h1])
    · have := h.hi; omega
  have hgr : r ≠ some g := fun e => hne (by unfold blks; simp [hr g e])
  have kp : ∀ b x, b ≠ g → b ∉ Go.Proofs.Ytokicnopfmokaaa.blk (elAt es k).l → w.heap[b]? = some x → (w'.setCell ⟨g, k * 13 + 10, none⟩ v').heap[b]? = some x := fun b x h1 h2 hx => setCell_keep (grown_kept hg hx (fun e => h2 (hr b e))) h1
  have hd : ∀ b, b ∈ Go.Proofs.Ytokicnopfmokaaa.blk (elAt es k).d → b ≠ g := fun b hb' e => hne (by unfold blks; rw [← e]; simp [hb'])
  have hm : ∀ b, b ∈ Go.Proofs.Ytokicnopfmokaaa.blk (elAt es k).m → b ≠ g := fun b hb' e => hne (by unfold blks; rw [← e]; simp [hb'])
  have hdl : ∀ b, b ∈ Go.Proofs.Ytokicnopfmokaaa.blk (elAt es k).d → b < w.heap.size := fun b hb' => (hoo.ds.blk hb').2.2
  have hml : ∀ b, b ∈ Go.Proofs.Ytokicnopfmokaaa.blk (elAt es k).m → b < w.heap.size := fun b hb' => (hoo.qs.blk hb').2.2
  have hsz := hg.size
  refine h.relist hk (by omega) (o' := { (elAt es k).o with ls := ls' }) (l' := v') (d' := (elAt es k).d) (m' := (elAt es k).m) ⟨?_, ?_, ?_, ?_⟩ ?_ (fun b x h1 h2 hx => kp b x h1 (fun e => h2 (by unfold blks; simp [e])) hx) (fun b hb' => ?_)
  · exact ho.keepIf fun b x hb' hx => setCell_keep hx (hbg b hb')
  · exact (hoo.ds.keepIf (w' := w'.setCell ⟨g, k * 13 + 10, none⟩ v') fun b x hb' hx => kp b x (hd b hb') (ap.1 b hb') hx).move (fun _ _ _ _ x => x) (Nat.le_refl _) (by omega)
  · exact (hoo.qs.keepIf (w' := w'.setCell ⟨g, k * 13 + 10, none⟩ v') fun b x hb' hx => kp b x (hm b hb') (ap.2 b hb').1 hx).move (fun _ _ _ _ x => x) (Nat.le_refl _) (by omega)
  · have nd := hoo.nd
    rw [List.nodup_append, List.nodup_append] at nd ⊢
    obtain ⟨⟨n1, n2, n3⟩, n4, n5⟩ := nd
    refine ⟨⟨by unfold Go.Proofs.Ytokicnopfmokaaa.blk; split <;> simp, n2, fun a ha b hb' e => ?_⟩, n4, fun a ha b hb' e => ?_⟩
    · subst e
      rcases hb a ha with h1 | h1
      · exact n3 a h1 a hb' rfl
      · have := hdl a hb'; omega
    · subst e
      rw [List.mem_append] at ha
      rcases ha with ha | ha
      · rcases hb a ha with h1 | h1
        · exact n5 a (by simp [h1]) a hb' rfl
        · have := hml a hb'; omega
      · exact n5 a (by simp [ha]) a hb' rfl
  · have e := heap_setCell_same w' g (k * 13 + 10) _ 28 v' (grown_kept hg h.at' hgr)
    rw [e, ecells_put1 hk rest ⟨{ (elAt es k).o with ls := ls' }, v', (elAt es k).d, (elAt es k).m⟩ 10 v' (by decide) (by simp [elV])]
    simp only [List.setIfInBounds_toArray]
  · simp only [List.mem_append] at hb'
    unfold blks
    simp only [List.mem_append]
    rcases hb' with (h1 | h1) | h1
    · rcases hb b h1 with h2 | h2
      · exact .inl (.inl (.inl h2))
      · exact .inr (by omega)
    · exact .inl (.inl (.inr h1))
    · exact .inl (.inr h1)
end Go.Proofs.Ytokicnopfmokaaa
namespace Go.Proofs.Ytokicnopfmokaaa
open Go.RowKit
set_option linter.unusedVariables false
set_option maxRecDepth 100000

/-- What lies there when an arena was drawn that may be bent. -/
structure GrowN (w : World) (g s : Nat) (v : Value) (wr : World) : Prop where
  own : ∃ ga n c fs rs, v = .slice (some ⟨ga, 0, none⟩) n c ∧ fs.length = n ∧ n ≤ 10 ∧ OwnA ga c fs rs w.heap.size wr.heap.size wr ∧ (∀ i, obN (obAt (arOf fs) i) ≤ 13) ∧ AllFit (arOf fs)
  cur : CurE wr g s
  grown : w.grownBy wr (some g)
theorem GrowA.any {w wr : World} {g s : Nat} {v : Value} (h : GrowA w g s v wr) : GrowN w g s v wr := by
  obtain ⟨ga, c, fs, rs, rfl, hl, ho, hok, hf⟩ := h.own
  exact ⟨⟨ga, 10, c, fs, rs, rfl, hl, Nat.le_refl _, ho, fun i => Nat.le_trans (ok_few hok i) (by decide), hf⟩, h.cur, h.grown⟩
theorem obAt_take (os : List Ob) (k i : Nat) : obAt (os.take k) i = if i < k then obAt os i else noOb := by
  unfold obAt
  rw [List.getD_eq_getElem?_getD, List.getD_eq_getElem?_getD, List.getElem?_take]
  split <;> simp
theorem arOf_take (es : List El) (k : Nat) : arOf (es.take k) = (arOf es).take k := by simp [arOf, List.map_take]
theorem GrowA.cut {w wr : World} {g s ga c : Nat} (h : GrowA w g s (.slice (some ⟨ga, 0, none⟩) 10 c) wr) (k : Nat) (hk : k ≤ 10) : GrowN w g s (.slice (some ⟨ga, 0, none⟩) k c) wr := by
  obtain ⟨ga', c', fs, rs, hv, hl, ho, hok, hf⟩ := h.own
  obtain ⟨rfl, rfl⟩ : ga = ga' ∧ c = c' := by simpa using hv
  refine ⟨⟨ga, k, c, fs.take k, _, rfl, by simp; omega, hk, ho.take k (by omega), fun i => ?_, fun i => ?_⟩, h.cur, h.grown⟩
  · rw [arOf_take, obAt_take]
    split
    · exact Nat.le_trans (ok_few hok i) (by decide)
    · simp [noOb, obN]
  · rw [arOf_take, obAt_take]
    split
    · exact hf i
    · simp [noOb, Fits]
/-- One cell of one thing is bent. -/
theorem bend_done {w wz : World} {g s ga c : Nat} {fs : List El} {rs : List Value} (hs : s ≤ w.heap.size) (hc : CurE wz g s) (hg : w.grownBy wz (some g)) (hl : fs.length = 10) (ho : OwnA ga c fs rs w.heap.size wz.heap.size wz) (hn : ∀ i, obN (obAt (arOf fs) i) ≤ 12) (hf : AllFit (arOf fs)) {k : Nat} (hk : k < 10) (j : Nat) (x : Int) (o' : Ob) (hj : j < 13) (hl2 : o'.ls = (elAt fs k).o.ls ∧ o'.ds = (elAt fs k).o.ds ∧ o'.qs = (elAt fs k).o.qs)
    (he : elV ⟨o', (elAt fs k).l, (elAt fs k).d, (elAt fs k).m⟩ = (elV (elAt fs k)).set j (.int .i64 x)) (hft : Fits o') : GrowN w g s (.slice (some ⟨ga, 0, none⟩) 10 c) (wz.setCell ⟨ga, k * 13 + j, none⟩ (.int .i64 x)) := by
  have hkf : k < fs.length := by omega
  have hka : k < (arOf fs).length := by rw [arOf_length]; exact hkf
  have hlo := ho.lo
  refine ⟨⟨ga, 10, c, _, rs, rfl, by rw [List.length_set]; exact hl, Nat.le_refl _, (ho.bend hkf j x o' hj hl2 he).fit, fun i => ?_, fun i => ?_⟩, hc.set _ _ _ (by omega), grownBy_new8 hg hlo _ _⟩
  · rw [arOf_set, obAt_set _ _ hka]
    split
    · have e := hn k
      rw [arOf_at] at e
      unfold obN at e ⊢
      show o'.ls.length + o'.ds.length + o'.qs.length ≤ 13
      rw [hl2.1, hl2.2.1, hl2.2.2]; omega
    · exact Nat.le_trans (hn i) (by decide)
  · rw [arOf_set, obAt_set _ _ hka]
    split
    · exact hft
    · exact hf i
/-- What the regions leave that bend a thing. -/
def gBnd (base : Nat) (ns : List Int) (vs : List Value) (i : Nat) (u : Value) (w : World) : Prop := match i with
  | 3 => w.ownsRow base 3 1 u ns.length (icells ns)
  | 4 => ∃ x : Int, x ∈ ns ∧ u = .int .i64 x
  | i => u = vs.getD i undef
theorem gBnd_on {base : Nat} {ns : List Int} {vs : List Value} {w w' : World} (hb : Below w.heap.size w w') (i : Nat) (u : Value) (h : gBnd base ns vs i u w) : gBnd base ns vs i u w' := by
  unfold gBnd at h ⊢
  split
  · exact row_on8 h hb
  · exact h
  · rename_i a1 a2
    split at h
    · exact absurd rfl a1
    · exact absurd rfl a2
    · exact h
theorem gBnd_by {base : Nat} {ns : List Int} {vs : List Value} {w w' : World} {g : Nat} (hg : w.grownBy w' (some g)) (hlt : g < base) (i : Nat) (u : Value) (h : gBnd base ns vs i u w) : gBnd base ns vs i u w' := by
  unfold gBnd at h ⊢
  split
  · exact row_by h hg hlt
  · exact h
  · rename_i a1 a2
    split at h
    · exact absurd rfl a1
    · exact absurd rfl a2
    · exact h
/-- What the region leaves that bends a thing's kind. -/
def gKnd (vs : List Value) (i : Nat) (u : Value) (w : World) : Prop := match i with
  | 3 => ∃ x : Nat, x < 6 ∧ u = .int .i64 x
  | i => u = vs.getD i undef
theorem gKnd_any {vs : List Value} {w w' : World} (i : Nat) (u : Value) (h : gKnd vs i u w) : gKnd vs i u w' := by
  unfold gKnd at h ⊢
  split
  · exact h
  · rename_i a1
    split at h
    · exact absurd rfl a1
    · exact h
theorem row_three9 (w : World) (a b d : Int) : (w.alloc (.cells #[.int .i64 a, .int .i64 b, .int .i64 d] 3 (0, 0))).ownsRow w.heap.size 3 1 (.slice (some ⟨w.heap.size, 0, none⟩) 3 3) 3 (icells [a, b, d]) :=
  ⟨by simp [icells], .inr ⟨w.heap.size, 3, _, rfl, Nat.le_refl _, heap_alloc_new w _, Nat.le_refl _, by decide, by simp, by simp [icells]⟩⟩
def AnyDrawn (w : World) (g s : Nat) (e : Ending) (w' : World) : Prop := ∃ v, e = .returned v ∧ GrowN w g s v w'
theorem wpO_appL {o : Oper} {a : Act} {K : Act → World → Prop} {Q : Exit → Act → World → Prop} (s x : Operand)
    (ho : o.op = .call { callee := .builtin .append, args := #[s, x], argTypes := #[25, 25] }) (W : World) (lo hi g : Nat) (v : Value) (xs new : List Int) (k c : Nat)
    (hs : a.eval s = v) (hx : a.eval x = .slice (some ⟨g, 0, none⟩) k c) (hown : OwnI lo hi W v xs) (hlo : lo ≤ W.heap.size) (hhi : hi ≤ W.heap.size) (hk : new.length = k) (h0 : 0 < k) (hcell : ∀ (j : Nat) u, (icells new)[j]? = some u → W.cell? ⟨g, j, none⟩ = some u)
    (hb : xs.length + k ≤ 1048576)
    (h : ∀ v' w', OwnI lo w'.heap.size w' v' (xs ++ new) → (∃ r, W.grownBy w' r ∧ ∀ b, r = some b → b ∈ Go.Proofs.Ytokicnopfmokaaa.blk v) → (∀ b, b ∈ Go.Proofs.Ytokicnopfmokaaa.blk v' → b ∈ Go.Proofs.Ytokicnopfmokaaa.blk v ∨ W.heap.size ≤ b) → K (a.put o.dst v') w') : Oper.wp Try.prog o a W K Q := by
  obtain ⟨v', w', hr, h1, h2, h3⟩ := run_appI W lo hi v xs new o.type hown hlo hhi g k c hk h0 hcell hb
  unfold Oper.wp execOp
  simp only [ho, resolve, invoke, builtin, Sem.run_bind, Sem.run_pure, Result.andThen_ok, List.map_toArray, List.map_cons, List.map_nil, hs, hx, hr]
  exact h _ _ h1 h2 h3
theorem wpList_appL {ops : Array Oper} {rest : List Oper} {o : Oper} {a : Act} {Q : Exit → Act → World → Prop} (hgd : o.guard = none) (s x : Operand)
    (ho : o.op = .call { callee := .builtin .append, args := #[s, x], argTypes := #[25, 25] }) (W : World) (lo hi g : Nat) (v : Value) (xs new : List Int) (k c : Nat)
    (hs : a.eval s = v) (hx : a.eval x = .slice (some ⟨g, 0, none⟩) k c) (hown : OwnI lo hi W v xs) (hlo : lo ≤ W.heap.size) (hhi : hi ≤ W.heap.size) (hk : new.length = k) (h0 : 0 < k) (hcell : ∀ (j : Nat) u, (icells new)[j]? = some u → W.cell? ⟨g, j, none⟩ = some u)
    (hb : xs.length + k ≤ 1048576)
    (h : ∀ v' w', Hid (OwnI lo w'.heap.size w' v' (xs ++ new)) → Hid (∃ r, W.grownBy w' r ∧ ∀ b, r = some b → b ∈ Go.Proofs.Ytokicnopfmokaaa.blk v) → Hid (∀ b, b ∈ Go.Proofs.Ytokicnopfmokaaa.blk v' → b ∈ Go.Proofs.Ytokicnopfmokaaa.blk v ∨ W.heap.size ≤ b) → wpList Try.prog ops Q rest (a.put o.dst v') w') : wpList Try.prog ops Q (o :: rest) a W := by
  refine wpList_plain hgd fun K hK => ?_
  exact wpO_appL s x ho W lo hi g v xs new k c hs hx hown hlo hhi hk h0 hcell hb fun v' w' h1 h2 h3 => hK _ _ (h v' w' h1 h2 h3)
def gApp (vs : List Value) (i : Nat) (u : Value) (w : World) : Prop := match i with
  | 7 => ∃ b, u = .slice (some ⟨b, 0, none⟩) 1 1 ∧ w.heap[b]? = some (.cells #[.int .i64 0] 3 (0, 0))
  | i => u = vs.getD i undef
def gApp2 (lo ga c k : Nat) (fs : List El) (rs : List Value) (vs : List Value) (i : Nat) (u : Value) (w : World) : Prop := match i with
  | 7 => True
  | 8 => ∃ a n cc, u = .slice a n cc ∧ OwnA ga c (fs.set k ⟨{ (elAt fs k).o with ls := (elAt fs k).o.ls ++ [0] }, u, (elAt fs k).d, (elAt fs k).m⟩) rs lo w.heap.size (w.setCell ⟨ga, k * 13 + 10, none⟩ u)
  | i => u = vs.getD i undef
theorem gApp_on {vs : List Value} {w w' : World} (hb : Below w.heap.size w w') (i : Nat) (u : Value) (h : gApp vs i u w) : gApp vs i u w' := by
  unfold gApp at h ⊢
  split
  · obtain ⟨b, h1, h2⟩ := h; exact ⟨b, h1, keep h2 hb⟩
  · rename_i a1
    split at h
    · exact absurd rfl a1
    · exact h
theorem gApp_turn {lo ga c k : Nat} {fs : List El} {rs : List Value} {vs : List Value} {w w' : World} (i : Nat) (u : Value) (hi : i ≠ 8) (h : gApp vs i u w) : gApp2 lo ga c k fs rs vs i u w' := by
  unfold gApp2
  unfold gApp at h
  split
  · trivial
  · exact absurd rfl hi
  · rename_i a1 a2
    split at h
    · exact absurd rfl a1
    · exact h
/-- What is there between the append and the store. -/
structure AppMid (w : World) (g s ga : Nat) (fs : List El) (rs : List Value) (wz : World) : Prop where
  cur : CurE wz g s
  grown : w.grownBy wz (some g)
  row : wz.heap[ga]? = some (.cells (ecells fs ++ rs).toArray 28 (0, 0))
theorem AppMid.cell {w : World} {g s ga : Nat} {fs : List El} {rs : List Value} {wz : World} (h : AppMid w g s ga fs rs wz) {k : Nat} (hk : k < fs.length) : wz.cell? ⟨ga, k * 13 + 10, none⟩ = some (elAt fs k).l := by
  simp only [World.cell?, h.row, List.getElem?_toArray]
  rw [ecells_at hk rs (by decide)]
  rfl
theorem AppMid.free {w : World} {g s ga : Nat} {fs : List El} {rs : List Value} {wz : World} (h : AppMid w g s ga fs rs wz) (i : Nat) : wz.frozen? ⟨ga, i, none⟩ = false := by simp [World.frozen?, h.row]
theorem app_mid {w wz w' : World} {g s ga c hi k : Nat} {fs : List El} {rs : List Value} {v' : Value} (hs : s ≤ w.heap.size) (hc : CurE wz g s) (hg : w.grownBy wz (some g)) (ho : OwnA ga c fs rs w.heap.size hi wz) (hk : k < fs.length) (h1 : OwnI w.heap.size w'.heap.size w' v' ((elAt fs k).o.ls ++ [0])) (h2 : ∃ r, wz.grownBy w' r ∧ ∀ b, r = some b → b ∈ Go.Proofs.Ytokicnopfmokaaa.blk (elAt fs k).l) (h3 : ∀ b, b ∈ Go.Proofs.Ytokicnopfmokaaa.blk v' → b ∈ Go.Proofs.Ytokicnopfmokaaa.blk (elAt fs k).l ∨ wz.heap.size ≤ b) :
    AppMid w g s ga fs rs w' ∧ ∃ a n cc, v' = .slice a n cc ∧ OwnA ga c (fs.set k ⟨{ (elAt fs k).o with ls := (elAt fs k).o.ls ++ [0] }, v', (elAt fs k).d, (elAt fs k).m⟩) rs w.heap.size w'.heap.size (w'.setCell ⟨ga, k * 13 + 10, none⟩ v') := by
  obtain ⟨r, hgr, hr⟩ := h2
  have hlo : ∀ b, r = some b → w.heap.size ≤ b ∧ b ≠ ga := fun b e => ⟨((ho.own k hk).ls.blk (hr b e)).1, fun e2 => ho.ne k hk (by unfold blks; rw [← e2]; simp [hr b e])⟩
  refine ⟨⟨hc.keep (fun j hj => hgr.block j (by have := hg.size; omega) (fun e => by have := (hlo j e.symm).1; omega)), grown8_own hg hgr (fun j e => (hlo j e).1), grown_kept hgr ho.at' (fun e => (hlo ga e).2 rfl)⟩, ?_⟩
  obtain ⟨a, cc, hv, _⟩ := id h1
  exact ⟨a, _, cc, hv, ho.fit.appL (Nat.le_refl _) hk h1 hgr hr h3⟩
theorem app_done {w wz : World} {g s ga c k : Nat} {fs : List El} {rs : List Value} {u : Value} (hs : s ≤ w.heap.size) (h : AppMid w g s ga fs rs wz) (hl : fs.length = 10) (hn : ∀ i, obN (obAt (arOf fs) i) ≤ 12) (hf : AllFit (arOf fs)) (hk : k < 10) (hlo : w.heap.size ≤ ga)
    (ho : OwnA ga c (fs.set k ⟨{ (elAt fs k).o with ls := (elAt fs k).o.ls ++ [0] }, u, (elAt fs k).d, (elAt fs k).m⟩) rs w.heap.size wz.heap.size (wz.setCell ⟨ga, k * 13 + 10, none⟩ u)) : GrowN w g s (.slice (some ⟨ga, 0, none⟩) 10 c) (wz.setCell ⟨ga, k * 13 + 10, none⟩ u) := by
  have hkf : k < fs.length := by omega
  have hka : k < (arOf fs).length := by rw [arOf_length]; exact hkf
  refine ⟨⟨ga, 10, c, _, rs, rfl, by rw [List.length_set]; exact hl, Nat.le_refl _, ho.fit, fun i => ?_, fun i => ?_⟩, h.cur.set _ _ _ (by omega), grownBy_new8 h.grown hlo _ _⟩
  · rw [arOf_set, obAt_set _ _ hka]
    split
    · have e := hn k
      rw [arOf_at] at e
      unfold obN at e ⊢
      show ((elAt fs k).o.ls ++ [0]).length + (elAt fs k).o.ds.length + (elAt fs k).o.qs.length ≤ 13
      rw [List.length_append, List.length_singleton]; omega
    · exact Nat.le_trans (hn i) (by decide)
  · rw [arOf_set, obAt_set _ _ hka]
    split
    · have e := hf k
      rw [arOf_at] at e
      exact e
    · exact hf i
set_option maxRecDepth 100000 in
set_option maxHeartbeats 16000000 in
theorem l8Any_any (w : World) (g s : Nat) (h : CurE w g s) (hs : s ≤ w.heap.size) :
    Calls Try.prog 15 #[.pointer (some ⟨g, 0, none⟩)] w fun e w' => AnyDrawn w g s e w' := by
  have C0 := l8Arena_any w g s h hs
  unfold ArenaDrawn at C0
  have Hs : Hid (s ≤ w.heap.size) := hs
  have HGL : Hid (g < w.heap.size) := Nat.lt_of_lt_of_le h.lt hs
  clear h hs
  go_enter Try.func15, Try.ntmps15
  go_wp2_with fail
  refine C0.mono ?_
  rintro e w1 ⟨v, rfl, hga⟩
  obtain ⟨ga, c, fs, rs, rfl, hl, ho, hok, hf⟩ := hga.own
  have hcap : 10 ≤ c := by have := ho.cap; omega
  have HG1 := hid_of hga
  have HO1 := hid_of ho
  have HFL := hid_of hl
  have HOK := hid_of hok
  have HFI := hid_of hf
  have HNN : Hid (∀ i, obN (obAt (arOf fs) i) ≤ 12) := fun i => ok_few HOK.out i
  clear C0 hga hl ho hok hf
  go_wp2_with fail
  refine (belowE w1 g s 10 HG1.out.cur (by omega) (by omega)).mono ?_
  rintro e w2 ⟨k, rfl, hk, hc, hgr⟩
  have HG2 := hid_of (HG1.out.by' Hs.out hc hgr)
  have HO2 := hid_of (HO1.out.byg hgr HGL.out).fit
  clear hc hgr HG1 HO1
  go_wp2_with fail
  refine (belowE w2 g s 24 HG2.out.cur (by omega) (by omega)).mono ?_
  rintro e w3 ⟨q, rfl, hq, hc, hgr⟩
  have HG3 := hid_of (HG2.out.by' Hs.out hc hgr)
  have HO3 := hid_of (HO2.out.byg hgr HGL.out).fit
  clear hc hgr HG2 HO2
  obtain ⟨W8, hW8⟩ : ∃ W8, W8 = w3 := ⟨_, rfl⟩
  subst hW8
  have HCW := hid_of HG3.out.cur
  have HGR := hid_of HG3.out.grown
  have HOW : Hid (OwnA ga c fs rs w.heap.size W8.heap.size W8) := HO3.out
  have HKF : Hid (k < fs.length) := by show k < fs.length; rw [HFL.out]; exact hk
  have HK9 : Hid (k < 10) := hk
  have HK10 : Hid ((k : Int) < 10) := by show (k : Int) < 10; omega
  have HQ : Hid ((⟨ga, 0, none⟩ : Addr).add (k * 13) = ⟨ga, k * 13, none⟩) := add_head ga (k * 13)
  have HLO : Hid (w.heap.size ≤ ga) := HO3.out.lo
  have HSZ : Hid (s ≤ W8.heap.size) := Nat.le_trans Hs.out HGR.out.size
  clear HO3
  obtain ⟨x0, hx0⟩ : ∃ x0 : Int, x0 = (q : Int) := ⟨_, rfl⟩
  rw [← hx0]
  clear hx0 hq
  by_cases q0 : x0 = 0
  · subst q0
    have HKC : Hid (k ≤ c) := by show k ≤ c; omega
    go_wp2
    go_ret
    exact ⟨_, rfl, HG3.out.cut k (by omega)⟩
  by_cases q1 : x0 = 1
  · subst q1
    clear HG3
    have C := pickE2 (W8.alloc (.cells #[.int .i64 (-2), .int .i64 10, .int .i64 9, .int .i64 0] 3 (0, 0))) g s W8.heap.size (.slice (some ⟨W8.heap.size, 0, none⟩) 4 4) [-2, 10, 9, 0] (HCW.out.alloc _ HSZ.out) (row_four8 W8 (-2) (10) (9) (0)) HSZ.out (by decide) (by decide)
    go_wp2_with fail
    refine C.mono ?_
    rintro e w4 ⟨⟨x, rfl, hxm⟩, hc, hgr⟩
    have HGX : Hid (w.grownBy w4 (some g)) := grownBy_trans HGR.out (grownBy_trans (World.grownBy_alloc W8 _ _) hgr)
    have HOX := hid_of ((HOW.out.on (below_alloc W8 (.cells #[.int .i64 (-2), .int .i64 10, .int .i64 9, .int .i64 0] 3 (0, 0)))).byg hgr HGL.out)
    have HZ := hid_of (bend_done Hs.out hc HGX.out HFL.out HOX.out.fit HNN.out HFI.out HK9.out 2 x { (elAt fs k).o with into := x } (by decide) ⟨rfl, rfl, rfl⟩ (by simp [elV]) (by have e := HFI.out k; rw [arOf_at] at e; exact e))
    have kc := (HOX.out.cells HKF.out).c2
    have kf := HOX.out.free (k * 13 + 2)
    have hq := HQ.out
    have hk10 := HK10.out
    clear C hc hgr hxm
    go_wp2
    go_ret
    exact ⟨_, rfl, HZ.out⟩
  by_cases q2 : x0 = 2
  · subst q2
    clear HG3
    have C := belowE W8 g s 6 HCW.out (by omega) (by omega)
    go_wp2_with fail
    refine C.mono ?_
    rintro e w4 ⟨x, rfl, hx, hc, hgr⟩
    have HGX : Hid (w.grownBy w4 (some g)) := grownBy_trans HGR.out hgr
    have HOX := hid_of (HOW.out.byg hgr HGL.out)
    have HZ := hid_of (bend_done Hs.out hc HGX.out HFL.out HOX.out.fit HNN.out HFI.out HK9.out 1 (x : Int) { (elAt fs k).o with kind := (x : Int) } (by decide) ⟨rfl, rfl, rfl⟩ (by simp [elV]) (by have e := HFI.out k; rw [arOf_at] at e; exact e))
    have kc := (HOX.out.cells HKF.out).c1
    have kf := HOX.out.free (k * 13 + 1)
    have hq := HQ.out
    have hk10 := HK10.out
    clear C hc hgr
    go_wp2
    go_ret
    exact ⟨_, rfl, HZ.out⟩
  by_cases q3 : x0 = 3
  · subst q3
    clear HG3
    have C := pickE2 (W8.alloc (.cells #[.int .i64 (-1), .int .i64 999, .int .i64 1000] 3 (0, 0))) g s W8.heap.size (.slice (some ⟨W8.heap.size, 0, none⟩) 3 3) [-1, 999, 1000] (HCW.out.alloc _ HSZ.out) (row_three9 W8 (-1) (999) (1000)) HSZ.out (by decide) (by decide)
    go_wp2_with fail
    refine C.mono ?_
    rintro e w4 ⟨⟨x, rfl, hxm⟩, hc, hgr⟩
    have HGX : Hid (w.grownBy w4 (some g)) := grownBy_trans HGR.out (grownBy_trans (World.grownBy_alloc W8 _ _) hgr)
    have HOX := hid_of ((HOW.out.on (below_alloc W8 (.cells #[.int .i64 (-1), .int .i64 999, .int .i64 1000] 3 (0, 0)))).byg hgr HGL.out)
    have HZ := hid_of (bend_done Hs.out hc HGX.out HFL.out HOX.out.fit HNN.out HFI.out HK9.out 0 x { (elAt fs k).o with gen := x } (by decide) ⟨rfl, rfl, rfl⟩ (by simp [elV]) (by have e := HFI.out k; rw [arOf_at] at e; exact e))
    have kc := (HOX.out.cells HKF.out).c0
    have kf := HOX.out.free (k * 13)
    have hq := HQ.out
    have hk10 := HK10.out
    clear C hc hgr hxm
    go_wp2
    go_ret
    exact ⟨_, rfl, HZ.out⟩
  by_cases q5 : x0 = 5
  · subst q5
    clear HG3
    have C := pickE2 (W8.alloc (.cells #[.int .i64 (-1), .int .i64 1000001, .int .i64 0] 3 (0, 0))) g s W8.heap.size (.slice (some ⟨W8.heap.size, 0, none⟩) 3 3) [-1, 1000001, 0] (HCW.out.alloc _ HSZ.out) (row_three9 W8 (-1) (1000001) (0)) HSZ.out (by decide) (by decide)
    go_wp2_with fail
    refine C.mono ?_
    rintro e w4 ⟨⟨x, rfl, hxm⟩, hc, hgr⟩
    have HGX : Hid (w.grownBy w4 (some g)) := grownBy_trans HGR.out (grownBy_trans (World.grownBy_alloc W8 _ _) hgr)
    have HOX := hid_of ((HOW.out.on (below_alloc W8 (.cells #[.int .i64 (-1), .int .i64 1000001, .int .i64 0] 3 (0, 0)))).byg hgr HGL.out)
    have HZ := hid_of (bend_done Hs.out hc HGX.out HFL.out HOX.out.fit HNN.out HFI.out HK9.out 4 x { (elAt fs k).o with unt := x } (by decide) ⟨rfl, rfl, rfl⟩ (by simp [elV]) (by have e := HFI.out k; rw [arOf_at] at e; exact e))
    have kc := (HOX.out.cells HKF.out).c4
    have kf := HOX.out.free (k * 13 + 4)
    have hq := HQ.out
    have hk10 := HK10.out
    clear C hc hgr hxm
    go_wp2
    go_ret
    exact ⟨_, rfl, HZ.out⟩
  by_cases q6 : x0 = 6
  · subst q6
    clear HG3
    have C := pickE2 (W8.alloc (.cells #[.int .i64 (-1), .int .i64 30000, .int .i64 30001, .int .i64 1] 3 (0, 0))) g s W8.heap.size (.slice (some ⟨W8.heap.size, 0, none⟩) 4 4) [-1, 30000, 30001, 1] (HCW.out.alloc _ HSZ.out) (row_four8 W8 (-1) (30000) (30001) (1)) HSZ.out (by decide) (by decide)
    go_wp2_with fail
    refine C.mono ?_
    rintro e w4 ⟨⟨x, rfl, hxm⟩, hc, hgr⟩
    have HGX : Hid (w.grownBy w4 (some g)) := grownBy_trans HGR.out (grownBy_trans (World.grownBy_alloc W8 _ _) hgr)
    have HOX := hid_of ((HOW.out.on (below_alloc W8 (.cells #[.int .i64 (-1), .int .i64 30000, .int .i64 30001, .int .i64 1] 3 (0, 0)))).byg hgr HGL.out)
    have HZ := hid_of (bend_done Hs.out hc HGX.out HFL.out HOX.out.fit HNN.out HFI.out HK9.out 6 x { (elAt fs k).o with wait := x } (by decide) ⟨rfl, rfl, rfl⟩ (by simp [elV]) (by unfold Fits; simp at hxm; show _ ≤ x ∧ x ≤ _; omega))
    have kc := (HOX.out.cells HKF.out).c6
    have kf := HOX.out.free (k * 13 + 6)
    have hq := HQ.out
    have hk10 := HK10.out
    clear C hc hgr hxm
    go_wp2
    go_ret
    exact ⟨_, rfl, HZ.out⟩
  by_cases q4 : x0 = 4
  · subst q4
    clear HG3
    obtain ⟨V, hV⟩ : ∃ V, V = W8.alloc (.cells #[.int .i64 0] 3 (0, 0)) := ⟨_, rfl⟩
    have hbV : Below W8.heap.size W8 V := by rw [hV]; exact below_alloc W8 _
    have HOV := hid_of (HOW.out.on hbV)
    have HGV : Hid (w.grownBy V (some g)) := by show World.grownBy _ _ _; rw [hV]; exact grownBy_trans HGR.out (World.grownBy_alloc W8 _ _)
    have HCV : Hid (CurE V g s) := by show CurE _ _ _; rw [hV]; exact HCW.out.alloc _ HSZ.out
    have HMID : Hid (∀ v' w', OwnI w.heap.size w'.heap.size w' v' ((elAt fs k).o.ls ++ [0]) → (∃ r, V.grownBy w' r ∧ ∀ b, r = some b → b ∈ Go.Proofs.Ytokicnopfmokaaa.blk (elAt fs k).l) → (∀ b, b ∈ Go.Proofs.Ytokicnopfmokaaa.blk v' → b ∈ Go.Proofs.Ytokicnopfmokaaa.blk (elAt fs k).l ∨ V.heap.size ≤ b) → _) := fun v' w' h1 h2 h3 => app_mid Hs.out HCV.out HGV.out HOV.out HKF.out h1 h2 h3
    have HOL := hid_of (HOV.out.fit.own k HKF.out).ls
    have HCE : Hid (∀ (j : Nat) u, (icells [0])[j]? = some u → V.cell? ⟨W8.heap.size, j, none⟩ = some u) := fun j u hj => by
      rw [hV]
      simp only [World.cell?, heap_alloc_new]
      simpa [icells] using hj
    have HNL : Hid ((elAt fs k).o.ls.length + 1 ≤ 1048576) := by show _ ≤ _; have e := HNN.out k; rw [arOf_at] at e; unfold obN at e; omega
    have HVS : Hid (w.heap.size ≤ V.heap.size) := HGV.out.size
    have k10 := (HOW.out.cells HKF.out).c10
    have k10V := (HOV.out.cells HKF.out).c10
    have hq := HQ.out
    have hk10 := HK10.out
    clear hbV
    go_wp2_with (at_builtin; refine wpList_appL rfl (.tmp 52) (.tmp 53) rfl _ w.heap.size V.heap.size W8.heap.size (elAt fs k).l (elAt fs k).o.ls [0] 1 1 rfl rfl (by rw [← hV]; exact HOL.out) (by rw [← hV]; exact HVS.out) (by rw [← hV]; exact Nat.le_refl _) rfl (by decide) (by rw [← hV]; exact HCE.out) HNL.out ?_; intro v' w' h1 h2 h3; rw [← hV] at h2 h3; obtain ⟨hM1, a5, n5, c5, rfl, hM2⟩ := HMID.out v' w' h1.out h2.out h3.out; have kc := hM1.cell HKF.out; have kf := hM1.free (k * 13 + 10); have HM1 := hid_of hM1; have HM2 := hid_of hM2; clear hM1 hM2 h1 h2 h3)
    go_ret
    exact ⟨_, rfl, app_done Hs.out HM1.out HFL.out HNN.out HFI.out HK9.out HLO.out HM2.out⟩
  have b0 : (x0 == 0) = false := beq_eq_false_iff_ne.2 q0
  have b1 : (x0 == 1) = false := beq_eq_false_iff_ne.2 q1
  have b2 : (x0 == 2) = false := beq_eq_false_iff_ne.2 q2
  have b3 : (x0 == 3) = false := beq_eq_false_iff_ne.2 q3
  have b4 : (x0 == 4) = false := beq_eq_false_iff_ne.2 q4
  have b5 : (x0 == 5) = false := beq_eq_false_iff_ne.2 q5
  have b6 : (x0 == 6) = false := beq_eq_false_iff_ne.2 q6
  clear q0 q1 q2 q3 q4 q5 q6
  go_wp2
  go_ret
  exact ⟨_, rfl, HG3.out.any⟩
end Go.Proofs.Ytokicnopfmokaaa
namespace Go.Proofs.Ytokicnopfmokaaa
open Go.RowKit
set_option linter.unusedVariables false
set_option maxRecDepth 100000
set_option maxRecDepth 100000

abbrev nilV : Value := .slice none 0 0
theorem OwnO.appD {lo : Nat} {w w' : World} {l d m : Value} {o : Ob} (h : OwnO lo w.heap.size w l d m o) {v' : Value} {ds' : List Int} {r : Option Nat} (ho : OwnI lo w'.heap.size w' v' ds') (hg : w.grownBy w' r) (hr : ∀ b, r = some b → b ∈ Go.Proofs.Ytokicnopfmokaaa.blk d) (hb : ∀ b, b ∈ Go.Proofs.Ytokicnopfmokaaa.blk v' → b ∈ Go.Proofs.Ytokicnopfmokaaa.blk d ∨ w.heap.size ≤ b) : OwnO lo w'.heap.size w' l v' m { o with ds := ds' } := by
  have ap := apart_ld h
  have hsz := hg.size
  have kp : ∀ b x, b ∉ Go.Proofs.Ytokicnopfmokaaa.blk d → w.heap[b]? = some x → w'.heap[b]? = some x := fun b x h1 hx => grown_kept hg hx (fun e => h1 (hr b e))
  refine ⟨(h.ls.keepIf (w' := w') fun b x hb' hx => kp b x (fun hd => ap.1 b hd hb') hx).move (fun _ _ _ _ x => x) (Nat.le_refl _) (by omega), ho, (h.qs.keepIf (w' := w') fun b x hb' hx => kp b x (ap.2 b hb').2 hx).move (fun _ _ _ _ x => x) (Nat.le_refl _) (by omega), ?_⟩
  have nd := h.nd
  rw [List.nodup_append, List.nodup_append] at nd ⊢
  obtain ⟨⟨n1, n2, n3⟩, n4, n5⟩ := nd
  refine ⟨⟨n1, by unfold Go.Proofs.Ytokicnopfmokaaa.blk; split <;> simp, fun a ha b hb' e => ?_⟩, n4, fun a ha b hb' e => ?_⟩
  · subst e
    rcases hb a hb' with h1 | h1
    · exact n3 a ha a h1 rfl
    · have := (h.ls.blk ha).2.2; omega
  · subst e
    rw [List.mem_append] at ha
    rcases ha with ha | ha
    · exact n5 a (by simp [ha]) a hb' rfl
    · rcases hb a ha with h1 | h1
      · exact n5 a (by simp [h1]) a hb' rfl
      · have := (h.qs.blk hb').2.2; omega
theorem OwnO.appQ {lo : Nat} {w w' : World} {l d m : Value} {o : Ob} (h : OwnO lo w.heap.size w l d m o) {v' : Value} {qs' : List Ms} {r : Option Nat} (ho : OwnM lo w'.heap.size w' v' qs') (hg : w.grownBy w' r) (hr : ∀ b, r = some b → b ∈ Go.Proofs.Ytokicnopfmokaaa.blk m) (hb : ∀ b, b ∈ Go.Proofs.Ytokicnopfmokaaa.blk v' → b ∈ Go.Proofs.Ytokicnopfmokaaa.blk m ∨ w.heap.size ≤ b) : OwnO lo w'.heap.size w' l d v' { o with qs := qs' } := by
  have ap := apart_ld h
  have hsz := hg.size
  have kp : ∀ b x, b ∉ Go.Proofs.Ytokicnopfmokaaa.blk m → w.heap[b]? = some x → w'.heap[b]? = some x := fun b x h1 hx => grown_kept hg hx (fun e => h1 (hr b e))
  refine ⟨(h.ls.keepIf (w' := w') fun b x hb' hx => kp b x (fun hd => (ap.2 b hd).1 hb') hx).move (fun _ _ _ _ x => x) (Nat.le_refl _) (by omega), (h.ds.keepIf (w' := w') fun b x hb' hx => kp b x (fun hd => (ap.2 b hd).2 hb') hx).move (fun _ _ _ _ x => x) (Nat.le_refl _) (by omega), ho, ?_⟩
  have nd := h.nd
  rw [List.nodup_append, List.nodup_append] at nd ⊢
  obtain ⟨⟨n1, n2, n3⟩, n4, n5⟩ := nd
  refine ⟨⟨n1, n2, n3⟩, by unfold Go.Proofs.Ytokicnopfmokaaa.blk; split <;> simp, fun a ha b hb' e => ?_⟩
  subst e
  rw [List.mem_append] at ha
  rcases hb a hb' with h1 | h1
  · exact n5 a (by rw [List.mem_append]; exact ha) a h1 rfl
  · rcases ha with ha | ha
    · have := (h.ls.blk ha).2.2; omega
    · have := (h.ds.blk ha).2.2; omega
theorem wpList_appQ {ops : Array Oper} {rest : List Oper} {o : Oper} {a : Act} {Q : Exit → Act → World → Prop} (hgd : o.guard = none) (s x : Operand)
    (ho : o.op = .call { callee := .builtin .append, args := #[s, x], argTypes := #[26, 26] }) (W : World) (lo hi g : Nat) (v : Value) (xs new : List Ms) (k c : Nat)
    (hs : a.eval s = v) (hx : a.eval x = .slice (some ⟨g, 0, none⟩) k c) (hown : OwnM lo hi W v xs) (hlo : lo ≤ W.heap.size) (hhi : hi ≤ W.heap.size) (hk : new.length = k) (h0 : 0 < k) (hcell : ∀ (j : Nat) u, (mcells new)[j]? = some u → W.cell? ⟨g, j, none⟩ = some u)
    (hb : xs.length + k ≤ 1048576)
    (h : ∀ v' w', Hid (OwnM lo w'.heap.size w' v' (xs ++ new)) → Hid (∃ r, W.grownBy w' r ∧ ∀ b, r = some b → b ∈ Go.Proofs.Ytokicnopfmokaaa.blk v) → Hid (∀ b, b ∈ Go.Proofs.Ytokicnopfmokaaa.blk v' → b ∈ Go.Proofs.Ytokicnopfmokaaa.blk v ∨ W.heap.size ≤ b) → wpList Try.prog ops Q rest (a.put o.dst v') w') : wpList Try.prog ops Q (o :: rest) a W := by
  refine wpList_plain hgd fun K hK => ?_
  obtain ⟨v', w', hr, h1, h2, h3⟩ := run_appM W lo hi v xs new o.type hown hlo hhi g k c hk h0 hcell hb
  unfold Oper.wp execOp
  simp only [ho, resolve, invoke, builtin, Sem.run_bind, Sem.run_pure, Result.andThen_ok, List.map_toArray, List.map_cons, List.map_nil, hs, hx, hr]
  exact hK _ _ (h _ _ h1 h2 h3)
/-- A thing in a box, its lists of the call's own, and the cell for the answer. -/
structure OneS (w : World) (g s R B lo : Nat) (o : Ob) (l d m : Value) (wr : World) : Prop where
  cur : CurE wr g s
  grown : w.grownBy wr (some g)
  own : OwnO lo wr.heap.size wr l d m o
  box : wr.heap[B]? = some (boxO o l d m)
  res : wr.heap[R]? = some (boxO noOb (.slice none 0 0) (.slice none 0 0) (.slice none 0 0))
  hs : s ≤ w.heap.size
  hw : w.heap.size ≤ R
  hR : R < lo
  hB : lo ≤ B
  nB : B ∉ Go.Proofs.Ytokicnopfmokaaa.blk l ++ Go.Proofs.Ytokicnopfmokaaa.blk d ++ Go.Proofs.Ytokicnopfmokaaa.blk m
section
variable {w : World} {g s R B lo : Nat} {o : Ob} {l d m : Value} {wr w' : World}
theorem OneS.lt (h : OneS w g s R B lo o l d m wr) : g < w.heap.size := Nat.lt_of_lt_of_le h.cur.lt h.hs
theorem OneS.by' (h : OneS w g s R B lo o l d m wr) (hc : CurE w' g s) (hg : wr.grownBy w' (some g)) : OneS w g s R B lo o l d m w' := by
  have hlt := h.lt
  have hw := h.hw
  have hR := h.hR
  have hB := h.hB
  exact ⟨hc, grownBy_trans h.grown hg, h.own.move (fun b x h1 h2 hx => grown_kept hg hx (fun e => by have := Option.some.inj e; omega)) (Nat.le_refl _) hg.size, grown_kept hg h.box (fun e => by have := Option.some.inj e; omega), grown_kept hg h.res (fun e => by have := Option.some.inj e; omega), h.hs, h.hw, h.hR, h.hB, h.nB⟩
theorem OneS.on (h : OneS w g s R B lo o l d m wr) (hb : Below wr.heap.size wr w') : OneS w g s R B lo o l d m w' := by
  have hsz := h.grown.size
  exact ⟨h.cur.below (hb.mono (by have := h.hs; omega)), grown8_then h.grown hb hsz, h.own.on hb (Nat.le_refl _) hb.size, keep h.box hb, keep h.res hb, h.hs, h.hw, h.hR, h.hB, h.nB⟩
theorem OneS.pages (h : OneS w g s R B lo o l d m wr) (x : Int) : OneS w g s R B lo { o with pages := x } l d m (wr.setCell ⟨B, 5, none⟩ (.int .i64 x)) := by
  have hlt := h.lt
  have hw := h.hw
  have hR := h.hR
  have hB := h.hB
  have hs := h.hs
  have kp : ∀ b y, b ∈ Go.Proofs.Ytokicnopfmokaaa.blk l ++ Go.Proofs.Ytokicnopfmokaaa.blk d ++ Go.Proofs.Ytokicnopfmokaaa.blk m → wr.heap[b]? = some y → (wr.setCell ⟨B, 5, none⟩ (.int .i64 x)).heap[b]? = some y := fun b y hb hy => setCell_keep hy (fun e => h.nB (e ▸ hb))
  refine ⟨h.cur.set _ _ _ (by omega), grownBy_new8 h.grown (by omega) _ _, ⟨by simpa using h.own.ls.keepIf fun b y hb hy => kp b y (by simp [hb]) hy, by simpa using h.own.ds.keepIf fun b y hb hy => kp b y (by simp [hb]) hy, by simpa using h.own.qs.keepIf fun b y hb hy => kp b y (by simp [hb]) hy, h.own.nd⟩, ?_, setCell_keep h.res (by omega), h.hs, h.hw, h.hR, h.hB, h.nB⟩
  rw [heap_setCell_same _ _ _ _ _ _ h.box]; simp
theorem OneS.data (h : OneS w g s R B lo o l d m wr) {v' : Value} {ds' : List Int} (h1 : OwnI lo w'.heap.size w' v' ds') (h2 : ∃ r, wr.grownBy w' r ∧ ∀ b, r = some b → b ∈ Go.Proofs.Ytokicnopfmokaaa.blk d) (h3 : ∀ b, b ∈ Go.Proofs.Ytokicnopfmokaaa.blk v' → b ∈ Go.Proofs.Ytokicnopfmokaaa.blk d ∨ wr.heap.size ≤ b) :
    w'.heap[B]? = some (boxO o l d m) ∧ OneS w g s R B lo { o with ds := ds' } l v' m (w'.setCell ⟨B, 11, none⟩ v') := by
  obtain ⟨r, hg, hr⟩ := h2
  have hlt := h.lt
  have hw := h.hw
  have hR := h.hR
  have hB := h.hB
  have hs := h.hs
  have hgs := h.grown.size
  have hbz := lt_of_block h.box
  have hlo : ∀ b, r = some b → lo ≤ b ∧ b ≠ B := fun b e => ⟨(h.own.ds.blk (hr b e)).1, fun e2 => h.nB (by rw [← e2]; simp [hr b e])⟩
  have hbx := grown_kept hg h.box (fun e => (hlo B e).2 rfl)
  have ho := h.own.appD h1 hg hr h3
  have nB : B ∉ Go.Proofs.Ytokicnopfmokaaa.blk l ++ Go.Proofs.Ytokicnopfmokaaa.blk v' ++ Go.Proofs.Ytokicnopfmokaaa.blk m := fun hm => by
    simp only [List.mem_append] at hm
    rcases hm with (hm | hm) | hm
    · exact h.nB (by simp [hm])
    · rcases h3 B hm with h4 | h4
      · exact h.nB (by simp [h4])
      · omega
    · exact h.nB (by simp [hm])
  have kp : ∀ b y, b ∈ Go.Proofs.Ytokicnopfmokaaa.blk l ++ Go.Proofs.Ytokicnopfmokaaa.blk v' ++ Go.Proofs.Ytokicnopfmokaaa.blk m → w'.heap[b]? = some y → (w'.setCell ⟨B, 11, none⟩ v').heap[b]? = some y := fun b y hb hy => setCell_keep hy (fun e => nB (e ▸ hb))
  refine ⟨hbx, ⟨(h.cur.keep (fun j hj => hg.block j (by omega) (fun e => by have := (hlo j e.symm).1; omega))).set _ _ _ (by omega), grownBy_new8 (grown8_own h.grown hg (fun j e => by have := (hlo j e).1; omega)) (by omega) _ _, ⟨by simpa using ho.ls.keepIf fun b y hb hy => kp b y (by simp [hb]) hy, by simpa using ho.ds.keepIf fun b y hb hy => kp b y (by simp [hb]) hy, by simpa using ho.qs.keepIf fun b y hb hy => kp b y (by simp [hb]) hy, ho.nd⟩, ?_, setCell_keep (grown_kept hg h.res (fun e => by have := (hlo R e).1; omega)) (by omega), h.hs, h.hw, h.hR, h.hB, nB⟩⟩
  rw [heap_setCell_same _ _ _ _ _ _ hbx]; simp
theorem OneS.queue (h : OneS w g s R B lo o l d m wr) {v' : Value} {qs' : List Ms} (h1 : OwnM lo w'.heap.size w' v' qs') (h2 : ∃ r, wr.grownBy w' r ∧ ∀ b, r = some b → b ∈ Go.Proofs.Ytokicnopfmokaaa.blk m) (h3 : ∀ b, b ∈ Go.Proofs.Ytokicnopfmokaaa.blk v' → b ∈ Go.Proofs.Ytokicnopfmokaaa.blk m ∨ wr.heap.size ≤ b) :
    w'.heap[B]? = some (boxO o l d m) ∧ OneS w g s R B lo { o with qs := qs' } l d v' (w'.setCell ⟨B, 12, none⟩ v') := by
  obtain ⟨r, hg, hr⟩ := h2
  have hlt := h.lt
  have hw := h.hw
  have hR := h.hR
  have hB := h.hB
  have hs := h.hs
  have hgs := h.grown.size
  have hbz := lt_of_block h.box
  have hlo : ∀ b, r = some b → lo ≤ b ∧ b ≠ B := fun b e => ⟨(h.own.qs.blk (hr b e)).1, fun e2 => h.nB (by rw [← e2]; simp [hr b e])⟩
  have hbx := grown_kept hg h.box (fun e => (hlo B e).2 rfl)
  have ho := h.own.appQ h1 hg hr h3
  have nB : B ∉ Go.Proofs.Ytokicnopfmokaaa.blk l ++ Go.Proofs.Ytokicnopfmokaaa.blk d ++ Go.Proofs.Ytokicnopfmokaaa.blk v' := fun hm => by
    simp only [List.mem_append] at hm
    rcases hm with (hm | hm) | hm
    · exact h.nB (by simp [hm])
    · exact h.nB (by simp [hm])
    · rcases h3 B hm with h4 | h4
      · exact h.nB (by simp [h4])
      · omega
  have kp : ∀ b y, b ∈ Go.Proofs.Ytokicnopfmokaaa.blk l ++ Go.Proofs.Ytokicnopfmokaaa.blk d ++ Go.Proofs.Ytokicnopfmokaaa.blk v' → w'.heap[b]? = some y → (w'.setCell ⟨B, 12, none⟩ v').heap[b]? = some y := fun b y hb hy => setCell_keep hy (fun e => nB (e ▸ hb))
  refine ⟨hbx, ⟨(h.cur.keep (fun j hj => hg.block j (by omega) (fun e => by have := (hlo j e.symm).1; omega))).set _ _ _ (by omega), grownBy_new8 (grown8_own h.grown hg (fun j e => by have := (hlo j e).1; omega)) (by omega) _ _, ⟨by simpa using ho.ls.keepIf fun b y hb hy => kp b y (by simp [hb]) hy, by simpa using ho.ds.keepIf fun b y hb hy => kp b y (by simp [hb]) hy, by simpa using ho.qs.keepIf fun b y hb hy => kp b y (by simp [hb]) hy, ho.nd⟩, ?_, setCell_keep (grown_kept hg h.res (fun e => by have := (hlo R e).1; omega)) (by omega), h.hs, h.hw, h.hR, h.hB, nB⟩⟩
  rw [heap_setCell_same _ _ _ _ _ _ hbx]; simp
theorem OneS.done (h : OneS w g s R B lo o l d m wr) : (w13 wr R 0 o l d m).heap[R]? = some (boxO o l d m) ∧ OwnO w.heap.size (w13 wr R 0 o l d m).heap.size (w13 wr R 0 o l d m) l d m o ∧ CurE (w13 wr R 0 o l d m) g s ∧ w.grownBy (w13 wr R 0 o l d m) (some g) := by
  have hw := h.hw
  have hR := h.hR
  refine ⟨heap_w13_new h.res _ _ _ _, ?_, h.cur.below (below_w13 (Below.refl _ _) (by have := h.hs; omega) _ _ _ _ _), grown_w13 h.grown hw _ _ _ _ _⟩
  exact h.own.move (w' := w13 wr R 0 o l d m) (fun k x h1 _ hx => heap_w13_other hx (by omega) _ _ _ _ _) (by omega) (by rw [size_w13]; exact Nat.le_refl _)
end
theorem box13 {w : World} {b : Nat} {o : Ob} {l d m : Value} (h : w.heap[b]? = some (boxO o l d m)) : ObCells w ⟨b, 0, none⟩ o l d m := by
  constructor <;> simp [World.cell?, h]
def OneDrawn (w : World) (g s : Nat) (e : Ending) (w' : World) : Prop := ∃ o l d m, e = .returned (obV o l d m) ∧ OwnO w.heap.size w'.heap.size w' l d m o ∧ obN o ≤ 14 ∧ Fits o ∧ CurE w' g s ∧ w.grownBy w' (some g)
set_option maxHeartbeats 16000000 in
theorem l8One_any (w : World) (g s : Nat) (h : CurE w g s) (hs : s ≤ w.heap.size) :
    Calls Try.prog 18 #[.pointer (some ⟨g, 0, none⟩)] w fun e w' => OneDrawn w g s e w' := by
  have C0 := l8Any_any (w.alloc (boxO noOb (.slice none 0 0) (.slice none 0 0) (.slice none 0 0))) g s (h.alloc _ hs) (by simp; omega)
  have Hs : Hid (s ≤ w.heap.size) := hs
  have HGL : Hid (g < w.heap.size) := Nat.lt_of_lt_of_le h.lt hs
  have HV0 : Hid ((w.alloc (boxO noOb (.slice none 0 0) (.slice none 0 0) (.slice none 0 0))).heap[w.heap.size]? = some (boxO noOb (.slice none 0 0) (.slice none 0 0) (.slice none 0 0)) ∧ w.grownBy (w.alloc (boxO noOb (.slice none 0 0) (.slice none 0 0) (.slice none 0 0))) (some g) ∧ (w.alloc (boxO noOb (.slice none 0 0) (.slice none 0 0) (.slice none 0 0))).heap.size = w.heap.size + 1) := ⟨heap_alloc_new w _, World.grownBy_alloc w _ _, by simp⟩
  clear h hs
  go_enter Try.func18, Try.ntmps18
  go_wp2_with fail
  refine C0.mono ?_
  rintro e w1 ⟨v, rfl, hga⟩
  obtain ⟨ga, n, c, fs, rs, rfl, hl, hn, ho, hN, hf⟩ := hga.own
  rw [HV0.out.2.2] at ho
  have HC1 := hid_of hga.cur
  have HG1 := hid_of (grownBy_trans HV0.out.2.1 hga.grown)
  have HR1 : Hid (w1.heap[w.heap.size]? = some (boxO noOb (.slice none 0 0) (.slice none 0 0) (.slice none 0 0))) := grown_kept hga.grown HV0.out.1 (fun e => by have := HGL.out; have := Option.some.inj e; omega)
  have HO1 := hid_of ho
  have HNN := hid_of hN
  have HFI := hid_of hf
  have HL : Hid (fs.length = n) := hl
  clear C0 hga ho hN hf hl HV0
  by_cases n0 : n = 0
  · subst n0
    obtain ⟨y0, y1, y2, y3, y4, y5, y6, y7, y8, y9, y10, y11, y12⟩ := box13 HR1.out
    have fy := frozen_of HR1.out
    have HD : Hid ((w13 w1 w.heap.size 0 noOb (.slice none 0 0) (.slice none 0 0) (.slice none 0 0)).heap[w.heap.size]? = some (boxO noOb (.slice none 0 0) (.slice none 0 0) (.slice none 0 0)) ∧ CurE (w13 w1 w.heap.size 0 noOb (.slice none 0 0) (.slice none 0 0) (.slice none 0 0)) g s ∧ w.grownBy (w13 w1 w.heap.size 0 noOb (.slice none 0 0) (.slice none 0 0) (.slice none 0 0)) (some g)) := ⟨heap_w13_new HR1.out _ _ _ _, HC1.out.below (below_w13 (Below.refl _ _) Hs.out _ _ _ _ _), grown_w13 HG1.out (Nat.le_refl _) _ _ _ _ _⟩
    clear HO1 HNN HFI HL HR1
    go_wp2
    clear y0 y1 y2 y3 y4 y5 y6 y7 y8 y9 y10 y11 y12 fy
    show bodyPost _ _ _ _ _ (w13 w1 w.heap.size 0 noOb (.slice none 0 0) (.slice none 0 0) (.slice none 0 0))
    have hd := HD.out
    clear HD
    generalize (w13 w1 w.heap.size 0 noOb (.slice none 0 0) (.slice none 0 0) (.slice none 0 0)) = WW at hd ⊢
    refine bodyPost_ret (v := obV noOb (.slice none 0 0) (.slice none 0 0) (.slice none 0 0)) (by have e := hd.1; simp [noOb] at e; simp [results, go_sem, World.cell?, e, noOb]) rfl ⟨_, _, _, _, rfl, ⟨⟨none, 0, rfl, Nat.le_refl _, fun h0 => absurd rfl h0⟩, ⟨none, 0, rfl, Nat.le_refl _, fun h0 => absurd rfl h0⟩, ⟨none, 0, rfl, Nat.le_refl _, fun h0 => absurd rfl h0⟩, by simp [Go.Proofs.Ytokicnopfmokaaa.blk]⟩, by decide, by unfold Fits noOb; simp, hd.2.1, hd.2.2⟩
  · have n0b : ((n : Int) == 0) = false := by simp; omega
    have C1 := belowE w1 g s n HC1.out (by omega) (by omega)
    clear n0
    go_wp2_with fail
    refine C1.mono ?_
    rintro e w2 ⟨k, rfl, hk, hc, hgr⟩
    have HO2 := hid_of (HO1.out.byg hgr (Nat.lt_succ_of_lt HGL.out)).fit
    have HC2 := hid_of hc
    have HG2 := hid_of (grownBy_trans HG1.out hgr)
    have HR2 := hid_of (grown_kept hgr HR1.out (fun e => by have := HGL.out; have := Option.some.inj e; omega))
    have hkf : k < fs.length := by rw [HL.out]; exact hk
    have hkn : (k : Int) < (n : Int) := by omega
    have hbk := HNN.out k
    have hfk := HFI.out k
    rw [arOf_at] at hbk hfk
    obtain ⟨x0, x1, x2, x3, x4, x5, x6, x7, x8, x9, x10, x11, x12⟩ := HO2.out.cells hkf
    have hoo := HO2.out.own k hkf
    have hcap : n ≤ c := by have := HO2.out.cap; have := HL.out; omega
    have hq := add_head ga (k * 13)
    have hgz : ∀ b, b ∈ Go.Proofs.Ytokicnopfmokaaa.blk (elAt fs k).l ++ Go.Proofs.Ytokicnopfmokaaa.blk (elAt fs k).d ++ Go.Proofs.Ytokicnopfmokaaa.blk (elAt fs k).m → b < w2.heap.size := fun b hb => (hoo.blk hb).2.2
    generalize elAt fs k = E at hbk hfk x0 x1 x2 x3 x4 x5 x6 x7 x8 x9 x10 x11 x12 hoo hgz
    obtain ⟨o, l, d, m⟩ := E
    simp only at hbk hfk x0 x1 x2 x3 x4 x5 x6 x7 x8 x9 x10 x11 x12 hoo hgz
    obtain ⟨la, ln, lc, hl1⟩ : ∃ a n c, l = .slice a n c := by (obtain ⟨a, cc, hv, _⟩ := hoo.ls; exact ⟨a, _, cc, hv⟩)
    obtain ⟨da, dn, dc, hd1⟩ : ∃ a n c, d = .slice a n c := by (obtain ⟨a, cc, hv, _⟩ := hoo.ds; exact ⟨a, _, cc, hv⟩)
    obtain ⟨ma, mn, mc, hm1⟩ : ∃ a n c, m = .slice a n c := by (obtain ⟨a, cc, hv, _⟩ := hoo.qs; exact ⟨a, _, cc, hv⟩)
    subst hl1
    subst hd1
    subst hm1
    have hal := below_alloc w2 (boxO o (.slice la ln lc) (.slice da dn dc) (.slice ma mn mc))
    have H3 : Hid (OneS w g s w.heap.size w2.heap.size (w.heap.size + 1) o (.slice la ln lc) (.slice da dn dc) (.slice ma mn mc) (w2.alloc (boxO o (.slice la ln lc) (.slice da dn dc) (.slice ma mn mc)))) := by
      have hsz := HG2.out.size
      have hsr := lt_of_block HR2.out
      exact ⟨HC2.out.below (hal.mono (by have := Hs.out; omega)), grown8_then HG2.out hal hsz, hoo.on hal (Nat.le_refl _) hal.size, heap_alloc_new w2 _, keep HR2.out hal, Hs.out, Nat.le_refl _, by omega, by omega, fun hm => by have := hgz _ hm; omega⟩
    have HOB : Hid (obN o ≤ 13 ∧ Fits o) := ⟨hbk, hfk⟩
    obtain ⟨W3, hW3⟩ : ∃ W3, W3 = w2.alloc (boxO o (.slice la ln lc) (.slice da dn dc) (.slice ma mn mc)) := ⟨_, rfl⟩
    rw [← hW3] at H3
    clear C1 hc hgr HO1 HC1 HG1 HR1 HNN HFI HO2 HC2 HG2 HR2 hkf hbk hfk hoo hgz hal HL
    dsimp only
    repeat (first | (with_reducible refine halt_region (id := 5) ?_) | go_values | go_skip | go_guarded | go_step | go_upon | go_back)
    unfold Halt0
    rw [← hW3]
    obtain ⟨B, hB⟩ : ∃ B, B = w2.heap.size := ⟨_, rfl⟩
    rw [← hB] at H3 ⊢
    clear hB hW3 x0 x1 x2 x3 x4 x5 x6 x7 x8 x9 x10 x11 x12 hq hkn hk hcap n0b
    go_wp2_with fail
    refine (belowE W3 g s 12 H3.out.cur (by omega) (by omega)).mono ?_
    rintro e w4 ⟨q, rfl, hq, hc, hgr⟩
    have H4 := hid_of (H3.out.by' hc hgr)
    clear hc hgr H3
    obtain ⟨x, hx⟩ : ∃ x : Int, x = (q : Int) := ⟨_, rfl⟩
    rw [← hx]
    clear hx hq
    have HBZ : Hid (B < w4.heap.size) := lt_of_block H4.out.box
    by_cases q0 : x = 0
    · subst q0
      obtain ⟨V, hV⟩ : ∃ V, V = w4.alloc (.cells #[.int .i64 1000] 3 (0, 0)) := ⟨_, rfl⟩
      have hbV : Below w4.heap.size w4 V := by rw [hV]; exact below_alloc w4 _
      have H5 := hid_of (H4.out.on hbV)
      have HCE : Hid (∀ (j : Nat) u, (icells [1000])[j]? = some u → V.cell? ⟨w4.heap.size, j, none⟩ = some u) := fun j u hj => by
        rw [hV]
        simp only [World.cell?, heap_alloc_new]
        simpa [icells] using hj
      have HNL : Hid (o.ds.length + 1 ≤ 1048576) := by show _ ≤ _; have e := HOB.out.1; unfold obN at e; omega
      have HLO : Hid (w.heap.size + 1 ≤ V.heap.size) := by show _ ≤ _; have := hbV.size; have := HBZ.out; have := H4.out.hB; omega
      obtain ⟨i0, i1, i2, i3, i4, i5, i6, i7, i8, i9, i10, i11, i12⟩ := box13 H4.out.box
      obtain ⟨v0, v1, v2, v3, v4, v5, v6, v7, v8, v9, v10, v11, v12⟩ := box13 H5.out.box
      clear hbV
      go_wp2_with (at_builtin; refine wpList_appL rfl (.tmp 23) (.tmp 24) rfl _ (w.heap.size + 1) V.heap.size w4.heap.size (.slice da dn dc) o.ds [1000] 1 1 rfl rfl (by rw [← hV]; exact H5.out.own.ds) (by rw [← hV]; exact HLO.out) (by rw [← hV]; exact Nat.le_refl _) rfl (by decide) (by rw [← hV]; exact HCE.out) HNL.out ?_; intro v' w' h1 h2 h3; rw [← hV] at h2 h3; obtain ⟨hbx, h6⟩ := H5.out.data h1.out h2.out h3.out; obtain ⟨a5, n5, c5, rfl⟩ : ∃ a n c, v' = .slice a n c := (by obtain ⟨a, cc, hv, _⟩ := h1.out; exact ⟨a, _, cc, hv⟩); have H6 := hid_of h6; obtain ⟨u0, u1, u2, u3, u4, u5, u6, u7, u8, u9, u10, u11, u12⟩ := box13 hbx; have fu := frozen_of hbx; obtain ⟨k0, k1, k2, k3, k4, k5, k6, k7, k8, k9, k10, k11, k12⟩ := box13 H6.out.box; obtain ⟨y0, y1, y2, y3, y4, y5, y6, y7, y8, y9, y10, y11, y12⟩ := box13 H6.out.res; have fy := frozen_of H6.out.res; clear hbx h6 h1 h2 h3 H4 H5)
      have HD := hid_of H6.out.done
      clear k0 k1 k2 k3 k4 k5 k6 k7 k8 k9 k10 k11 k12 y0 y1 y2 y3 y4 y5 y6 y7 y8 y9 y10 y11 y12 fy
      show bodyPost _ _ _ _ _ (w13 (w'.setCell ⟨B, 11, none⟩ (.slice a5 n5 c5)) w.heap.size 0 { o with ds := o.ds ++ [1000] } (.slice la ln lc) (.slice a5 n5 c5) (.slice ma mn mc))
      have hd := HD.out
      clear HD
      generalize (w13 (w'.setCell ⟨B, 11, none⟩ (.slice a5 n5 c5)) w.heap.size 0 { o with ds := o.ds ++ [1000] } (.slice la ln lc) (.slice a5 n5 c5) (.slice ma mn mc)) = WW at hd ⊢
      exact bodyPost_ret (v := obV { o with ds := o.ds ++ [1000] } (.slice la ln lc) (.slice a5 n5 c5) (.slice ma mn mc)) (by have e := hd.1; simp [results, go_sem, World.cell?, e]) rfl ⟨_, _, _, _, rfl, hd.2.1, (by have e := HOB.out.1; unfold obN at e ⊢; simp; omega), HOB.out.2, hd.2.2.1, hd.2.2.2⟩
    by_cases q1 : x = 1
    · subst q1
      obtain ⟨V, hV⟩ : ∃ V, V = w4.alloc (.cells #[.int .i64 (-2), .int .i64 0] 63 (0, 0)) := ⟨_, rfl⟩
      have hbV : Below w4.heap.size w4 V := by rw [hV]; exact below_alloc w4 _
      have H5 := hid_of (H4.out.on hbV)
      have HCE : Hid (∀ (j : Nat) u, (mcells [⟨-2, 0⟩])[j]? = some u → V.cell? ⟨w4.heap.size, j, none⟩ = some u) := fun j u hj => by
        rw [hV]
        simp only [World.cell?, heap_alloc_new]
        simpa [mcells] using hj
      have HNL : Hid (o.qs.length + 1 ≤ 1048576) := by show _ ≤ _; have e := HOB.out.1; unfold obN at e; omega
      have HLO : Hid (w.heap.size + 1 ≤ V.heap.size) := by show _ ≤ _; have := hbV.size; have := HBZ.out; have := H4.out.hB; omega
      obtain ⟨i0, i1, i2, i3, i4, i5, i6, i7, i8, i9, i10, i11, i12⟩ := box13 H4.out.box
      obtain ⟨v0, v1, v2, v3, v4, v5, v6, v7, v8, v9, v10, v11, v12⟩ := box13 H5.out.box
      clear hbV
      go_wp2_with (at_builtin; refine wpList_appQ rfl (.tmp 30) (.tmp 32) rfl _ (w.heap.size + 1) V.heap.size w4.heap.size (.slice ma mn mc) o.qs [⟨-2, 0⟩] 1 1 rfl rfl (by rw [← hV]; exact H5.out.own.qs) (by rw [← hV]; exact HLO.out) (by rw [← hV]; exact Nat.le_refl _) rfl (by decide) (by rw [← hV]; exact HCE.out) HNL.out ?_; intro v' w' h1 h2 h3; rw [← hV] at h2 h3; obtain ⟨hbx, h6⟩ := H5.out.queue h1.out h2.out h3.out; obtain ⟨a5, n5, c5, rfl⟩ : ∃ a n c, v' = .slice a n c := (by obtain ⟨a, cc, hv, _⟩ := h1.out; exact ⟨a, _, cc, hv⟩); have H6 := hid_of h6; obtain ⟨u0, u1, u2, u3, u4, u5, u6, u7, u8, u9, u10, u11, u12⟩ := box13 hbx; have fu := frozen_of hbx; obtain ⟨k0, k1, k2, k3, k4, k5, k6, k7, k8, k9, k10, k11, k12⟩ := box13 H6.out.box; obtain ⟨y0, y1, y2, y3, y4, y5, y6, y7, y8, y9, y10, y11, y12⟩ := box13 H6.out.res; have fy := frozen_of H6.out.res; clear hbx h6 h1 h2 h3 H4 H5)
      have HD := hid_of H6.out.done
      clear k0 k1 k2 k3 k4 k5 k6 k7 k8 k9 k10 k11 k12 y0 y1 y2 y3 y4 y5 y6 y7 y8 y9 y10 y11 y12 fy
      show bodyPost _ _ _ _ _ (w13 (w'.setCell ⟨B, 12, none⟩ (.slice a5 n5 c5)) w.heap.size 0 { o with qs := o.qs ++ [⟨-2, 0⟩] } (.slice la ln lc) (.slice da dn dc) (.slice a5 n5 c5))
      have hd := HD.out
      clear HD
      generalize (w13 (w'.setCell ⟨B, 12, none⟩ (.slice a5 n5 c5)) w.heap.size 0 { o with qs := o.qs ++ [⟨-2, 0⟩] } (.slice la ln lc) (.slice da dn dc) (.slice a5 n5 c5)) = WW at hd ⊢
      exact bodyPost_ret (v := obV { o with qs := o.qs ++ [⟨-2, 0⟩] } (.slice la ln lc) (.slice da dn dc) (.slice a5 n5 c5)) (by have e := hd.1; simp [results, go_sem, World.cell?, e]) rfl ⟨_, _, _, _, rfl, hd.2.1, (by have e := HOB.out.1; unfold obN at e ⊢; simp; omega), HOB.out.2, hd.2.2.1, hd.2.2.2⟩
    by_cases q2 : x = 2
    · subst q2
      obtain ⟨i0, i1, i2, i3, i4, i5, i6, i7, i8, i9, i10, i11, i12⟩ := box13 H4.out.box
      have fi := frozen_of H4.out.box
      have H6 := hid_of (H4.out.pages (wrap64 (o.pages + 1)))
      obtain ⟨k0, k1, k2, k3, k4, k5, k6, k7, k8, k9, k10, k11, k12⟩ := box13 H6.out.box
      obtain ⟨y0, y1, y2, y3, y4, y5, y6, y7, y8, y9, y10, y11, y12⟩ := box13 H6.out.res
      have fy := frozen_of H6.out.res
      clear H4
      go_wp2
      have HD := hid_of H6.out.done
      clear k0 k1 k2 k3 k4 k5 k6 k7 k8 k9 k10 k11 k12 y0 y1 y2 y3 y4 y5 y6 y7 y8 y9 y10 y11 y12 fy
      show bodyPost _ _ _ _ _ (w13 (w4.setCell ⟨B, 5, none⟩ (.int .i64 (wrap64 (o.pages + 1)))) w.heap.size 0 { o with pages := wrap64 (o.pages + 1) } (.slice la ln lc) (.slice da dn dc) (.slice ma mn mc))
      have hd := HD.out
      clear HD
      generalize (w13 (w4.setCell ⟨B, 5, none⟩ (.int .i64 (wrap64 (o.pages + 1)))) w.heap.size 0 { o with pages := wrap64 (o.pages + 1) } (.slice la ln lc) (.slice da dn dc) (.slice ma mn mc)) = WW at hd ⊢
      exact bodyPost_ret (v := obV { o with pages := wrap64 (o.pages + 1) } (.slice la ln lc) (.slice da dn dc) (.slice ma mn mc)) (by have e := hd.1; simp [results, go_sem, World.cell?, e]) rfl ⟨_, _, _, _, rfl, hd.2.1, (Nat.le_trans HOB.out.1 (by decide)), HOB.out.2, hd.2.2.1, hd.2.2.2⟩
    have b0 : (x == 0) = false := beq_eq_false_iff_ne.2 q0
    have b1 : (x == 1) = false := beq_eq_false_iff_ne.2 q1
    have b2 : (x == 2) = false := beq_eq_false_iff_ne.2 q2
    clear q0 q1 q2
    obtain ⟨k0, k1, k2, k3, k4, k5, k6, k7, k8, k9, k10, k11, k12⟩ := box13 H4.out.box
    obtain ⟨y0, y1, y2, y3, y4, y5, y6, y7, y8, y9, y10, y11, y12⟩ := box13 H4.out.res
    have fy := frozen_of H4.out.res
    go_wp2
    have HD := hid_of H4.out.done
    clear k0 k1 k2 k3 k4 k5 k6 k7 k8 k9 k10 k11 k12 y0 y1 y2 y3 y4 y5 y6 y7 y8 y9 y10 y11 y12 fy
    show bodyPost _ _ _ _ _ (w13 w4 w.heap.size 0 o (.slice la ln lc) (.slice da dn dc) (.slice ma mn mc))
    have hd := HD.out
    clear HD
    generalize (w13 w4 w.heap.size 0 o (.slice la ln lc) (.slice da dn dc) (.slice ma mn mc)) = WW at hd ⊢
    exact bodyPost_ret (v := obV o (.slice la ln lc) (.slice da dn dc) (.slice ma mn mc)) (by have e := hd.1; simp [results, go_sem, World.cell?, e]) rfl ⟨_, _, _, _, rfl, hd.2.1, (Nat.le_trans HOB.out.1 (by decide)), HOB.out.2, hd.2.2.1, hd.2.2.2⟩
end Go.Proofs.Ytokicnopfmokaaa
namespace Go.Proofs.Ytokicnopfmokaaa
open Go.RowKit
set_option linter.unusedVariables false
set_option maxRecDepth 100000

theorem below_cur {w w1 w2 : World} (hb : Below w.heap.size w w1) (hg : w1.grownBy w2 (some w.heap.size)) : Below w.heap.size w w2 :=
  hb.grown hg hb.size (fun k e => by cases e; exact Nat.le_refl _)
theorem GrowN.arena {w wr : World} {g s : Nat} {v : Value} (h : GrowN w g s v wr) : ∃ ga n c os, v = .slice (some ⟨ga, 0, none⟩) n c ∧ os.length = n ∧ n ≤ 10 ∧ IsArena wr (.slice (some ⟨ga, 0, none⟩) n c) os ∧ (∀ i, obN (obAt os i) ≤ 13) ∧ AllFit os := by
  obtain ⟨ga, n, c, fs, rs, rfl, hl, hn, ho, hs, hf⟩ := h.own
  have e := ho.arena
  rw [hl] at e
  exact ⟨ga, n, c, _, rfl, by rw [arOf_length]; exact hl, hn, e, hs, hf⟩
def ReachDrawn (w : World) (e : Ending) (w' : World) : Prop := ∃ (p : Addr) (n c : Nat) (os : List Ob) (t : Nat), e = .returned (.tuple #[.slice (some p) n c, .int .i64 t]) ∧ t < 30 ∧ os.length = n ∧ n ≤ 10 ∧ IsArena w' (.slice (some p) n c) os ∧ (∀ i, obN (obAt os i) ≤ 13) ∧ AllFit os ∧ Below w.heap.size w w'
end Go.Proofs.Ytokicnopfmokaaa
namespace Go.Proofs.Ytokicnopfmokaaa
open Go.RowKit
set_option linter.unusedVariables false
set_option maxRecDepth 100000
set_option maxRecDepth 100000

theorem OwnA.keepIn9 {g cap : Nat} {es : List El} {rest : List Value} {lo hi : Nat} {w w' : World} (h : OwnA g cap es rest lo hi w) (hk : ∀ k x, lo ≤ k → w.heap[k]? = some x → w'.heap[k]? = some x) : OwnA g cap es rest lo hi w' :=
  ⟨hk _ _ h.lo h.at', h.cap, h.lo, h.hi, fun i hi' => (h.own i hi').move (fun b' x h1 _ hx => hk b' x h1 hx) (Nat.le_refl _) (Nat.le_refl _), h.ne, h.apart⟩
def FreeDrawn (w : World) (e : Ending) (w' : World) : Prop := ∃ (ga n c : Nat) (os : List Ob) (x : Int), e = .returned (.tuple #[.slice (some ⟨ga, 0, none⟩) n c, .int .i64 x]) ∧ (-1 ≤ x ∧ x ≤ 10) ∧ os.length = n ∧ n ≤ 10 ∧ IsArena w' (.slice (some ⟨ga, 0, none⟩) n c) os ∧ (∀ i, obN (obAt os i) ≤ 13) ∧ AllFit os ∧ Below w.heap.size w w'
set_option maxHeartbeats 1000000 in
theorem drawFree_any (w : World) (a : Option Addr) (len cap : Nat) (cb : Nat → Nat) (hc : Code0 w a len cb) :
    Calls Try.prog 10 #[.slice a len cap] w fun e w' => FreeDrawn w e w' := by
  have C0 := newE w a len cap cb hc
  clear hc
  go_enter Try.func10, Try.ntmps10
  go_wp2_with fail
  refine C0.mono ?_
  rintro e w1 ⟨rfl, hc, hb⟩
  have C1 := l8Any_any w1 w.heap.size w1.heap.size hc (Nat.le_refl _)
  have HB1 := hid_of hb
  clear C0 hc hb
  go_wp2_with fail
  refine C1.mono ?_
  rintro e w2 ⟨v, rfl, hg⟩
  have C2 := belowE w2 w.heap.size w1.heap.size 12 hg.cur (by decide) (by decide)
  have HB2 := hid_of (below_cur HB1.out hg.grown)
  obtain ⟨ga, n, c, fs, rs, rfl, hl, hn, ho, hs, hf⟩ := hg.own
  have HA : Hid (fs.length = n ∧ n ≤ 10 ∧ OwnA ga c fs rs w1.heap.size w2.heap.size w2 ∧ (∀ i, obN (obAt (arOf fs) i) ≤ 13) ∧ AllFit (arOf fs) ∧ w.heap.size < w1.heap.size) := ⟨hl, hn, ho, hs, hf, hg.cur.lt⟩
  clear C1 hg HB1 hl hn ho hs hf
  go_wp2_with fail
  refine C2.mono ?_
  rintro e w3 ⟨t, rfl, ht, hc3, hgr3⟩
  have HB3 := hid_of (below_cur HB2.out hgr3)
  have HA3 := hid_of (HA.out.2.2.1.byg hgr3 HA.out.2.2.2.2.2)
  obtain ⟨x, hx⟩ : ∃ x, x = (t : Int) - 1 := ⟨_, rfl⟩
  have HT : Hid (-1 ≤ x ∧ x ≤ 10) := by constructor <;> omega
  have hw : wrap64 ((t : Int) - 1) = x := by unfold wrap64; omega
  clear C2 hc3 hgr3 HB2 hx ht
  go_wp2
  go_returns
  have e := HA3.out.arena
  rw [HA.out.1] at e
  exact ⟨_, _, _, _, _, rfl, by rw [hw]; exact HT.out, by rw [arOf_length]; exact HA.out.1, HA.out.2.1, e, HA.out.2.2.2.1, HA.out.2.2.2.2.1, HB3.out⟩
def PutDrawn (w : World) (e : Ending) (w' : World) : Prop := ∃ (ga n c : Nat) (os : List Ob) (o : Ob) (l d m : Value), e = .returned (.tuple #[.slice (some ⟨ga, 0, none⟩) n c, obV o l d m]) ∧ os.length = n ∧ n ≤ 10 ∧ IsArena w' (.slice (some ⟨ga, 0, none⟩) n c) os ∧ (∀ i, obN (obAt os i) ≤ 13) ∧ AllFit os ∧ Lists w' l d m o ∧ obN o ≤ 14 ∧ Fits o ∧ Below w.heap.size w w'
set_option maxHeartbeats 2000000 in
theorem drawPut_any (w : World) (a : Option Addr) (len cap : Nat) (cb : Nat → Nat) (hc : Code0 w a len cb) :
    Calls Try.prog 5 #[.slice a len cap] w fun e w' => PutDrawn w e w' := by
  have hal := below_alloc w (boxO noOb (.slice none 0 0) (.slice none 0 0) (.slice none 0 0))
  have hsz : (w.alloc (boxO noOb (.slice none 0 0) (.slice none 0 0) (.slice none 0 0))).heap.size = w.heap.size + 1 := by simp
  have C0 := newE (w.alloc (boxO noOb (.slice none 0 0) (.slice none 0 0) (.slice none 0 0))) a len cap cb (hc.on hal)
  rw [hsz] at C0
  have HAL := hid_of hal
  have HZ : Hid ((w.alloc (boxO noOb (.slice none 0 0) (.slice none 0 0) (.slice none 0 0))).heap[w.heap.size]? = some (boxO noOb (.slice none 0 0) (.slice none 0 0) (.slice none 0 0))) := heap_alloc_new w _
  have HSZ := hid_of hsz
  clear hc hal hsz
  go_enter Try.func5, Try.ntmps5
  go_wp2_with fail
  refine C0.mono ?_
  rintro e w1 ⟨rfl, hc, hb⟩
  have C1 := l8Any_any w1 (w.heap.size + 1) w1.heap.size hc (Nat.le_refl _)
  have HB1 : Hid (Below w.heap.size w w1) := below_more HAL.out (by rw [HSZ.out]; exact hb)
  have HZ1 : Hid (w1.heap[w.heap.size]? = some (boxO noOb (.slice none 0 0) (.slice none 0 0) (.slice none 0 0))) := keep HZ.out (by rw [HSZ.out]; exact hb)
  clear C0 hc hb HZ HAL HSZ
  go_wp2_with fail
  refine C1.mono ?_
  rintro e w2 ⟨v, rfl, hg⟩
  have C2 := onceE w2 (w.heap.size + 1) w1.heap.size 2 hg.cur (by decide) (by decide)
  obtain ⟨ga, n, c, fs, rs, rfl, hl, hn, ho, hs, hf⟩ := hg.own
  have HA : Hid (fs.length = n ∧ n ≤ 10 ∧ OwnA ga c fs rs w1.heap.size w2.heap.size w2 ∧ (∀ i, obN (obAt (arOf fs) i) ≤ 13) ∧ AllFit (arOf fs) ∧ w.heap.size + 1 < w1.heap.size) := ⟨hl, hn, ho, hs, hf, hg.cur.lt⟩
  have HG2 := hid_of hg.grown
  clear C1 hg hl hn ho hs hf
  go_wp2_with fail
  refine C2.mono ?_
  rintro e w3 ⟨t, rfl, hc3, hgr3⟩
  have HG3 := hid_of (grownBy_trans HG2.out hgr3)
  have HA3 := hid_of ((HA.out.2.2.1.byg hgr3 HA.out.2.2.2.2.2).fit)
  have HC3 := hid_of hc3
  have HS3 : Hid (w1.heap.size ≤ w3.heap.size) := HG3.out.size
  clear C2 hc3 hgr3 HG2
  cases t with
  | true =>
    have e := HA3.out.arena
    rw [HA.out.1] at e
    have C3 := l8NewN_any n HA.out.2.1 w3 (w.heap.size + 1) w1.heap.size ⟨ga, 0, none⟩ c (arOf fs) HC3.out HS3.out e (by rw [arOf_length]; exact HA.out.1)
    clear e
    go_wp2_with fail
    refine C3.mono ?_
    rintro e w4 ⟨o, l, d, m, rfl, hoo, hno, hfo, hc4, hg4⟩
    have HN : Hid (obN o ≤ 14) := Nat.le_trans hno (by decide)
    have HG4 := hid_of (grownBy_trans HG3.out hg4)
    have HZ4 : Hid (w4.heap[w.heap.size]? = some (boxO noOb (.slice none 0 0) (.slice none 0 0) (.slice none 0 0))) := grown_kept HG4.out HZ1.out (fun e => by have := Option.some.inj e; omega)
    have HA4 := hid_of (HA3.out.byg hg4 HA.out.2.2.2.2.2)
    have HF := hid_of hfo
    obtain ⟨la, ln, lc, hl1⟩ : ∃ a n c, l = .slice a n c := by (obtain ⟨a, cc, hv, _⟩ := hoo.ls; exact ⟨a, _, cc, hv⟩)
    obtain ⟨da, dn, dc, hd1⟩ : ∃ a n c, d = .slice a n c := by (obtain ⟨a, cc, hv, _⟩ := hoo.ds; exact ⟨a, _, cc, hv⟩)
    obtain ⟨ma, mn, mc, hm1⟩ : ∃ a n c, m = .slice a n c := by (obtain ⟨a, cc, hv, _⟩ := hoo.qs; exact ⟨a, _, cc, hv⟩)
    subst hl1
    subst hd1
    subst hm1
    have HD : Hid ((w13 w4 w.heap.size 0 o (.slice la ln lc) (.slice da dn dc) (.slice ma mn mc)).heap[w.heap.size]? = some (boxO o (.slice la ln lc) (.slice da dn dc) (.slice ma mn mc)) ∧ IsArena (w13 w4 w.heap.size 0 o (.slice la ln lc) (.slice da dn dc) (.slice ma mn mc)) (.slice (some ⟨ga, 0, none⟩) n c) (arOf fs) ∧ Lists (w13 w4 w.heap.size 0 o (.slice la ln lc) (.slice da dn dc) (.slice ma mn mc)) (.slice la ln lc) (.slice da dn dc) (.slice ma mn mc) o ∧ Below w.heap.size w (w13 w4 w.heap.size 0 o (.slice la ln lc) (.slice da dn dc) (.slice ma mn mc))) := by
      have h1 := HA.out.2.2.2.2.2
      have h2 := HS3.out
      have h3 := (HA4.out.keepIn9 (w' := w13 w4 w.heap.size 0 o (.slice la ln lc) (.slice da dn dc) (.slice ma mn mc)) (fun k x hk hx => heap_w13_other hx (by omega) _ _ _ _ _)).arena
      rw [HA.out.1] at h3
      refine ⟨heap_w13_new HZ4.out _ _ _ _, h3, (hoo.move (w' := w13 w4 w.heap.size 0 o (.slice la ln lc) (.slice da dn dc) (.slice ma mn mc)) (fun k x h4 _ hx => heap_w13_other hx (by omega) _ _ _ _ _) (Nat.le_refl _) (Nat.le_refl _)).lists, below_w13 ?_ (Nat.le_refl _) _ _ _ _ _⟩
      exact HB1.out.grown HG4.out (by omega) (fun k e => by cases e; omega)
    obtain ⟨y0, y1, y2, y3, y4, y5, y6, y7, y8, y9, y10, y11, y12⟩ := box13 HZ4.out
    have fy := frozen_of HZ4.out
    clear hoo hno hfo hc4 hg4 HG3 HG4 HZ1 HZ4 HA3 HA4 HC3 HS3 HB1 C3
    go_wp2
    clear y0 y1 y2 y3 y4 y5 y6 y7 y8 y9 y10 y11 y12 fy
    show bodyPost _ _ _ _ _ (w13 w4 w.heap.size 0 o (.slice la ln lc) (.slice da dn dc) (.slice ma mn mc))
    have hd := HD.out
    clear HD
    generalize (w13 w4 w.heap.size 0 o (.slice la ln lc) (.slice da dn dc) (.slice ma mn mc)) = WW at hd ⊢
    exact bodyPost_ret (v := .tuple #[.slice (some ⟨ga, 0, none⟩) n c, obV o (.slice la ln lc) (.slice da dn dc) (.slice ma mn mc)]) (by have e := hd.1; simp [results, go_sem, World.cell?, e]) rfl ⟨_, _, _, _, _, _, _, _, rfl, by rw [arOf_length]; exact HA.out.1, HA.out.2.1, hd.2.1, HA.out.2.2.2.1, HA.out.2.2.2.2.1, hd.2.2.1, HN.out, HF.out, hd.2.2.2⟩
  | false =>
    have C3 := l8One_any w3 (w.heap.size + 1) w1.heap.size HC3.out HS3.out
    go_wp2_with fail
    refine C3.mono ?_
    rintro e w4 ⟨o, l, d, m, rfl, hoo, hno, hfo, hc4, hg4⟩
    have HN : Hid (obN o ≤ 14) := hno
    have HG4 := hid_of (grownBy_trans HG3.out hg4)
    have HZ4 : Hid (w4.heap[w.heap.size]? = some (boxO noOb (.slice none 0 0) (.slice none 0 0) (.slice none 0 0))) := grown_kept HG4.out HZ1.out (fun e => by have := Option.some.inj e; omega)
    have HA4 := hid_of (HA3.out.byg hg4 HA.out.2.2.2.2.2)
    have HF := hid_of hfo
    obtain ⟨la, ln, lc, hl1⟩ : ∃ a n c, l = .slice a n c := by (obtain ⟨a, cc, hv, _⟩ := hoo.ls; exact ⟨a, _, cc, hv⟩)
    obtain ⟨da, dn, dc, hd1⟩ : ∃ a n c, d = .slice a n c := by (obtain ⟨a, cc, hv, _⟩ := hoo.ds; exact ⟨a, _, cc, hv⟩)
    obtain ⟨ma, mn, mc, hm1⟩ : ∃ a n c, m = .slice a n c := by (obtain ⟨a, cc, hv, _⟩ := hoo.qs; exact ⟨a, _, cc, hv⟩)
    subst hl1
    subst hd1
    subst hm1
    have HD : Hid ((w13 w4 w.heap.size 0 o (.slice la ln lc) (.slice da dn dc) (.slice ma mn mc)).heap[w.heap.size]? = some (boxO o (.slice la ln lc) (.slice da dn dc) (.slice ma mn mc)) ∧ IsArena (w13 w4 w.heap.size 0 o (.slice la ln lc) (.slice da dn dc) (.slice ma mn mc)) (.slice (some ⟨ga, 0, none⟩) n c) (arOf fs) ∧ Lists (w13 w4 w.heap.size 0 o (.slice la ln lc) (.slice da dn dc) (.slice ma mn mc)) (.slice la ln lc) (.slice da dn dc) (.slice ma mn mc) o ∧ Below w.heap.size w (w13 w4 w.heap.size 0 o (.slice la ln lc) (.slice da dn dc) (.slice ma mn mc))) := by
      have h1 := HA.out.2.2.2.2.2
      have h2 := HS3.out
      have h3 := (HA4.out.keepIn9 (w' := w13 w4 w.heap.size 0 o (.slice la ln lc) (.slice da dn dc) (.slice ma mn mc)) (fun k x hk hx => heap_w13_other hx (by omega) _ _ _ _ _)).arena
      rw [HA.out.1] at h3
      refine ⟨heap_w13_new HZ4.out _ _ _ _, h3, (hoo.move (w' := w13 w4 w.heap.size 0 o (.slice la ln lc) (.slice da dn dc) (.slice ma mn mc)) (fun k x h4 _ hx => heap_w13_other hx (by omega) _ _ _ _ _) (Nat.le_refl _) (Nat.le_refl _)).lists, below_w13 ?_ (Nat.le_refl _) _ _ _ _ _⟩
      exact HB1.out.grown HG4.out (by omega) (fun k e => by cases e; omega)
    obtain ⟨y0, y1, y2, y3, y4, y5, y6, y7, y8, y9, y10, y11, y12⟩ := box13 HZ4.out
    have fy := frozen_of HZ4.out
    clear hoo hno hfo hc4 hg4 HG3 HG4 HZ1 HZ4 HA3 HA4 HC3 HS3 HB1 C3
    go_wp2
    clear y0 y1 y2 y3 y4 y5 y6 y7 y8 y9 y10 y11 y12 fy
    show bodyPost _ _ _ _ _ (w13 w4 w.heap.size 0 o (.slice la ln lc) (.slice da dn dc) (.slice ma mn mc))
    have hd := HD.out
    clear HD
    generalize (w13 w4 w.heap.size 0 o (.slice la ln lc) (.slice da dn dc) (.slice ma mn mc)) = WW at hd ⊢
    exact bodyPost_ret (v := .tuple #[.slice (some ⟨ga, 0, none⟩) n c, obV o (.slice la ln lc) (.slice da dn dc) (.slice ma mn mc)]) (by have e := hd.1; simp [results, go_sem, World.cell?, e]) rfl ⟨_, _, _, _, _, _, _, _, rfl, by rw [arOf_length]; exact HA.out.1, HA.out.2.1, hd.2.1, HA.out.2.2.2.1, HA.out.2.2.2.2.1, hd.2.2.1, HN.out, HF.out, hd.2.2.2⟩
end Go.Proofs.Ytokicnopfmokaaa
