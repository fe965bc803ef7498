/-
  A thing of an arena of the call's own is bent: one of its cells, or a list that is appended to. An arena is drawn that may be bent. What FnReached draws. What FnReached asks, of what is reached. The law's own 'big'. What is reached: the law, walked. Promise 9: what is reached; the law answers true at every code, with no condition.
-/
import Derived.ArgAppend
import Derived.Test.YtgijpflojffckaaCopy9
import Derived.Test.YtgijpflojffckaaLead
import Derived.Test.YtgijpflojffckaaAre9
import Derived.Test.YtgijpflojffckaaCap9
import Derived.Test.YtgijpflojffckaaPut9
import Derived.Test.YtgijpflojffckaaDraw28
import Derived.Test.YtgijpflojffckaaRows
import Derived.WalkKit
import Derived.ProofKit
import Derived.OpenShut
import Derived.ShutString
import Derived.ChangeOld
import Derived.Below
namespace Go.Proofs.Ytgijpflojffckaa
open Go.RowKit
set_option linter.unusedVariables false
set_option maxRecDepth 100000

theorem blk_own {v : Value} {b : Nat} (h : b ∈ Go.Proofs.Ytgijpflojffckaa.blk v) : v.ownBlock = some b := by
  unfold Go.Proofs.Ytgijpflojffckaa.blk at h
  split at h
  · simp at h; subst h; rfl
  · cases h
/-- append onto a list of the call's own, wherever it lies. -/
theorem run_appI (W : World) (lo hi : Nat) (v : Value) (xs new : List Int) (ty : TypeId) (h : OwnI lo hi W v xs) (hlo : lo ≤ W.heap.size) (hhi : hi ≤ W.heap.size) (g k c : Nat) (hk : new.length = k) (h0 : 0 < k) (hcell : ∀ (j : Nat) u, (icells new)[j]? = some u → W.cell? ⟨g, j, none⟩ = some u) (hb : xs.length + k ≤ 1048576) :
    ∃ v' w', (Builtin.append_ #[25, 25] ty #[v, .slice (some ⟨g, 0, none⟩) k c]).run Try.prog W = .ok v' w' ∧ OwnI lo w'.heap.size w' v' (xs ++ new) ∧ (∃ r, W.grownBy w' r ∧ ∀ b, r = some b → b ∈ Go.Proofs.Ytgijpflojffckaa.blk v) ∧ ∀ b, b ∈ Go.Proofs.Ytgijpflojffckaa.blk v' → b ∈ Go.Proofs.Ytgijpflojffckaa.blk v ∨ W.heap.size ≤ b := by
  subst hk
  obtain ⟨i0, hi0, hz0, hz1, hz2⟩ := info_parts info3
  have hcell' : ∀ (j : Nat) u, (icells new)[j]? = some u → W.cell? ((⟨g, 0, none⟩ : Addr).add j) = some u := fun j u hj => by rw [add_head]; exact hcell j u hj
  have hln : (icells new).length = new.length * 1 := by rw [icells_length]; omega
  obtain ⟨a, cap, rfl, hc, hx⟩ := h
  by_cases hz : cap = 0
  · subst hz
    obtain rfl : xs = [] := List.length_eq_zero_iff.1 (by omega)
    have hone : ∃ v' w', (Builtin.append_ #[25, 25] ty #[.slice a 0 0, .slice (some ⟨g, 0, none⟩) new.length c]).run Try.prog W = .ok v' w' ∧ w'.ownsRow W.heap.size 3 1 v' (0 + new.length) ([] ++ icells new) ∧ W.grownBy w' none := by
      cases a with
      | none =>
        obtain ⟨v', w', hr, h2, h3, h4, h5⟩ := run_append_own_at (P := Try.prog) W W.heap.size 25 ty 3 i0 _ 1 8 Try.underlying25 hi0 hz0 hz1 hz2 rfl (by decide) (.slice none 0 0) 0 [] (World.ownsRow_nil _ _ _ _) ⟨g, 0, none⟩ new.length c (icells new) hln hcell' (icells_one _) (by simp only [maxLen]; omega) (by omega) (Nat.le_refl _)
        exact ⟨v', w', hr, h2, h3⟩
      | some p => exact run_append_arg_grows (P := Try.prog) W 25 ty 3 i0 _ 1 8 Try.underlying25 hi0 hz0 hz1 hz2 rfl (by decide) p 0 0 [] (by simp) (fun j u hj => by simp at hj) ⟨g, 0, none⟩ new.length c (icells new) hln hcell' (by omega) (by simp only [maxLen]; omega) (by omega)
    obtain ⟨v', w', hr, h2, h3⟩ := hone
    have h2' : w'.ownsRow W.heap.size 3 1 v' new.length (icells new) := by simpa using h2
    have ho := ownI_row h2'
    refine ⟨v', w', hr, ho.move (fun _ _ _ _ x => x) hlo (Nat.le_refl _), ⟨none, h3, fun b e => by cases e⟩, fun b hb' => .inr (ho.blk hb').1⟩
  · obtain ⟨q, rs, rfl, h1, h2, h3, h4, h5⟩ := hx hz
    have hown : W.ownsRow lo 3 1 (.slice (some ⟨q, 0, none⟩) xs.length cap) xs.length (icells xs) := ⟨by rw [icells_length]; omega, .inr ⟨q, cap, (icells xs ++ rs).toArray, rfl, h1, h3, hc, h5, by simp [icells_length]; omega, by simp [icells_length]⟩⟩
    obtain ⟨v', w', hr, r2, r3, r4, r5⟩ := run_append_own_at (P := Try.prog) W lo 25 ty 3 i0 _ 1 8 Try.underlying25 hi0 hz0 hz1 hz2 rfl (by decide) _ xs.length _ hown ⟨g, 0, none⟩ new.length c (icells new) hln hcell' (icells_one _) (by simp only [maxLen]; omega) (by omega) hlo
    have r2' : w'.ownsRow lo 3 1 v' (xs ++ new).length (icells (xs ++ new)) := by rw [icells_append, List.length_append]; exact r2
    have hbq : Go.Proofs.Ytgijpflojffckaa.blk (.slice (some ⟨q, 0, none⟩) xs.length cap) = [q] := blk_one _ hz
    refine ⟨v', w', hr, ownI_row r2', ⟨_, r3, fun b e => ?_⟩, fun b hb' => ?_⟩
    · rw [hbq]
      simp [Value.ownBlock] at e
      simp [e]
    · have e := blk_own hb'
      rw [hbq]
      rcases r5 with r5 | r5 <;> rw [e] at r5
      · simp [Value.ownBlock] at r5
        left; simp [r5]
      · simp at r5
        right; omega
theorem run_appM (W : World) (lo hi : Nat) (v : Value) (xs new : List Ms) (ty : TypeId) (h : OwnM lo hi W v xs) (hlo : lo ≤ W.heap.size) (hhi : hi ≤ W.heap.size) (g k c : Nat) (hk : new.length = k) (h0 : 0 < k) (hcell : ∀ (j : Nat) u, (mcells new)[j]? = some u → W.cell? ⟨g, j, none⟩ = some u) (hb : xs.length + k ≤ 1048576) :
    ∃ v' w', (Builtin.append_ #[26, 26] ty #[v, .slice (some ⟨g, 0, none⟩) k c]).run Try.prog W = .ok v' w' ∧ OwnM lo w'.heap.size w' v' (xs ++ new) ∧ (∃ r, W.grownBy w' r ∧ ∀ b, r = some b → b ∈ Go.Proofs.Ytgijpflojffckaa.blk v) ∧ ∀ b, b ∈ Go.Proofs.Ytgijpflojffckaa.blk v' → b ∈ Go.Proofs.Ytgijpflojffckaa.blk v ∨ W.heap.size ≤ b := by
  subst hk
  obtain ⟨i0, hi0, hz0, hz1, hz2⟩ := info_parts infoMsg
  have hcell' : ∀ (j : Nat) u, (mcells new)[j]? = some u → W.cell? ((⟨g, 0, none⟩ : Addr).add j) = some u := fun j u hj => by rw [add_head]; exact hcell j u hj
  have hln : (mcells new).length = new.length * 2 := by rw [mcells_length]
  obtain ⟨a, cap, rfl, hc, hx⟩ := h
  by_cases hz : cap = 0
  · subst hz
    obtain rfl : xs = [] := List.length_eq_zero_iff.1 (by omega)
    have hone : ∃ v' w', (Builtin.append_ #[26, 26] ty #[.slice a 0 0, .slice (some ⟨g, 0, none⟩) new.length c]).run Try.prog W = .ok v' w' ∧ w'.ownsRow W.heap.size 65 2 v' (0 + new.length) ([] ++ mcells new) ∧ W.grownBy w' none := by
      cases a with
      | none =>
        obtain ⟨v', w', hr, h2, h3, h4, h5⟩ := run_append_own_at (P := Try.prog) W W.heap.size 26 ty 65 i0 _ 2 16 Try.underlying26 hi0 hz0 hz1 hz2 rfl (by decide) (.slice none 0 0) 0 [] (World.ownsRow_nil _ _ _ _) ⟨g, 0, none⟩ new.length c (mcells new) hln hcell' (mcells_one _) (by simp only [maxLen]; omega) (by omega) (Nat.le_refl _)
        exact ⟨v', w', hr, h2, h3⟩
      | some p => exact run_append_arg_grows (P := Try.prog) W 26 ty 65 i0 _ 2 16 Try.underlying26 hi0 hz0 hz1 hz2 rfl (by decide) p 0 0 [] (by simp) (fun j u hj => by simp at hj) ⟨g, 0, none⟩ new.length c (mcells new) hln hcell' (by omega) (by simp only [maxLen]; omega) (by omega)
    obtain ⟨v', w', hr, h2, h3⟩ := hone
    have h2' : w'.ownsRow W.heap.size 65 2 v' new.length (mcells new) := by simpa using h2
    have ho := ownM_row h2'
    refine ⟨v', w', hr, ho.move (fun _ _ _ _ x => x) hlo (Nat.le_refl _), ⟨none, h3, fun b e => by cases e⟩, fun b hb' => .inr (ho.blk hb').1⟩
  · obtain ⟨q, rs, rfl, h1, h2, h3, h4, h5⟩ := hx hz
    have hown : W.ownsRow lo 65 2 (.slice (some ⟨q, 0, none⟩) xs.length cap) xs.length (mcells xs) := ⟨by rw [mcells_length], .inr ⟨q, cap, (mcells xs ++ rs).toArray, rfl, h1, h3, hc, h5, by simp [mcells_length]; omega, by simp [mcells_length]⟩⟩
    obtain ⟨v', w', hr, r2, r3, r4, r5⟩ := run_append_own_at (P := Try.prog) W lo 26 ty 65 i0 _ 2 16 Try.underlying26 hi0 hz0 hz1 hz2 rfl (by decide) _ xs.length _ hown ⟨g, 0, none⟩ new.length c (mcells new) hln hcell' (mcells_one _) (by simp only [maxLen]; omega) (by omega) hlo
    have r2' : w'.ownsRow lo 65 2 v' (xs ++ new).length (mcells (xs ++ new)) := by rw [mcells_append, List.length_append]; exact r2
    have hbq : Go.Proofs.Ytgijpflojffckaa.blk (.slice (some ⟨q, 0, none⟩) xs.length cap) = [q] := blk_one _ hz
    refine ⟨v', w', hr, ownM_row r2', ⟨_, r3, fun b e => ?_⟩, fun b hb' => ?_⟩
    · rw [hbq]
      simp [Value.ownBlock] at e
      simp [e]
    · have e := blk_own hb'
      rw [hbq]
      rcases r5 with r5 | r5 <;> rw [e] at r5
      · simp [Value.ownBlock] at r5
        left; simp [r5]
      · simp at r5
        right; omega
/-- One cell of a thing is written: not one of its lists. -/
theorem OwnA.bend {g cap : Nat} {es : List El} {rest : List Value} {lo hi : Nat} {w : World} (h : OwnA g cap es rest lo hi w) {k : Nat} (hk : k < es.length) (j : Nat) (x : Int) (o' : Ob) (hj : j < 13) (hl : o'.ls = (elAt es k).o.ls ∧ o'.ds = (elAt es k).o.ds ∧ o'.qs = (elAt es k).o.qs)
    (he : elV ⟨o', (elAt es k).l, (elAt es k).d, (elAt es k).m⟩ = (elV (elAt es k)).set j (.int .i64 x)) :
    OwnA g cap (es.set k ⟨o', (elAt es k).l, (elAt es k).d, (elAt es k).m⟩) rest lo hi (w.setCell ⟨g, k * 13 + j, none⟩ (.int .i64 x)) := by
  have hgz := lt_of_block h.at'
  have hoo := h.own k hk
  have hne := h.ne k hk
  have HTW : Touch [g] w (w.setCell ⟨g, k * 13 + j, none⟩ (.int .i64 x)) := touch_one (grownBy_set w g _ _) hgz
  have hk3 : ∀ b y, b ∈ blks (elAt es k) → w.heap[b]? = some y → (w.setCell ⟨g, k * 13 + j, none⟩ (.int .i64 x)).heap[b]? = some y := fun b y hb hy => HTW.block _ _ (by simp; intro e; rw [e] at hb; exact hne hb) hy
  refine h.mark hk (o' := o') ?_ ⟨by rw [hl.1]; exact hoo.ls.keepIf fun b y hb hy => hk3 b y (by unfold blks; simp [hb]) hy, by rw [hl.2.1]; exact hoo.ds.keepIf fun b y hb hy => hk3 b y (by unfold blks; simp [hb]) hy, by rw [hl.2.2]; exact hoo.qs.keepIf fun b y hb hy => hk3 b y (by unfold blks; simp [hb]) hy, hoo.nd⟩ (fun b y hbg _ hy => HTW.block _ _ (by simpa using hbg) hy)
  have e := heap_setCell_same w g (k * 13 + j) _ 28 (.int .i64 x) h.at'
  rw [e, ecells_put1 hk rest ⟨o', (elAt es k).l, (elAt es k).d, (elAt es k).m⟩ j (.int .i64 x) hj he]
  simp only [List.setIfInBounds_toArray]
/-- The first k things of an arena. -/
theorem OwnA.take {g cap : Nat} {es : List El} {rest : List Value} {lo hi : Nat} {w : World} (h : OwnA g cap es rest lo hi w) (k : Nat) (hk : k ≤ es.length) : OwnA g cap (es.take k) (ecells (es.drop k) ++ rest) lo hi w := by
  have hlen : (es.take k).length = k := by simp; omega
  have hat : ∀ i, i < k → elAt (es.take k) i = elAt es i := fun i hi => by
    unfold elAt
    rw [List.getD_eq_getElem?_getD, List.getD_eq_getElem?_getD, List.getElem?_take]
    simp [hi]
  refine ⟨?_, by rw [hlen]; exact Nat.le_trans hk h.cap, h.lo, h.hi, fun i hi0 => ?_, fun i hi0 => ?_, fun i j hij hj => ?_⟩
  · rw [← List.append_assoc, ← ecells_append, List.take_append_drop]
    exact h.at'
  · rw [hlen] at hi0
    rw [hat i hi0]; exact h.own i (by omega)
  · rw [hlen] at hi0
    rw [hat i hi0]; exact h.ne i (by omega)
  · rw [hlen] at hj
    rw [hat i (by omega), hat j hj]; exact h.apart i j hij (by omega)
/-- A thing's lists are other ones now: where they were, or behind all that was there. -/
theorem OwnA.relist {g cap : Nat} {es : List El} {rest : List Value} {lo hi hi' : Nat} {w w1 : World} (h : OwnA g cap es rest lo hi w) {k : Nat} (hk : k < es.length) (hh : hi ≤ hi') {o' : Ob} {l' d' m' : Value} (ho : OwnO lo hi' w1 l' d' m' o')
    (hg : w1.heap[g]? = some (.cells (ecells (es.set k ⟨o', l', d', m'⟩) ++ rest).toArray 28 (0, 0)))
    (hother : ∀ b x, b ≠ g → b ∉ blks (elAt es k) → w.heap[b]? = some x → w1.heap[b]? = some x)
    (hnew : ∀ b, b ∈ Go.Proofs.Ytgijpflojffckaa.blk l' ++ Go.Proofs.Ytgijpflojffckaa.blk d' ++ Go.Proofs.Ytgijpflojffckaa.blk m' → b ∈ blks (elAt es k) ∨ hi ≤ b) : OwnA g cap (es.set k ⟨o', l', d', m'⟩) rest lo hi' w1 := by
  have hap : ∀ i, i ≠ k → i < es.length → ∀ b, b ∈ blks (elAt es i) → b ∉ blks (elAt es k) := fun i hne hi0 b hb hbk => by
    rcases Nat.lt_or_gt_of_ne hne with h1 | h1
    · exact h.apart i k h1 hk b hb hbk
    · exact h.apart k i h1 hi0 b hbk hb
  have hlt : ∀ i, i < es.length → ∀ b, b ∈ blks (elAt es i) → b < hi := fun i hi0 b hb => ((h.own i hi0).blk hb).2.1
  refine ⟨hg, by rw [List.length_set]; exact h.cap, h.lo, Nat.lt_of_lt_of_le h.hi hh, fun i hi0 => ?_, fun i hi0 => ?_, fun i j hij hj => ?_⟩
  · rw [List.length_set] at hi0
    by_cases he : k = i
    · subst he; rw [elAt_set_same hk]; exact ho
    · rw [elAt_set_other _ _ he]
      have hoo := h.own i hi0
      have kp : ∀ b x, b ∈ blks (elAt es i) → w.heap[b]? = some x → w1.heap[b]? = some x := fun b x hb hx => hother b x (fun e => h.ne i hi0 (e ▸ hb)) (hap i (fun e => he e.symm) hi0 b hb) hx
      exact OwnO.move (w := w1) ⟨hoo.ls.keepIf fun b x hb hx => kp b x (by unfold blks; simp [hb]) hx, hoo.ds.keepIf fun b x hb hx => kp b x (by unfold blks; simp [hb]) hx, hoo.qs.keepIf fun b x hb hx => kp b x (by unfold blks; simp [hb]) hx, hoo.nd⟩ (fun _ _ _ _ x => x) (Nat.le_refl _) hh
  · rw [List.length_set] at hi0
    by_cases he : k = i
    · subst he
      rw [elAt_set_same hk]
      intro hm
      rcases hnew g hm with h1 | h1
      · exact h.ne k hk h1
      · have := h.hi; omega
    · rw [elAt_set_other _ _ he]; exact h.ne i hi0
  · rw [List.length_set] at hj
    intro b hb hbj
    by_cases he : k = i
    · subst he
      rw [elAt_set_same hk] at hb
      rw [elAt_set_other _ _ (by omega)] at hbj
      rcases hnew b hb with h1 | h1
      · exact h.apart k j hij hj b h1 hbj
      · have := hlt j hj b hbj; omega
    · rw [elAt_set_other _ _ he] at hb
      by_cases he2 : k = j
      · subst he2
        rw [elAt_set_same hk] at hbj
        rcases hnew b hbj with h1 | h1
        · exact h.apart i k hij hj b hb h1
        · have := hlt i (by omega) b hb; omega
      · rw [elAt_set_other _ _ he2] at hbj
        exact h.apart i j hij hj b hb hbj
/-- Links that were appended to are stored. -/
theorem OwnA.appL {g cap : Nat} {es : List El} {rest : List Value} {lo hi : Nat} {w w' : World} (h : OwnA g cap es rest lo hi w) (hhi : hi ≤ w.heap.size) {k : Nat} (hk : k < es.length) {v' : Value} {ls' : List Int} {r : Option Nat} (ho : OwnI lo w'.heap.size w' v' ls') (hg : w.grownBy w' r) (hr : ∀ b, r = some b → b ∈ Go.Proofs.Ytgijpflojffckaa.blk (elAt es k).l) (hb : ∀ b, b ∈ Go.Proofs.Ytgijpflojffckaa.blk v' → b ∈ Go.Proofs.Ytgijpflojffckaa.blk (elAt es k).l ∨ w.heap.size ≤ b) :
    OwnA g cap (es.set k ⟨{ (elAt es k).o with ls := ls' }, v', (elAt es k).d, (elAt es k).m⟩) rest lo w'.heap.size (w'.setCell ⟨g, k * 13 + 10, none⟩ v') := by
  have hoo := h.own k hk
  have hne := h.ne k hk
  have ap := apart_ld hoo
  have hbg : ∀ b, b ∈ Go.Proofs.Ytgijpflojffckaa.blk v' → b ≠ g := fun b hb' e => by
    rcases hb b hb' with h1 | h1
    · exact hne (by unfold blks; rw [← e]; simp [h1])
    · have := h.hi; omega
  have hgr : r ≠ some g := fun e => hne (by unfold blks; simp [hr g e])
  have kp : ∀ b x, b ≠ g → b ∉ Go.Proofs.Ytgijpflojffckaa.blk (elAt es k).l → w.heap[b]? = some x → (w'.setCell ⟨g, k * 13 + 10, none⟩ v').heap[b]? = some x := fun b x h1 h2 hx => setCell_keep (grown_kept hg hx (fun e => h2 (hr b e))) h1
  have hd : ∀ b, b ∈ Go.Proofs.Ytgijpflojffckaa.blk (elAt es k).d → b ≠ g := fun b hb' e => hne (by unfold blks; rw [← e]; simp [hb'])
  have hm : ∀ b, b ∈ Go.Proofs.Ytgijpflojffckaa.blk (elAt es k).m → b ≠ g := fun b hb' e => hne (by unfold blks; rw [← e]; simp [hb'])
  have hdl : ∀ b, b ∈ Go.Proofs.Ytgijpflojffckaa.blk (elAt es k).d → b < w.heap.size := fun b hb' => (hoo.ds.blk hb').2.2
  have hml : ∀ b, b ∈ Go.Proofs.Ytgijpflojffckaa.blk (elAt es k).m → b < w.heap.size := fun b hb' => (hoo.qs.blk hb').2.2
  have hsz := hg.size
  refine h.relist hk (by omega) (o' := { (elAt es k).o with ls := ls' }) (l' := v') (d' := (elAt es k).d) (m' := (elAt es k).m) ⟨?_, ?_, ?_, ?_⟩ ?_ (fun b x h1 h2 hx => kp b x h1 (fun e => h2 (by unfold blks; simp [e])) hx) (fun b hb' => ?_)
  · exact ho.keepIf fun b x hb' hx => setCell_keep hx (hbg b hb')
  · exact (hoo.ds.keepIf (w' := w'.setCell ⟨g, k * 13 + 10, none⟩ v') fun b x hb' hx => kp b x (hd b hb') (ap.1 b hb') hx).move (fun _ _ _ _ x => x) (Nat.le_refl _) (by omega)
  · exact (hoo.qs.keepIf (w' := w'.setCell ⟨g, k * 13 + 10, none⟩ v') fun b x hb' hx => kp b x (hm b hb') (ap.2 b hb').1 hx).move (fun _ _ _ _ x => x) (Nat.le_refl _) (by omega)
  · have nd := hoo.nd
    rw [List.nodup_append, List.nodup_append] at nd ⊢
    obtain ⟨⟨n1, n2, n3⟩, n4, n5⟩ := nd
    refine ⟨⟨by unfold Go.Proofs.Ytgijpflojffckaa.blk; split <;> simp, n2, fun a ha b hb' e => ?_⟩, n4, fun a ha b hb' e => ?_⟩
    · subst e
      rcases hb a ha with h1 | h1
      · exact n3 a h1 a hb' rfl
      · have := hdl a hb'; omega
    · subst e
      rw [List.mem_append] at ha
      rcases ha with ha | ha
      · rcases hb a ha with h1 | h1
        · exact n5 a (by simp [h1]) a hb' rfl
        · have := hml a hb'; omega
      · exact n5 a (by simp [ha]) a hb' rfl
  · have e := heap_setCell_same w' g (k * 13 + 10) _ 28 v' (grown_kept hg h.at' hgr)
    rw [e, ecells_put1 hk rest ⟨{ (elAt es k).o with ls := ls' }, v', (elAt es k).d, (elAt es k).m⟩ 10 v' (by decide) (by simp [elV])]
    simp only [List.setIfInBounds_toArray]
  · simp only [List.mem_append] at hb'
    unfold blks
    simp only [List.mem_append]
    rcases hb' with (h1 | h1) | h1
    · rcases hb b h1 with h2 | h2
      · exact .inl (.inl (.inl h2))
      · exact .inr (by omega)
    · exact .inl (.inl (.inr h1))
    · exact .inl (.inr h1)
end Go.Proofs.Ytgijpflojffckaa
namespace Go.Proofs.Ytgijpflojffckaa
open Go.RowKit
set_option linter.unusedVariables false
set_option maxRecDepth 100000

/-- What lies there when an arena was drawn that may be bent. -/
structure GrowN (w : World) (g s : Nat) (v : Value) (wr : World) : Prop where
  own : ∃ ga n c fs rs, v = .slice (some ⟨ga, 0, none⟩) n c ∧ fs.length = n ∧ n ≤ 10 ∧ OwnA ga c fs rs w.heap.size wr.heap.size wr ∧ (∀ i, obN (obAt (arOf fs) i) ≤ 13) ∧ AllFit (arOf fs)
  cur : CurE wr g s
  grown : w.grownBy wr (some g)
theorem GrowA.any {w wr : World} {g s : Nat} {v : Value} (h : GrowA w g s v wr) : GrowN w g s v wr := by
  obtain ⟨ga, c, fs, rs, rfl, hl, ho, hok, hf⟩ := h.own
  exact ⟨⟨ga, 10, c, fs, rs, rfl, hl, Nat.le_refl _, ho, fun i => Nat.le_trans (ok_few hok i) (by decide), hf⟩, h.cur, h.grown⟩
theorem obAt_take (os : List Ob) (k i : Nat) : obAt (os.take k) i = if i < k then obAt os i else noOb := by
  unfold obAt
  rw [List.getD_eq_getElem?_getD, List.getD_eq_getElem?_getD, List.getElem?_take]
  split <;> simp
theorem arOf_take (es : List El) (k : Nat) : arOf (es.take k) = (arOf es).take k := by simp [arOf, List.map_take]
theorem GrowA.cut {w wr : World} {g s ga c : Nat} (h : GrowA w g s (.slice (some ⟨ga, 0, none⟩) 10 c) wr) (k : Nat) (hk : k ≤ 10) : GrowN w g s (.slice (some ⟨ga, 0, none⟩) k c) wr := by
  obtain ⟨ga', c', fs, rs, hv, hl, ho, hok, hf⟩ := h.own
  obtain ⟨rfl, rfl⟩ : ga = ga' ∧ c = c' := by simpa using hv
  refine ⟨⟨ga, k, c, fs.take k, _, rfl, by simp; omega, hk, ho.take k (by omega), fun i => ?_, fun i => ?_⟩, h.cur, h.grown⟩
  · rw [arOf_take, obAt_take]
    split
    · exact Nat.le_trans (ok_few hok i) (by decide)
    · simp [noOb, obN]
  · rw [arOf_take, obAt_take]
    split
    · exact hf i
    · simp [noOb, Fits]
/-- One cell of one thing is bent. -/
theorem bend_done {w wz : World} {g s ga c : Nat} {fs : List El} {rs : List Value} (hs : s ≤ w.heap.size) (hc : CurE wz g s) (hg : w.grownBy wz (some g)) (hl : fs.length = 10) (ho : OwnA ga c fs rs w.heap.size wz.heap.size wz) (hn : ∀ i, obN (obAt (arOf fs) i) ≤ 12) (hf : AllFit (arOf fs)) {k : Nat} (hk : k < 10) (j : Nat) (x : Int) (o' : Ob) (hj : j < 13) (hl2 : o'.ls = (elAt fs k).o.ls ∧ o'.ds = (elAt fs k).o.ds ∧ o'.qs = (elAt fs k).o.qs)
    (he : elV ⟨o', (elAt fs k).l, (elAt fs k).d, (elAt fs k).m⟩ = (elV (elAt fs k)).set j (.int .i64 x)) (hft : Fits o') : GrowN w g s (.slice (some ⟨ga, 0, none⟩) 10 c) (wz.setCell ⟨ga, k * 13 + j, none⟩ (.int .i64 x)) := by
  have hkf : k < fs.length := by omega
  have hka : k < (arOf fs).length := by rw [arOf_length]; exact hkf
  have hlo := ho.lo
  refine ⟨⟨ga, 10, c, _, rs, rfl, by rw [List.length_set]; exact hl, Nat.le_refl _, (ho.bend hkf j x o' hj hl2 he).fit, fun i => ?_, fun i => ?_⟩, hc.set _ _ _ (by omega), grownBy_new8 hg hlo _ _⟩
  · rw [arOf_set, obAt_set _ _ hka]
    split
    · have e := hn k
      rw [arOf_at] at e
      unfold obN at e ⊢
      show o'.ls.length + o'.ds.length + o'.qs.length ≤ 13
      rw [hl2.1, hl2.2.1, hl2.2.2]; omega
    · exact Nat.le_trans (hn i) (by decide)
  · rw [arOf_set, obAt_set _ _ hka]
    split
    · exact hft
    · exact hf i
/-- What the regions leave that bend a thing. -/
def gBnd (base : Nat) (ns : List Int) (vs : List Value) (i : Nat) (u : Value) (w : World) : Prop := match i with
  | 3 => w.ownsRow base 3 1 u ns.length (icells ns)
  | 4 => ∃ x : Int, x ∈ ns ∧ u = .int .i64 x
  | i => u = vs.getD i undef
theorem gBnd_on {base : Nat} {ns : List Int} {vs : List Value} {w w' : World} (hb : Below w.heap.size w w') (i : Nat) (u : Value) (h : gBnd base ns vs i u w) : gBnd base ns vs i u w' := by
  unfold gBnd at h ⊢
  split
  · exact row_on8 h hb
  · exact h
  · rename_i a1 a2
    split at h
    · exact absurd rfl a1
    · exact absurd rfl a2
    · exact h
theorem gBnd_by {base : Nat} {ns : List Int} {vs : List Value} {w w' : World} {g : Nat} (hg : w.grownBy w' (some g)) (hlt : g < base) (i : Nat) (u : Value) (h : gBnd base ns vs i u w) : gBnd base ns vs i u w' := by
  unfold gBnd at h ⊢
  split
  · exact row_by h hg hlt
  · exact h
  · rename_i a1 a2
    split at h
    · exact absurd rfl a1
    · exact absurd rfl a2
    · exact h
/-- What the region leaves that bends a thing's kind. -/
def gKnd (vs : List Value) (i : Nat) (u : Value) (w : World) : Prop := match i with
  | 3 => ∃ x : Nat, x < 6 ∧ u = .int .i64 x
  | i => u = vs.getD i undef
theorem gKnd_any {vs : List Value} {w w' : World} (i : Nat) (u : Value) (h : gKnd vs i u w) : gKnd vs i u w' := by
  unfold gKnd at h ⊢
  split
  · exact h
  · rename_i a1
    split at h
    · exact absurd rfl a1
    · exact h
theorem row_three9 (w : World) (a b d : Int) : (w.alloc (.cells #[.int .i64 a, .int .i64 b, .int .i64 d] 3 (0, 0))).ownsRow w.heap.size 3 1 (.slice (some ⟨w.heap.size, 0, none⟩) 3 3) 3 (icells [a, b, d]) :=
  ⟨by simp [icells], .inr ⟨w.heap.size, 3, _, rfl, Nat.le_refl _, heap_alloc_new w _, Nat.le_refl _, by decide, by simp, by simp [icells]⟩⟩
def AnyDrawn (w : World) (g s : Nat) (e : Ending) (w' : World) : Prop := ∃ v, e = .returned v ∧ GrowN w g s v w'
theorem wpO_appL {o : Oper} {a : Act} {K : Act → World → Prop} {Q : Exit → Act → World → Prop} (s x : Operand)
    (ho : o.op = .call { callee := .builtin .append, args := #[s, x], argTypes := #[25, 25] }) (W : World) (lo hi g : Nat) (v : Value) (xs new : List Int) (k c : Nat)
    (hs : a.eval s = v) (hx : a.eval x = .slice (some ⟨g, 0, none⟩) k c) (hown : OwnI lo hi W v xs) (hlo : lo ≤ W.heap.size) (hhi : hi ≤ W.heap.size) (hk : new.length = k) (h0 : 0 < k) (hcell : ∀ (j : Nat) u, (icells new)[j]? = some u → W.cell? ⟨g, j, none⟩ = some u)
    (hb : xs.length + k ≤ 1048576)
    (h : ∀ v' w', OwnI lo w'.heap.size w' v' (xs ++ new) → (∃ r, W.grownBy w' r ∧ ∀ b, r = some b → b ∈ Go.Proofs.Ytgijpflojffckaa.blk v) → (∀ b, b ∈ Go.Proofs.Ytgijpflojffckaa.blk v' → b ∈ Go.Proofs.Ytgijpflojffckaa.blk v ∨ W.heap.size ≤ b) → K (a.put o.dst v') w') : Oper.wp Try.prog o a W K Q := by
  obtain ⟨v', w', hr, h1, h2, h3⟩ := run_appI W lo hi v xs new o.type hown hlo hhi g k c hk h0 hcell hb
  unfold Oper.wp execOp
  simp only [ho, resolve, invoke, builtin, Sem.run_bind, Sem.run_pure, Result.andThen_ok, List.map_toArray, List.map_cons, List.map_nil, hs, hx, hr]
  exact h _ _ h1 h2 h3
theorem wpList_appL {ops : Array Oper} {rest : List Oper} {o : Oper} {a : Act} {Q : Exit → Act → World → Prop} (hgd : o.guard = none) (s x : Operand)
    (ho : o.op = .call { callee := .builtin .append, args := #[s, x], argTypes := #[25, 25] }) (W : World) (lo hi g : Nat) (v : Value) (xs new : List Int) (k c : Nat)
    (hs : a.eval s = v) (hx : a.eval x = .slice (some ⟨g, 0, none⟩) k c) (hown : OwnI lo hi W v xs) (hlo : lo ≤ W.heap.size) (hhi : hi ≤ W.heap.size) (hk : new.length = k) (h0 : 0 < k) (hcell : ∀ (j : Nat) u, (icells new)[j]? = some u → W.cell? ⟨g, j, none⟩ = some u)
    (hb : xs.length + k ≤ 1048576)
    (h : ∀ v' w', Hid (OwnI lo w'.heap.size w' v' (xs ++ new)) → Hid (∃ r, W.grownBy w' r ∧ ∀ b, r = some b → b ∈ Go.Proofs.Ytgijpflojffckaa.blk v) → Hid (∀ b, b ∈ Go.Proofs.Ytgijpflojffckaa.blk v' → b ∈ Go.Proofs.Ytgijpflojffckaa.blk v ∨ W.heap.size ≤ b) → wpList Try.prog ops Q rest (a.put o.dst v') w') : wpList Try.prog ops Q (o :: rest) a W := by
  refine wpList_plain hgd fun K hK => ?_
  exact wpO_appL s x ho W lo hi g v xs new k c hs hx hown hlo hhi hk h0 hcell hb fun v' w' h1 h2 h3 => hK _ _ (h v' w' h1 h2 h3)
def gApp (vs : List Value) (i : Nat) (u : Value) (w : World) : Prop := match i with
  | 7 => ∃ b, u = .slice (some ⟨b, 0, none⟩) 1 1 ∧ w.heap[b]? = some (.cells #[.int .i64 0] 3 (0, 0))
  | i => u = vs.getD i undef
def gApp2 (lo ga c k : Nat) (fs : List El) (rs : List Value) (vs : List Value) (i : Nat) (u : Value) (w : World) : Prop := match i with
  | 7 => True
  | 8 => ∃ a n cc, u = .slice a n cc ∧ OwnA ga c (fs.set k ⟨{ (elAt fs k).o with ls := (elAt fs k).o.ls ++ [0] }, u, (elAt fs k).d, (elAt fs k).m⟩) rs lo w.heap.size (w.setCell ⟨ga, k * 13 + 10, none⟩ u)
  | i => u = vs.getD i undef
theorem gApp_on {vs : List Value} {w w' : World} (hb : Below w.heap.size w w') (i : Nat) (u : Value) (h : gApp vs i u w) : gApp vs i u w' := by
  unfold gApp at h ⊢
  split
  · obtain ⟨b, h1, h2⟩ := h; exact ⟨b, h1, keep h2 hb⟩
  · rename_i a1
    split at h
    · exact absurd rfl a1
    · exact h
theorem gApp_turn {lo ga c k : Nat} {fs : List El} {rs : List Value} {vs : List Value} {w w' : World} (i : Nat) (u : Value) (hi : i ≠ 8) (h : gApp vs i u w) : gApp2 lo ga c k fs rs vs i u w' := by
  unfold gApp2
  unfold gApp at h
  split
  · trivial
  · exact absurd rfl hi
  · rename_i a1 a2
    split at h
    · exact absurd rfl a1
    · exact h
/-- What is there between the append and the store. -/
structure AppMid (w : World) (g s ga : Nat) (fs : List El) (rs : List Value) (wz : World) : Prop where
  cur : CurE wz g s
  grown : w.grownBy wz (some g)
  row : wz.heap[ga]? = some (.cells (ecells fs ++ rs).toArray 28 (0, 0))
theorem AppMid.cell {w : World} {g s ga : Nat} {fs : List El} {rs : List Value} {wz : World} (h : AppMid w g s ga fs rs wz) {k : Nat} (hk : k < fs.length) : wz.cell? ⟨ga, k * 13 + 10, none⟩ = some (elAt fs k).l := by
  simp only [World.cell?, h.row, List.getElem?_toArray]
  rw [ecells_at hk rs (by decide)]
  rfl
theorem AppMid.free {w : World} {g s ga : Nat} {fs : List El} {rs : List Value} {wz : World} (h : AppMid w g s ga fs rs wz) (i : Nat) : wz.frozen? ⟨ga, i, none⟩ = false := by simp [World.frozen?, h.row]
theorem app_mid {w wz w' : World} {g s ga c hi k : Nat} {fs : List El} {rs : List Value} {v' : Value} (hs : s ≤ w.heap.size) (hc : CurE wz g s) (hg : w.grownBy wz (some g)) (ho : OwnA ga c fs rs w.heap.size hi wz) (hk : k < fs.length) (h1 : OwnI w.heap.size w'.heap.size w' v' ((elAt fs k).o.ls ++ [0])) (h2 : ∃ r, wz.grownBy w' r ∧ ∀ b, r = some b → b ∈ Go.Proofs.Ytgijpflojffckaa.blk (elAt fs k).l) (h3 : ∀ b, b ∈ Go.Proofs.Ytgijpflojffckaa.blk v' → b ∈ Go.Proofs.Ytgijpflojffckaa.blk (elAt fs k).l ∨ wz.heap.size ≤ b) :
    AppMid w g s ga fs rs w' ∧ ∃ a n cc, v' = .slice a n cc ∧ OwnA ga c (fs.set k ⟨{ (elAt fs k).o with ls := (elAt fs k).o.ls ++ [0] }, v', (elAt fs k).d, (elAt fs k).m⟩) rs w.heap.size w'.heap.size (w'.setCell ⟨ga, k * 13 + 10, none⟩ v') := by
  obtain ⟨r, hgr, hr⟩ := h2
  have hlo : ∀ b, r = some b → w.heap.size ≤ b ∧ b ≠ ga := fun b e => ⟨((ho.own k hk).ls.blk (hr b e)).1, fun e2 => ho.ne k hk (by unfold blks; rw [← e2]; simp [hr b e])⟩
  refine ⟨⟨hc.keep (fun j hj => hgr.block j (by have := hg.size; omega) (fun e => by have := (hlo j e.symm).1; omega)), grown8_own hg hgr (fun j e => (hlo j e).1), grown_kept hgr ho.at' (fun e => (hlo ga e).2 rfl)⟩, ?_⟩
  obtain ⟨a, cc, hv, _⟩ := id h1
  exact ⟨a, _, cc, hv, ho.fit.appL (Nat.le_refl _) hk h1 hgr hr h3⟩
theorem app_done {w wz : World} {g s ga c k : Nat} {fs : List El} {rs : List Value} {u : Value} (hs : s ≤ w.heap.size) (h : AppMid w g s ga fs rs wz) (hl : fs.length = 10) (hn : ∀ i, obN (obAt (arOf fs) i) ≤ 12) (hf : AllFit (arOf fs)) (hk : k < 10) (hlo : w.heap.size ≤ ga)
    (ho : OwnA ga c (fs.set k ⟨{ (elAt fs k).o with ls := (elAt fs k).o.ls ++ [0] }, u, (elAt fs k).d, (elAt fs k).m⟩) rs w.heap.size wz.heap.size (wz.setCell ⟨ga, k * 13 + 10, none⟩ u)) : GrowN w g s (.slice (some ⟨ga, 0, none⟩) 10 c) (wz.setCell ⟨ga, k * 13 + 10, none⟩ u) := by
  have hkf : k < fs.length := by omega
  have hka : k < (arOf fs).length := by rw [arOf_length]; exact hkf
  refine ⟨⟨ga, 10, c, _, rs, rfl, by rw [List.length_set]; exact hl, Nat.le_refl _, ho.fit, fun i => ?_, fun i => ?_⟩, h.cur.set _ _ _ (by omega), grownBy_new8 h.grown hlo _ _⟩
  · rw [arOf_set, obAt_set _ _ hka]
    split
    · have e := hn k
      rw [arOf_at] at e
      unfold obN at e ⊢
      show ((elAt fs k).o.ls ++ [0]).length + (elAt fs k).o.ds.length + (elAt fs k).o.qs.length ≤ 13
      rw [List.length_append, List.length_singleton]; omega
    · exact Nat.le_trans (hn i) (by decide)
  · rw [arOf_set, obAt_set _ _ hka]
    split
    · have e := hf k
      rw [arOf_at] at e
      exact e
    · exact hf i
set_option maxRecDepth 100000 in
set_option maxHeartbeats 16000000 in
theorem l8Any_any (w : World) (g s : Nat) (h : CurE w g s) (hs : s ≤ w.heap.size) :
    Calls Try.prog 22 #[.pointer (some ⟨g, 0, none⟩)] w fun e w' => AnyDrawn w g s e w' := by
  have C0 := l8Arena_any w g s h hs
  unfold ArenaDrawn at C0
  have Hs : Hid (s ≤ w.heap.size) := hs
  have HGL : Hid (g < w.heap.size) := Nat.lt_of_lt_of_le h.lt hs
  clear h hs
  go_enter Try.func22, Try.ntmps22
  go_wp2_with fail
  refine C0.mono ?_
  rintro e w1 ⟨v, rfl, hga⟩
  obtain ⟨ga, c, fs, rs, rfl, hl, ho, hok, hf⟩ := hga.own
  have hcap : 10 ≤ c := by have := ho.cap; omega
  have HG1 := hid_of hga
  have HO1 := hid_of ho
  have HFL := hid_of hl
  have HOK := hid_of hok
  have HFI := hid_of hf
  have HNN : Hid (∀ i, obN (obAt (arOf fs) i) ≤ 12) := fun i => ok_few HOK.out i
  clear C0 hga hl ho hok hf
  go_wp2_with fail
  refine (belowE w1 g s 10 HG1.out.cur (by omega) (by omega)).mono ?_
  rintro e w2 ⟨k, rfl, hk, hc, hgr⟩
  have HG2 := hid_of (HG1.out.by' Hs.out hc hgr)
  have HO2 := hid_of (HO1.out.byg hgr HGL.out).fit
  clear hc hgr HG1 HO1
  go_wp2_with fail
  refine (belowE w2 g s 24 HG2.out.cur (by omega) (by omega)).mono ?_
  rintro e w3 ⟨q, rfl, hq, hc, hgr⟩
  have HG3 := hid_of (HG2.out.by' Hs.out hc hgr)
  have HO3 := hid_of (HO2.out.byg hgr HGL.out).fit
  clear hc hgr HG2 HO2
  obtain ⟨W8, hW8⟩ : ∃ W8, W8 = w3 := ⟨_, rfl⟩
  subst hW8
  have HCW := hid_of HG3.out.cur
  have HGR := hid_of HG3.out.grown
  have HOW : Hid (OwnA ga c fs rs w.heap.size W8.heap.size W8) := HO3.out
  have HKF : Hid (k < fs.length) := by show k < fs.length; rw [HFL.out]; exact hk
  have HK9 : Hid (k < 10) := hk
  have HK10 : Hid ((k : Int) < 10) := by show (k : Int) < 10; omega
  have HQ : Hid ((⟨ga, 0, none⟩ : Addr).add (k * 13) = ⟨ga, k * 13, none⟩) := add_head ga (k * 13)
  have HLO : Hid (w.heap.size ≤ ga) := HO3.out.lo
  have HSZ : Hid (s ≤ W8.heap.size) := Nat.le_trans Hs.out HGR.out.size
  clear HO3
  obtain ⟨x0, hx0⟩ : ∃ x0 : Int, x0 = (q : Int) := ⟨_, rfl⟩
  rw [← hx0]
  clear hx0 hq
  by_cases q0 : x0 = 0
  · subst q0
    have HKC : Hid (k ≤ c) := by show k ≤ c; omega
    go_wp2
    go_ret
    exact ⟨_, rfl, HG3.out.cut k (by omega)⟩
  by_cases q1 : x0 = 1
  · subst q1
    clear HG3
    have C := pickE2 (W8.alloc (.cells #[.int .i64 (-2), .int .i64 10, .int .i64 9, .int .i64 0] 3 (0, 0))) g s W8.heap.size (.slice (some ⟨W8.heap.size, 0, none⟩) 4 4) [-2, 10, 9, 0] (HCW.out.alloc _ HSZ.out) (row_four8 W8 (-2) (10) (9) (0)) HSZ.out (by decide) (by decide)
    go_wp2_with fail
    refine C.mono ?_
    rintro e w4 ⟨⟨x, rfl, hxm⟩, hc, hgr⟩
    have HGX : Hid (w.grownBy w4 (some g)) := grownBy_trans HGR.out (grownBy_trans (World.grownBy_alloc W8 _ _) hgr)
    have HOX := hid_of ((HOW.out.on (below_alloc W8 (.cells #[.int .i64 (-2), .int .i64 10, .int .i64 9, .int .i64 0] 3 (0, 0)))).byg hgr HGL.out)
    have HZ := hid_of (bend_done Hs.out hc HGX.out HFL.out HOX.out.fit HNN.out HFI.out HK9.out 2 x { (elAt fs k).o with into := x } (by decide) ⟨rfl, rfl, rfl⟩ (by simp [elV]) (by have e := HFI.out k; rw [arOf_at] at e; exact e))
    have kc := (HOX.out.cells HKF.out).c2
    have kf := HOX.out.free (k * 13 + 2)
    have hq := HQ.out
    have hk10 := HK10.out
    clear C hc hgr hxm
    go_wp2
    go_ret
    exact ⟨_, rfl, HZ.out⟩
  by_cases q2 : x0 = 2
  · subst q2
    clear HG3
    have C := belowE W8 g s 6 HCW.out (by omega) (by omega)
    go_wp2_with fail
    refine C.mono ?_
    rintro e w4 ⟨x, rfl, hx, hc, hgr⟩
    have HGX : Hid (w.grownBy w4 (some g)) := grownBy_trans HGR.out hgr
    have HOX := hid_of (HOW.out.byg hgr HGL.out)
    have HZ := hid_of (bend_done Hs.out hc HGX.out HFL.out HOX.out.fit HNN.out HFI.out HK9.out 1 (x : Int) { (elAt fs k).o with kind := (x : Int) } (by decide) ⟨rfl, rfl, rfl⟩ (by simp [elV]) (by have e := HFI.out k; rw [arOf_at] at e; exact e))
    have kc := (HOX.out.cells HKF.out).c1
    have kf := HOX.out.free (k * 13 + 1)
    have hq := HQ.out
    have hk10 := HK10.out
    clear C hc hgr
    go_wp2
    go_ret
    exact ⟨_, rfl, HZ.out⟩
  by_cases q3 : x0 = 3
  · subst q3
    clear HG3
    have C := pickE2 (W8.alloc (.cells #[.int .i64 (-1), .int .i64 999, .int .i64 1000] 3 (0, 0))) g s W8.heap.size (.slice (some ⟨W8.heap.size, 0, none⟩) 3 3) [-1, 999, 1000] (HCW.out.alloc _ HSZ.out) (row_three9 W8 (-1) (999) (1000)) HSZ.out (by decide) (by decide)
    go_wp2_with fail
    refine C.mono ?_
    rintro e w4 ⟨⟨x, rfl, hxm⟩, hc, hgr⟩
    have HGX : Hid (w.grownBy w4 (some g)) := grownBy_trans HGR.out (grownBy_trans (World.grownBy_alloc W8 _ _) hgr)
    have HOX := hid_of ((HOW.out.on (below_alloc W8 (.cells #[.int .i64 (-1), .int .i64 999, .int .i64 1000] 3 (0, 0)))).byg hgr HGL.out)
    have HZ := hid_of (bend_done Hs.out hc HGX.out HFL.out HOX.out.fit HNN.out HFI.out HK9.out 0 x { (elAt fs k).o with gen := x } (by decide) ⟨rfl, rfl, rfl⟩ (by simp [elV]) (by have e := HFI.out k; rw [arOf_at] at e; exact e))
    have kc := (HOX.out.cells HKF.out).c0
    have kf := HOX.out.free (k * 13)
    have hq := HQ.out
    have hk10 := HK10.out
    clear C hc hgr hxm
    go_wp2
    go_ret
    exact ⟨_, rfl, HZ.out⟩
  by_cases q5 : x0 = 5
  · subst q5
    clear HG3
    have C := pickE2 (W8.alloc (.cells #[.int .i64 (-1), .int .i64 1000001, .int .i64 0] 3 (0, 0))) g s W8.heap.size (.slice (some ⟨W8.heap.size, 0, none⟩) 3 3) [-1, 1000001, 0] (HCW.out.alloc _ HSZ.out) (row_three9 W8 (-1) (1000001) (0)) HSZ.out (by decide) (by decide)
    go_wp2_with fail
    refine C.mono ?_
    rintro e w4 ⟨⟨x, rfl, hxm⟩, hc, hgr⟩
    have HGX : Hid (w.grownBy w4 (some g)) := grownBy_trans HGR.out (grownBy_trans (World.grownBy_alloc W8 _ _) hgr)
    have HOX := hid_of ((HOW.out.on (below_alloc W8 (.cells #[.int .i64 (-1), .int .i64 1000001, .int .i64 0] 3 (0, 0)))).byg hgr HGL.out)
    have HZ := hid_of (bend_done Hs.out hc HGX.out HFL.out HOX.out.fit HNN.out HFI.out HK9.out 4 x { (elAt fs k).o with unt := x } (by decide) ⟨rfl, rfl, rfl⟩ (by simp [elV]) (by have e := HFI.out k; rw [arOf_at] at e; exact e))
    have kc := (HOX.out.cells HKF.out).c4
    have kf := HOX.out.free (k * 13 + 4)
    have hq := HQ.out
    have hk10 := HK10.out
    clear C hc hgr hxm
    go_wp2
    go_ret
    exact ⟨_, rfl, HZ.out⟩
  by_cases q6 : x0 = 6
  · subst q6
    clear HG3
    have C := pickE2 (W8.alloc (.cells #[.int .i64 (-1), .int .i64 30000, .int .i64 30001, .int .i64 1] 3 (0, 0))) g s W8.heap.size (.slice (some ⟨W8.heap.size, 0, none⟩) 4 4) [-1, 30000, 30001, 1] (HCW.out.alloc _ HSZ.out) (row_four8 W8 (-1) (30000) (30001) (1)) HSZ.out (by decide) (by decide)
    go_wp2_with fail
    refine C.mono ?_
    rintro e w4 ⟨⟨x, rfl, hxm⟩, hc, hgr⟩
    have HGX : Hid (w.grownBy w4 (some g)) := grownBy_trans HGR.out (grownBy_trans (World.grownBy_alloc W8 _ _) hgr)
    have HOX := hid_of ((HOW.out.on (below_alloc W8 (.cells #[.int .i64 (-1), .int .i64 30000, .int .i64 30001, .int .i64 1] 3 (0, 0)))).byg hgr HGL.out)
    have HZ := hid_of (bend_done Hs.out hc HGX.out HFL.out HOX.out.fit HNN.out HFI.out HK9.out 6 x { (elAt fs k).o with wait := x } (by decide) ⟨rfl, rfl, rfl⟩ (by simp [elV]) (by unfold Fits; simp at hxm; show _ ≤ x ∧ x ≤ _; omega))
    have kc := (HOX.out.cells HKF.out).c6
    have kf := HOX.out.free (k * 13 + 6)
    have hq := HQ.out
    have hk10 := HK10.out
    clear C hc hgr hxm
    go_wp2
    go_ret
    exact ⟨_, rfl, HZ.out⟩
  by_cases q4 : x0 = 4
  · subst q4
    clear HG3
    obtain ⟨V, hV⟩ : ∃ V, V = W8.alloc (.cells #[.int .i64 0] 3 (0, 0)) := ⟨_, rfl⟩
    have hbV : Below W8.heap.size W8 V := by rw [hV]; exact below_alloc W8 _
    have HOV := hid_of (HOW.out.on hbV)
    have HGV : Hid (w.grownBy V (some g)) := by show World.grownBy _ _ _; rw [hV]; exact grownBy_trans HGR.out (World.grownBy_alloc W8 _ _)
    have HCV : Hid (CurE V g s) := by show CurE _ _ _; rw [hV]; exact HCW.out.alloc _ HSZ.out
    have HMID : Hid (∀ v' w', OwnI w.heap.size w'.heap.size w' v' ((elAt fs k).o.ls ++ [0]) → (∃ r, V.grownBy w' r ∧ ∀ b, r = some b → b ∈ Go.Proofs.Ytgijpflojffckaa.blk (elAt fs k).l) → (∀ b, b ∈ Go.Proofs.Ytgijpflojffckaa.blk v' → b ∈ Go.Proofs.Ytgijpflojffckaa.blk (elAt fs k).l ∨ V.heap.size ≤ b) → _) := fun v' w' h1 h2 h3 => app_mid Hs.out HCV.out HGV.out HOV.out HKF.out h1 h2 h3
    have HOL := hid_of (HOV.out.fit.own k HKF.out).ls
    have HCE : Hid (∀ (j : Nat) u, (icells [0])[j]? = some u → V.cell? ⟨W8.heap.size, j, none⟩ = some u) := fun j u hj => by
      rw [hV]
      simp only [World.cell?, heap_alloc_new]
      simpa [icells] using hj
    have HNL : Hid ((elAt fs k).o.ls.length + 1 ≤ 1048576) := by show _ ≤ _; have e := HNN.out k; rw [arOf_at] at e; unfold obN at e; omega
    have HVS : Hid (w.heap.size ≤ V.heap.size) := HGV.out.size
    have k10 := (HOW.out.cells HKF.out).c10
    have k10V := (HOV.out.cells HKF.out).c10
    have hq := HQ.out
    have hk10 := HK10.out
    clear hbV
    go_wp2_with (at_builtin; refine wpList_appL rfl (.tmp 52) (.tmp 53) rfl _ w.heap.size V.heap.size W8.heap.size (elAt fs k).l (elAt fs k).o.ls [0] 1 1 rfl rfl (by rw [← hV]; exact HOL.out) (by rw [← hV]; exact HVS.out) (by rw [← hV]; exact Nat.le_refl _) rfl (by decide) (by rw [← hV]; exact HCE.out) HNL.out ?_; intro v' w' h1 h2 h3; rw [← hV] at h2 h3; obtain ⟨hM1, a5, n5, c5, rfl, hM2⟩ := HMID.out v' w' h1.out h2.out h3.out; have kc := hM1.cell HKF.out; have kf := hM1.free (k * 13 + 10); have HM1 := hid_of hM1; have HM2 := hid_of hM2; clear hM1 hM2 h1 h2 h3)
    go_ret
    exact ⟨_, rfl, app_done Hs.out HM1.out HFL.out HNN.out HFI.out HK9.out HLO.out HM2.out⟩
  have b0 : (x0 == 0) = false := beq_eq_false_iff_ne.2 q0
  have b1 : (x0 == 1) = false := beq_eq_false_iff_ne.2 q1
  have b2 : (x0 == 2) = false := beq_eq_false_iff_ne.2 q2
  have b3 : (x0 == 3) = false := beq_eq_false_iff_ne.2 q3
  have b4 : (x0 == 4) = false := beq_eq_false_iff_ne.2 q4
  have b5 : (x0 == 5) = false := beq_eq_false_iff_ne.2 q5
  have b6 : (x0 == 6) = false := beq_eq_false_iff_ne.2 q6
  clear q0 q1 q2 q3 q4 q5 q6
  go_wp2
  go_ret
  exact ⟨_, rfl, HG3.out.any⟩
end Go.Proofs.Ytgijpflojffckaa
namespace Go.Proofs.Ytgijpflojffckaa
open Go.RowKit
set_option linter.unusedVariables false
set_option maxRecDepth 100000

theorem below_cur {w w1 w2 : World} (hb : Below w.heap.size w w1) (hg : w1.grownBy w2 (some w.heap.size)) : Below w.heap.size w w2 :=
  hb.grown hg hb.size (fun k e => by cases e; exact Nat.le_refl _)
theorem GrowN.arena {w wr : World} {g s : Nat} {v : Value} (h : GrowN w g s v wr) : ∃ ga n c os, v = .slice (some ⟨ga, 0, none⟩) n c ∧ os.length = n ∧ n ≤ 10 ∧ IsArena wr (.slice (some ⟨ga, 0, none⟩) n c) os ∧ (∀ i, obN (obAt os i) ≤ 13) ∧ AllFit os := by
  obtain ⟨ga, n, c, fs, rs, rfl, hl, hn, ho, hs, hf⟩ := h.own
  have e := ho.arena
  rw [hl] at e
  exact ⟨ga, n, c, _, rfl, by rw [arOf_length]; exact hl, hn, e, hs, hf⟩
def ReachDrawn (w : World) (e : Ending) (w' : World) : Prop := ∃ (p : Addr) (n c : Nat) (os : List Ob) (t : Nat), e = .returned (.tuple #[.slice (some p) n c, .int .i64 t]) ∧ t < 30 ∧ os.length = n ∧ n ≤ 10 ∧ IsArena w' (.slice (some p) n c) os ∧ (∀ i, obN (obAt os i) ≤ 13) ∧ AllFit os ∧ Below w.heap.size w w'
set_option maxHeartbeats 1000000 in
theorem drawReach_any (w : World) (a : Option Addr) (len cap : Nat) (cb : Nat → Nat) (hc : Code0 w a len cb) :
    Calls Try.prog 15 #[.slice a len cap] w fun e w' => ReachDrawn w e w' := by
  have C0 := newE w a len cap cb hc
  clear hc
  go_enter Try.func15, Try.ntmps15
  go_wp2_with fail
  refine C0.mono ?_
  rintro e w1 ⟨rfl, hc, hb⟩
  have C1 := l8Any_any w1 w.heap.size w1.heap.size hc (Nat.le_refl _)
  have HB1 := hid_of hb
  clear C0 hc hb
  go_wp2_with fail
  refine C1.mono ?_
  rintro e w2 ⟨v, rfl, hg⟩
  have C2 := belowE w2 w.heap.size w1.heap.size 30 hg.cur (by decide) (by decide)
  have HB2 := hid_of (below_cur HB1.out hg.grown)
  obtain ⟨ga, n, c, fs, rs, rfl, hl, hn, ho, hs, hf⟩ := hg.own
  have HA : Hid (fs.length = n ∧ n ≤ 10 ∧ OwnA ga c fs rs w1.heap.size w2.heap.size w2 ∧ (∀ i, obN (obAt (arOf fs) i) ≤ 13) ∧ AllFit (arOf fs) ∧ w.heap.size < w1.heap.size) := ⟨hl, hn, ho, hs, hf, hg.cur.lt⟩
  clear C1 hg HB1 hl hn ho hs hf
  go_wp2_with fail
  refine C2.mono ?_
  rintro e w3 ⟨t, rfl, ht, hc3, hgr3⟩
  have HB3 := hid_of (below_cur HB2.out hgr3)
  have HA3 := hid_of (HA.out.2.2.1.byg hgr3 HA.out.2.2.2.2.2)
  clear C2 hc3 hgr3 HB2
  go_wp2
  go_returns
  have e := HA3.out.arena
  rw [HA.out.1] at e
  exact ⟨⟨ga, 0, none⟩, n, c, _, t, rfl, ht, by rw [arOf_length]; exact HA.out.1, HA.out.2.1, e, HA.out.2.2.2.1, HA.out.2.2.2.2.1, HB3.out⟩
end Go.Proofs.Ytgijpflojffckaa
namespace Go.Proofs.Ytgijpflojffckaa
open Go.RowKit
set_option linter.unusedVariables false
set_option maxRecDepth 100000

theorem hasI_range (n i : Nat) (p : Nat → Bool) : hasI (((List.range n).filter p).map fun (k : Nat) => (k : Int)) (i : Int) = (decide (i < n) && p i) := by
  unfold hasI
  rw [Bool.eq_iff_iff]
  simp only [List.any_eq_true, List.mem_map, List.mem_filter, List.mem_range, Bool.and_eq_true, decide_eq_true_eq, beq_iff_eq]
  constructor
  · rintro ⟨x, ⟨k, ⟨h1, h2⟩, rfl⟩, e⟩
    have : k = i := by omega
    subst this
    exact ⟨h1, h2⟩
  · rintro ⟨h1, h2⟩
    exact ⟨_, ⟨i, ⟨h1, h2⟩, rfl⟩, rfl⟩
/-- Some thing that is reached leads to it. -/
def ledTo (os : List Ob) (r : List Bool) (i n : Nat) : Bool := (List.range n).any fun k => gAt r k && hasI (edgesAns os k) i
theorem ledTo_next (os : List Ob) (r : List Bool) (i n : Nat) : ledTo os r i (n + 1) = (ledTo os r i n || (gAt r n && hasI (edgesAns os n) i)) := by
  unfold ledTo
  rw [List.range_succ, List.any_append]
  simp
theorem edges_led {os : List Ob} (h : arenaOk os = true) {k : Nat} (hk : k < 10) (i : Nat) : hasI (edgesAns os k) i = (decide (i < 10) && edgeB os k i) := by
  have hl := (arenaOk_parts h).1
  unfold edgesAns
  have e : inB (k : Int) 0 9 = true := by unfold inB; simp; omega
  rw [h, e]
  simp only [Bool.and_self, if_true]
  unfold edgesTo
  rw [Int.toNat_natCast, hl, hasI_range]
theorem garb_has {os : List Ob} (h : arenaOk os = true) (now : Int) {i : Nat} (hi : i < 10) : hasI (garbAns os now) i = !(gAt (reachAns os now) i || (obAt os i).kind == 0) := by
  unfold garbAns reachAns
  rw [h]
  simp only [if_true]
  unfold lostTo
  rw [hasI_range]
  unfold lostB
  simp [hi]
  cases gAt (reached (ledB os now)) i <;> simp
theorem reach_right {os : List Ob} (h : arenaOk os = true) (now : Int) : Right (ledB os now) (reachAns os now) := by
  unfold reachAns
  rw [h]
  exact reached_right ledB_lt
/-- What one that is reached leads to is reached, if it hasn't run out. -/
theorem closed_told {os : List Ob} (h : arenaOk os = true) (now : Int) {k i : Nat} (hk : k < 10) (hi : i < 10) (hr : gAt (reachAns os now) k = true) (he : hasI (edgesAns os k) i = true) (hx : expB (obAt os i) now = false) : gAt (reachAns os now) i = true := by
  refine (reach_right h now).closed k i hr ?_
  rw [edges_led h hk] at he
  simp only [Bool.and_eq_true, decide_eq_true_eq] at he
  unfold ledB
  simp [hi, he.2, hx]
theorem led_told {os : List Ob} (h : arenaOk os = true) (now : Int) {i : Nat} (hi : i < 10) (hr : gAt (reachAns os now) i = true) : (i = 0 ∨ ledTo os (reachAns os now) i 10 = true) ∧ (i = 0 ∨ expB (obAt os i) now = false) := by
  have R := reach_right h now
  have L := R.leads i hr (fun m => gAt (reachAns os now) m = true ∧ (m = 0 ∨ ∃ j, gAt (reachAns os now) j = true ∧ ledB os now j m = true)) ⟨R.zero, .inl rfl⟩ (fun a b ha hab => ⟨R.closed a b ha.1 hab, .inr ⟨a, ha.1, hab⟩⟩)
  rcases L.2 with rfl | ⟨j, hj, hl⟩
  · exact ⟨.inl rfl, .inl rfl⟩
  · have hj10 : j < 10 := by have := gAt_lt hj; rw [R.len] at this; exact this
    unfold ledB at hl
    simp only [Bool.and_eq_true, decide_eq_true_eq, Bool.not_eq_true'] at hl
    refine ⟨.inr ?_, .inr hl.2.2⟩
    unfold ledTo
    rw [List.any_eq_true]
    refine ⟨j, List.mem_range.2 hj10, ?_⟩
    rw [hj, edges_led h hj10]
    simp [hi, hl.2.1]
theorem reach_told {os : List Ob} (h : arenaOk os = true) (now : Int) {i : Nat} (hi : i < 10) :
    (gAt (reachAns os now) i && (!(decide (i = 0) || ledTo os (reachAns os now) i 10) || (decide (0 < i) && expB (obAt os i) now))) = false ∧ (hasI (garbAns os now) i == (gAt (reachAns os now) i || (obAt os i).kind == 0)) = false := by
  constructor
  · cases hr : gAt (reachAns os now) i with
    | false => rfl
    | true =>
      obtain ⟨h1, h2⟩ := led_told h now hi hr
      rcases h2 with rfl | h2
      · simp
      · rcases h1 with rfl | h1
        · simp
        · simp [h1, h2]
  · rw [garb_has h now hi]
    cases gAt (reachAns os now) i || (obAt os i).kind == 0 <;> rfl
theorem reach_not {os : List Ob} (h : arenaOk os = false) (now : Int) : reachAns os now = [] ∧ garbAns os now = [] := by
  unfold reachAns garbAns
  simp [h]
end Go.Proofs.Ytgijpflojffckaa
namespace Go.Proofs.Ytgijpflojffckaa
open Go.RowKit
set_option linter.unusedVariables false
set_option maxRecDepth 100000

set_option maxHeartbeats 400000 in
theorem big_yes (w : World) (a : Option Addr) (len cap : Nat) (h : (1048576 : Int) < (len : Int)) :
    Calls Try.prog 5 #[.slice a len cap] w fun e w' => e = .returned (.bool true) ∧ w = w' := by
  go_enter Try.func5, Try.ntmps5
  go_wp2
  go_ret
  exact ⟨by simp, rfl⟩
set_option maxHeartbeats 400000 in
theorem big_no (w : World) (a : Option Addr) (len cap : Nat) (h : ¬ (1048576 : Int) < (len : Int)) :
    Calls Try.prog 5 #[.slice a len cap] w fun e w' => e = .returned (.bool false) ∧ w = w' := by
  go_enter Try.func5, Try.ntmps5
  go_wp2
  go_ret
  exact ⟨by simp, rfl⟩
end Go.Proofs.Ytgijpflojffckaa
namespace Go.Proofs.Ytgijpflojffckaa
open Go.RowKit
set_option linter.unusedVariables false
set_option maxRecDepth 100000

theorem lawHas_any (v : Value) (xs : List Int) (x : Int) (w : World) (hx : IsInts w v xs) (hn : xs.length ≤ 9223372036854775807) :
    Calls Try.prog 12 #[v, .int .i64 x] w fun e w' => e = .returned (.bool (hasI xs x)) ∧ w = w' := by
  obtain ⟨a, cap, rfl, hcap, hx⟩ := hx
  have HX : Hid (∀ i, i < xs.length → ∃ p, a = some p ∧ w.cell? (p.add i) = some (.int .i64 (xs.getD i 0))) := hx
  clear hx
  go_enter Try.func12, Try.ntmps12
  go_wp2
  go_loop [5] (fun i => ∃ k : Nat, k ≤ xs.length ∧ i = .int .i64 k ∧ Hid (∀ e, e ∈ xs.take k → (e == x) = false)) (fun i => xs.length - (intOf i).toNat)
  case atStart => exact ⟨0, Nat.zero_le _, rfl, fun e he => absurd he (by simp)⟩
  case round =>
    obtain ⟨k, hk, rfl, hall⟩ := hrel
    by_cases hlt : k < xs.length
    · obtain ⟨p, rfl, hc⟩ := HX.out k hlt
      by_cases he : xs.getD k 0 = x
      · have HE : Hid (hasI xs x = true) := hasI_yes hlt he
        rw [he] at hc
        clear hall he
        go_wp2
        go_ret
        exact ⟨by rw [HE.out]; rfl, rfl⟩
      · have HA : Hid (∀ e, e ∈ xs.take (k + 1) → (e == x) = false) := has_more hlt hall.out he
        obtain ⟨y, hy⟩ : ∃ y, y = xs.getD k 0 := ⟨_, rfl⟩
        rw [← hy] at hc he
        have hne : (y == x) = false := beq_eq_false_iff_ne.2 he
        clear hall he hy
        go_wp2
        exact ⟨⟨k + 1, by omega, by go_num, HA⟩, by simp [intOf]; omega⟩
    · obtain rfl : k = xs.length := by omega
      have HE : Hid (hasI xs x = false) := hasI_no hall.out
      clear hall
      go_wp2
      go_ret
      exact ⟨by rw [HE.out]; rfl, rfl⟩
theorem guard_und {o : Oper} {ops : Array Oper} {us : Nat → Value} {j : Nat} {want : Bool} {d : Tmp} {A B : Prop} (hg : o.guard = some (j, want)) (hd : dstAt ops.toList j = some d) (hu : us j = undef) (h : B) : if Region.wanted o (yieldUs ops us) = true then A else B := by
  have hw : Region.wanted o (yieldUs ops us) = false := by
    unfold dstAt at hd
    have hd' : (ops[j]?).bind (·.dst) = some d := by simpa using hd
    simp [Region.wanted, hg, yieldUs, hd', hu, undef]
  rw [if_neg (by rw [hw]; exact Bool.false_ne_true)]; exact h
theorem ledTo_zero (os : List Ob) (r : List Bool) (i : Nat) : ledTo os r i 0 = false := rfl
theorem thing_at {p : Addr} {cap : Nat} {os : List Ob} {w : World} (hx : IsArena w (.slice (some p) 10 cap) os) (hl : os.length = 10) {i : Nat} (hi : i < 10) : ∃ q l d m, p.add (i * 13) = q ∧ ObCells w q (obAt os i) l d m := by
  obtain ⟨p', q, l, d, m, h1, h2, h3, _⟩ := hx.at (i := i) (by omega)
  obtain rfl : p = p' := by simpa using h1
  exact ⟨q, l, d, m, h2, h3⟩
set_option maxRecDepth 100000 in
set_option maxHeartbeats 16000000 in
theorem walkReached (w : World) (a : Option Addr) (len cap : Nat) (cb : Nat → Nat) (hc : Code0 w a len cb) :
    Calls Try.prog 4 #[.slice a len cap] w fun e w' => e = .returned (.bool true) ∧ Below w.heap.size w w' := by
  have C := big_no w a len cap (by have := hc.small; omega)
  have CD := drawReach_any w a len cap cb hc
  clear hc
  go_enter Try.func4, Try.ntmps4
  go_wp2_with fail
  refine C.mono ?_
  rintro e w0 ⟨rfl, rfl⟩
  clear C
  go_wp2_with fail
  refine CD.mono ?_
  rintro e w1 ⟨p, n, c, os, t, rfl, ht, hl, hn, hx, hs, hf, hb⟩
  have HB1 := hid_of hb
  have hsm : Small8 os := fun i => Nat.le_trans (hs i) (by decide)
  have HX : Hid (∀ w', Below w1.heap.size w1 w' → IsArena w' (.slice (some p) n c) os) := fun w' hb => hx.on hb
  have CR := implReach_any _ os (t : Int) w1 hx (by omega) hsm
  have HG : Hid (∀ w', Below w1.heap.size w1 w' → Calls Try.prog 17 #[.slice (some p) n c, .int .i64 t] w' fun e w'' => IntsAns (garbAns os t) w' e w'') := fun w' hb => implGarb_any _ os (t : Int) w' (hx.on hb) (by omega) hsm
  have HA : Hid (∀ w', Below w1.heap.size w1 w' → Calls Try.prog 9 #[.slice (some p) n c] w' fun e w'' => e = .returned (.bool (arenaOk os)) ∧ Below w'.heap.size w' w'') := fun w' hb => specArenaOk_any _ os w' (hx.on hb) (by omega) hsm hf
  have HE : Hid (∀ (k : Nat) w', Below w1.heap.size w1 w' → Calls Try.prog 18 #[.slice (some p) n c, .int .i64 k] w' fun e w'' => IntsAns (edgesAns os k) w' e w'') := fun k w' hb => implEdges_any _ os (k : Int) w' (hx.on hb) (by omega) hsm
  have HL : Hid (os.length = n) := hl
  clear CD hb hx hs hf hl hsm ht
  go_wp2_with fail
  refine CR.mono ?_
  rintro e w2 ⟨ra, rn, rc, rfl, hrn, hrc, hrb, hb2⟩
  have HB2 := hid_of hb2
  have HRB := hid_of hrb
  have HRN := hid_of hrn
  clear CR hb2 hrb hrn
  go_wp2_with fail
  refine (HG.out w2 HB2.out).mono ?_
  rintro e w3 ⟨vg, rfl, hog, hb3⟩
  have HB3 := hid_of (below_more HB2.out hb3)
  have HOG : Hid (IsInts w3 vg (garbAns os t)) := isInts_own hog
  have HRB3 : Hid (rn ≠ 0 → ∃ g, ra = some ⟨g, 0, none⟩ ∧ BolIn w3 g (reachAns os t)) := fun h => by
    obtain ⟨g, h1, _, h2⟩ := HRB.out h
    exact ⟨g, h1, h2.on hb3⟩
  obtain ⟨ag, cg, rfl⟩ := owns_len hog
  clear hog hb3 HB2 HRB HG
  go_wp2_with fail
  refine (HA.out w3 HB3.out).mono ?_
  rintro e w4 ⟨rfl, hb4⟩
  have HB4 := hid_of (below_more HB3.out hb4)
  have HOG4 := hid_of (HOG.out.on hb4)
  have HRB4 : Hid (rn ≠ 0 → ∃ g, ra = some ⟨g, 0, none⟩ ∧ BolIn w4 g (reachAns os t)) := fun h => by
    obtain ⟨g, h1, h2⟩ := HRB3.out h
    exact ⟨g, h1, h2.on hb4⟩
  have HBW : Hid (w.heap.size ≤ w1.heap.size) := HB1.out.size
  clear hb4 HB3 HOG HRB3 HA
  obtain ⟨lg, hlg⟩ : ∃ lg, lg = (garbAns os (t : Int)).length := ⟨_, rfl⟩
  rw [← hlg] at HOG4 ⊢
  have hrn := HRN.out
  cases hok : arenaOk os with
  | false =>
    obtain ⟨e1, e2⟩ := reach_not hok (t : Int)
    rw [e1] at hrn
    rw [e2] at hlg
    obtain rfl : rn = 0 := hrn
    obtain rfl : lg = 0 := hlg
    have HBF : Hid (Below w.heap.size w w4) := below_more HB1.out HB4.out
    clear e1 e2 hok HRB4 HOG4 HE HX HL HRN
    go_wp2
    go_ret
    exact ⟨rfl, HBF.out⟩
  | true =>
    have hlen := (arenaOk_parts hok).1
    obtain rfl : n = 10 := by rw [← HL.out]; exact hlen
    have hR := reach_right hok (t : Int)
    obtain rfl : rn = 10 := by rw [hrn]; exact hR.len
    obtain ⟨gr, rfl, hrow⟩ := HRB4.out (by decide)
    have HOK := hid_of hok
    have HRR := hid_of hR
    have HROW := hid_of hrow
    have HLEN := hid_of hlen
    have kz : w4.cell? ⟨gr, 0, none⟩ = some (.bool true) := (hrow.cell 0 (by rw [hR.len]; decide)).trans (congrArg (fun b => some (Value.bool b)) hR.zero)
    have HLG := hid_of hlg
    clear hok hlen hR hrow hrn HRB4 hlg HL hn HRN
    go_wp2
    clear kz
    obtain ⟨W4, hW4⟩ : ∃ W4, W4 = w4 := ⟨_, rfl⟩
    subst hW4
    go_loopw [7] (fun s7 wr => ∃ i : Nat, i ≤ 10 ∧ s7 = .int .i64 i ∧ Hid (Below W4.heap.size W4 wr)) (fun s7 _ => 10 - (intOf s7).toNat)
    case atStart => exact ⟨0, by omega, rfl, Below.refl _ _⟩
    case round =>
      obtain ⟨i, hi, rfl, hin⟩ := hrel
      by_cases hlt : i < 10
      · obtain ⟨Wi, hWi⟩ : ∃ Wi, Wi = wr := ⟨_, rfl⟩
        subst hWi
        have HIN := hid_of hin.out
        clear hin
        have HI : Hid (i < 10) := hlt
        have hd : decide ((i : Int) < 10) = true := decide_eq_true (by omega)
        have HI0 : Hid (((i : Int) == 0) = decide (i = 0)) := by show (_ == _) = _; rw [Bool.eq_iff_iff]; simp
        obtain ⟨b0, hb0⟩ : ∃ b0, ((i : Int) == 0) = b0 := ⟨_, rfl⟩
        have HB0 := hid_of hb0
        go_wp2
        try simp only [hd]
        clear hd
        go_loopw [8, 9] (fun s8 s9 wr => ∃ k : Nat, k ≤ 10 ∧ s9 = .int .i64 k ∧ s8 = .bool (b0 || ledTo os (reachAns os t) i k) ∧ Hid (Below W4.heap.size W4 wr)) (fun _ s9 _ => 10 - (intOf s9).toNat)
        case atStart => exact ⟨0, by omega, rfl, by simp [ledTo_zero], HIN⟩
        case round =>
          obtain ⟨k, hk, rfl, rfl, hin⟩ := hrel
          clear hb0
          by_cases hltk : k < 10
          · have hkr : ∀ wr, Below W4.heap.size W4 wr → ∀ j, j < 10 → wr.cell? ⟨gr, j, none⟩ = some (.bool (gAt (reachAns os t) j)) := fun wr hb j hj => (HROW.out.on hb).cell j (by rw [HRR.out.len]; exact hj)
            have HKR := hid_of hkr
            have C := HE.out k wr (below_more HB4.out hin.out)
            have HIB := hid_of hin.out
            clear hkr hin
            go_wp2_with fail
            refine C.mono ?_
            rintro e w5 ⟨ve, rfl, hoe, hb5⟩
            have HB5 := hid_of (below_more HIB.out hb5)
            have HOE : Hid (IsInts w5 ve (edgesAns os k)) := isInts_own hoe
            obtain ⟨ae, ce, rfl⟩ := owns_len hoe
            have kR := HKR.out w5 HB5.out k hltk
            have HKK : Hid (k < 10) := hltk
            clear C hoe hb5 HIB
            cases hg : gAt (reachAns os t) k with
            | false =>
              rw [hg] at kR
              have HLED : Hid (ledTo os (reachAns os t) i (k + 1) = ledTo os (reachAns os t) i k) := by show _ = _; rw [ledTo_next, hg]; simp
              clear hg
              go_wp2
              go_roundw
              case rel => exact ⟨k + 1, by omega, by go_num, by rw [HLED.out], HB5⟩
              case measure => simp [intOf]; omega
            | true =>
              rw [hg] at kR
              have hne : (edgesAns os k).length ≤ 9223372036854775807 := by
                unfold edgesAns
                split
                · have := edgesTo_len os (k : Int).toNat os.length; have := HLEN.out; omega
                · simp
              have C := lawHas_any _ _ (i : Int) w5 HOE.out hne
              have HG := hid_of hg
              clear hne hg
              go_wp2_with fail
              refine C.mono ?_
              rintro e w6 ⟨rfl, rfl⟩
              clear C kR
              cases hh : hasI (edgesAns os k) i with
              | false =>
                have HLED : Hid (ledTo os (reachAns os t) i (k + 1) = ledTo os (reachAns os t) i k) := by show _ = _; rw [ledTo_next, HG.out, hh]; simp
                clear hh
                go_wp2
                go_roundw
                case rel => exact ⟨k + 1, by omega, by go_num, by rw [HLED.out], HB5⟩
                case measure => simp [intOf]; omega
              | true =>
                have HLED : Hid (ledTo os (reachAns os t) i (k + 1) = true) := by show _ = _; rw [ledTo_next, HG.out, hh]; simp
                have HHH := hid_of hh
                obtain ⟨q, l, d, m, hq, c0, c1, c2, c3, c4, c5, c6, c7, c8, c9, c10, c11, c12⟩ := thing_at (HX.out w5 (below_more HB4.out HB5.out)) HLEN.out HI.out
                have C := specExp_any (obAt os i) l d m (t : Int) w5
                have hi10 : (i : Int) < 10 := by have := HI.out; omega
                clear hh
                go_wp2_with fail
                refine C.mono ?_
                rintro e w6 ⟨rfl, hb6⟩
                have HB6 := hid_of (below_more HB5.out hb6)
                clear C hb6 hq c0 c1 c2 c3 c4 c5 c6 c7 c8 c9 c10 c11 c12
                cases hx : expB (obAt os i) t with
                | true =>
                  clear hx
                  go_wp2
                  go_roundw
                  case rel => exact ⟨k + 1, by omega, by go_num, by rw [HLED.out]; simp, HB6⟩
                  case measure => simp [intOf]; omega
                | false =>
                  have kRi := (HKR.out w6 HB6.out i HI.out).trans (congrArg (fun b => some (Value.bool b)) (closed_told HOK.out (t : Int) HKK.out HI.out HG.out HHH.out hx))
                  clear hx
                  go_wp2
                  go_roundw
                  case rel => exact ⟨k + 1, by omega, by go_num, by rw [HLED.out]; simp, HB6⟩
                  case measure => simp [intOf]; omega
          · obtain rfl : k = 10 := by omega
            obtain ⟨W, hW⟩ : ∃ W, W = wr := ⟨_, rfl⟩
            subst hW
            have HIB := hid_of hin.out
            clear hin
            have HKR : Hid (∀ wr, Below W4.heap.size W4 wr → ∀ j, j < 10 → wr.cell? ⟨gr, j, none⟩ = some (.bool (gAt (reachAns os t) j))) := fun wr hb j hj => (HROW.out.on hb).cell j (by rw [HRR.out.len]; exact hj)
            obtain ⟨q, l, d, m, hq, hcs⟩ := thing_at (HX.out W (below_more HB4.out HIB.out)) HLEN.out HI.out
            have HQ := hid_of hq
            have HCS := hid_of hcs
            have HI10 : Hid ((i : Int) < 10) := by show (i : Int) < 10; have := HI.out; omega
            have HOGI : Hid (IsInts W (.slice ag lg cg) (garbAns os t)) := HOG4.out.on HIB.out
            have HNG : Hid ((garbAns os (t : Int)).length ≤ 9223372036854775807) := by
              show _ ≤ _
              unfold garbAns
              split
              · exact Nat.le_trans (lostTo_len _ _ _) (by decide)
              · simp
            have hb0 : b0 = decide (i = 0) := HB0.out.symm.trans HI0.out
            obtain ⟨ld, hld⟩ : ∃ ld, ld = (b0 || ledTo os (reachAns os t) i 10) := ⟨_, rfl⟩
            rw [← hld]
            have hga := garb_has HOK.out (t : Int) HI.out
            clear hq hcs
            cases hr : gAt (reachAns os t) i with
            | true =>
              obtain ⟨h1, h2⟩ := led_told HOK.out (t : Int) HI.out hr
              obtain rfl : ld = true := by rw [hld, hb0]; rcases h1 with h1 | h1 <;> simp [h1]
              rw [hr] at hga
              have HHS : Hid (hasI (garbAns os t) i = false) := by show _ = _; rw [hga]; simp
              have HRI := hid_of hr
              by_cases hz : i = 0
              · have HPOS : Hid (decide (0 < i) = false) := decide_eq_false (by omega)
                clear h1 h2 hga hr hz hld hb0
                obtain ⟨l0, hl0⟩ : ∃ l0 : List Value, l0 = [.slice (some ⟨gr, 0, none⟩) 10 rc, .int .i64 i, .pointer (some ⟨gr, i, none⟩), .bool true, .bool true, .bool true, .bool false, .bool false, .int .i64 i, .bool false, .bool false, undef, undef, undef, undef, undef, undef, .bool false, .bool false, .bool false, .bool false, .slice ag lg cg, .int .i64 i, .bool false, .slice (some ⟨gr, 0, none⟩) 10 rc, .int .i64 i, .pointer (some ⟨gr, i, none⟩), .bool true, .bool true, undef, undef, undef, undef, undef, undef, .bool true, .bool false, .bool false] := ⟨_, rfl⟩
                have HL := hid_of hl0
                clear hl0
                go_wp2_with fail
                refine wp_region_whole (by kernel_rfl) (by kernel_rfl) (by kernel_rfl) (by kernel_rfl) (Flat (fun wz => Below W.heap.size W wz) (gVals l0)) (flat_start (below_draw _)) ?_ ?_
                · refine ⟨?_, ?_, ?_, ?_, ?_, ?_, ?_, ?_, ?_, ?_, ?_, ?_, ?_, ?_, ?_, ?_, ?_, ?_, ?_, ?_, ?_, ?_, ?_, ?_, ?_, ?_, ?_, ?_, ?_, ?_, ?_, ?_, ?_, ?_, ?_, ?_, ?_, ?_, trivial⟩
                  · intro b0 us wz L hslot hoth hLi hR hcl hdo K hK
                    rcases HL.out with rfl
                    · have s5 : b0.tmps.getD 5 undef = .slice (some ⟨gr, 0, none⟩) 10 rc := hoth 5 (by rfl)
                      clear hslot hoth hdo hcl hLi
                      refine guard_none (by rfl) ?_
                      go_simp
                      exact hK _ _ (flat_mark (hR.1) (fun _ _ h => h) hR.2 rfl)
                  · intro b0 us wz L hslot hoth hLi hR hcl hdo K hK
                    rcases HL.out with rfl
                    · have s7 : b0.tmps.getD 7 undef = .int .i64 i := hoth 7 (by rfl)
                      clear hslot hoth hdo hcl hLi
                      refine guard_none (by rfl) ?_
                      go_simp
                      exact hK _ _ (flat_mark (hR.1) (fun _ _ h => h) hR.2 rfl)
                  · intro b0 us wz L hslot hoth hLi hR hcl hdo K hK
                    rcases HL.out with rfl
                    · have s84 : b0.tmps.getD 84 undef = .slice (some ⟨gr, 0, none⟩) 10 rc := (hslot 0 84 (by rfl)).trans (hR.2 0 (done_at hdo 0 (by rfl)))
                      have s85 : b0.tmps.getD 85 undef = .int .i64 i := (hslot 1 85 (by rfl)).trans (hR.2 1 (done_at hdo 1 (by rfl)))
                      have hi10 : (i : Int) < 10 := HI10.out
                      clear hslot hoth hdo hcl hLi
                      refine guard_none (by rfl) ?_
                      go_simp
                      exact hK _ _ (flat_mark (hR.1) (fun _ _ h => h) hR.2 rfl)
                  · intro b0 us wz L hslot hoth hLi hR hcl hdo K hK
                    rcases HL.out with rfl
                    · have s86 : b0.tmps.getD 86 undef = .pointer (some ⟨gr, i, none⟩) := (hslot 2 86 (by rfl)).trans (hR.2 2 (done_at hdo 2 (by rfl)))
                      have kR := (HKR.out wz (below_more HIB.out hR.1) i HI.out).trans (congrArg (fun b => some (Value.bool b)) HRI.out)
                      clear hslot hoth hdo hcl hLi
                      refine guard_none (by rfl) ?_
                      go_simp
                      exact hK _ _ (flat_mark (hR.1) (fun _ _ h => h) hR.2 rfl)
                  · intro b0 us wz L hslot hoth hLi hR hcl hdo K hK
                    rcases HL.out with rfl
                    · have s87 : b0.tmps.getD 87 undef = .bool true := (hslot 3 87 (by rfl)).trans (hR.2 3 (done_at hdo 3 (by rfl)))
                      clear hslot hoth hdo hcl hLi
                      refine guard_none (by rfl) ?_
                      go_simp
                      exact hK _ _ (flat_mark (hR.1) (fun _ _ h => h) hR.2 rfl)
                  · intro b0 us wz L hslot hoth hLi hR hcl hdo K hK
                    rcases HL.out with rfl
                    · have gg : us 4 = .bool true := hR.2 4 (done_at hdo 4 (by rfl))
                      have s8 : b0.tmps.getD 8 undef = .bool true := hoth 8 (by rfl)
                      clear hslot hoth hdo hcl hLi
                      refine guard_on (j := 4) (want := true) (d := 88) (by rfl) (by rfl) gg ?_
                      go_simp
                      exact hK _ _ (flat_mark (hR.1) (fun _ _ h => h) hR.2 rfl)
                  · intro b0 us wz L hslot hoth hLi hR hcl hdo K hK
                    rcases HL.out with rfl
                    · have gg : us 4 = .bool true := hR.2 4 (done_at hdo 4 (by rfl))
                      have s89 : b0.tmps.getD 89 undef = .bool true := (hslot 5 89 (by rfl)).trans (hR.2 5 (done_at hdo 5 (by rfl)))
                      clear hslot hoth hdo hcl hLi
                      refine guard_on (j := 4) (want := true) (d := 88) (by rfl) (by rfl) gg ?_
                      go_simp
                      exact hK _ _ (flat_mark (hR.1) (fun _ _ h => h) hR.2 rfl)
                  · intro b0 us wz L hslot hoth hLi hR hcl hdo K hK
                    rcases HL.out with rfl
                    · have gg : us 4 = .bool true := hR.2 4 (done_at hdo 4 (by rfl))
                      have s90 : b0.tmps.getD 90 undef = .bool false := (hslot 6 90 (by rfl)).trans (hR.2 6 (done_at hdo 6 (by rfl)))
                      clear hslot hoth hdo hcl hLi
                      refine guard_on (j := 4) (want := true) (d := 88) (by rfl) (by rfl) gg ?_
                      go_simp
                      exact hK _ _ (flat_mark (hR.1) (fun _ _ h => h) hR.2 rfl)
                  · intro b0 us wz L hslot hoth hLi hR hcl hdo K hK
                    rcases HL.out with rfl
                    · have gg : us 7 = .bool false := hR.2 7 (done_at hdo 7 (by rfl))
                      have s7 : b0.tmps.getD 7 undef = .int .i64 i := hoth 7 (by rfl)
                      clear hslot hoth hdo hcl hLi
                      refine guard_on (j := 7) (want := false) (d := 91) (by rfl) (by rfl) gg ?_
                      go_simp
                      exact hK _ _ (flat_mark (hR.1) (fun _ _ h => h) hR.2 rfl)
                  · intro b0 us wz L hslot hoth hLi hR hcl hdo K hK
                    rcases HL.out with rfl
                    · have gg : us 7 = .bool false := hR.2 7 (done_at hdo 7 (by rfl))
                      have s92 : b0.tmps.getD 92 undef = .int .i64 i := (hslot 8 92 (by rfl)).trans (hR.2 8 (done_at hdo 8 (by rfl)))
                      have e9 : decide (0 < i) = false := HPOS.out
                      clear hslot hoth hdo hcl hLi
                      refine guard_on (j := 7) (want := false) (d := 91) (by rfl) (by rfl) gg ?_
                      go_simp
                      exact hK _ _ (flat_mark (hR.1) (fun _ _ h => h) hR.2 rfl)
                  · intro b0 us wz L hslot hoth hLi hR hcl hdo K hK
                    rcases HL.out with rfl
                    · have gg : us 7 = .bool false := hR.2 7 (done_at hdo 7 (by rfl))
                      have s93 : b0.tmps.getD 93 undef = .bool false := (hslot 9 93 (by rfl)).trans (hR.2 9 (done_at hdo 9 (by rfl)))
                      clear hslot hoth hdo hcl hLi
                      refine guard_on (j := 7) (want := false) (d := 91) (by rfl) (by rfl) gg ?_
                      go_simp
                      exact hK _ _ (flat_mark (hR.1) (fun _ _ h => h) hR.2 rfl)
                  · intro b0 us wz L hslot hoth hLi hR hcl hdo K hK
                    rcases HL.out with rfl
                    · have gg : us 10 = .bool false := hR.2 10 (done_at hdo 10 (by rfl))
                      refine guard_off (j := 10) (want := true) (d := 94) (by rfl) (by rfl) gg (by rfl) ?_
                      exact hK undef _ (flat_mark (hR.1) (fun _ _ h => h) hR.2 rfl)
                  · intro b0 us wz L hslot hoth hLi hR hcl hdo K hK
                    rcases HL.out with rfl
                    · have gg : us 10 = .bool false := hR.2 10 (done_at hdo 10 (by rfl))
                      refine guard_off (j := 10) (want := true) (d := 94) (by rfl) (by rfl) gg (by rfl) ?_
                      exact hK undef _ (flat_mark (hR.1) (fun _ _ h => h) hR.2 rfl)
                  · intro b0 us wz L hslot hoth hLi hR hcl hdo K hK
                    rcases HL.out with rfl
                    · have gg : us 10 = .bool false := hR.2 10 (done_at hdo 10 (by rfl))
                      refine guard_off (j := 10) (want := true) (d := 94) (by rfl) (by rfl) gg (by rfl) ?_
                      exact hK undef _ (flat_mark (hR.1) (fun _ _ h => h) hR.2 rfl)
                  · intro b0 us wz L hslot hoth hLi hR hcl hdo K hK
                    rcases HL.out with rfl
                    · have gg : us 10 = .bool false := hR.2 10 (done_at hdo 10 (by rfl))
                      refine guard_off (j := 10) (want := true) (d := 94) (by rfl) (by rfl) gg (by rfl) ?_
                      exact hK undef _ (flat_mark (hR.1) (fun _ _ h => h) hR.2 rfl)
                  · intro b0 us wz L hslot hoth hLi hR hcl hdo K hK
                    rcases HL.out with rfl
                    · have gg : us 10 = .bool false := hR.2 10 (done_at hdo 10 (by rfl))
                      refine guard_off (j := 10) (want := true) (d := 94) (by rfl) (by rfl) gg (by rfl) ?_
                      exact hK undef _ (flat_mark (hR.1) (fun _ _ h => h) hR.2 rfl)
                  · intro b0 us wz L hslot hoth hLi hR hcl hdo K hK
                    rcases HL.out with rfl
                    · have gg : us 10 = .bool false := hR.2 10 (done_at hdo 10 (by rfl))
                      refine guard_off (j := 10) (want := true) (d := 94) (by rfl) (by rfl) gg (by rfl) ?_
                      exact hK undef _ (flat_mark (hR.1) (fun _ _ h => h) hR.2 rfl)
                  · intro b0 us wz L hslot hoth hLi hR hcl hdo K hK
                    rcases HL.out with rfl
                    · have gg : us 7 = .bool false := hR.2 7 (done_at hdo 7 (by rfl))
                      have s94 : b0.tmps.getD 94 undef = .bool false := (hslot 10 94 (by rfl)).trans (hR.2 10 (done_at hdo 10 (by rfl)))
                      have s100 : b0.tmps.getD 100 undef = undef := (hslot 16 100 (by rfl)).trans (hR.2 16 (done_at hdo 16 (by rfl)))
                      clear hslot hoth hdo hcl hLi
                      refine guard_on (j := 7) (want := false) (d := 91) (by rfl) (by rfl) gg ?_
                      go_simp
                      exact hK _ _ (flat_mark (hR.1) (fun _ _ h => h) hR.2 rfl)
                  · intro b0 us wz L hslot hoth hLi hR hcl hdo K hK
                    rcases HL.out with rfl
                    · have gg : us 4 = .bool true := hR.2 4 (done_at hdo 4 (by rfl))
                      have s91 : b0.tmps.getD 91 undef = .bool false := (hslot 7 91 (by rfl)).trans (hR.2 7 (done_at hdo 7 (by rfl)))
                      have s101 : b0.tmps.getD 101 undef = .bool false := (hslot 17 101 (by rfl)).trans (hR.2 17 (done_at hdo 17 (by rfl)))
                      clear hslot hoth hdo hcl hLi
                      refine guard_on (j := 4) (want := true) (d := 88) (by rfl) (by rfl) gg ?_
                      go_simp
                      exact hK _ _ (flat_mark (hR.1) (fun _ _ h => h) hR.2 rfl)
                  · intro b0 us wz L hslot hoth hLi hR hcl hdo K hK
                    rcases HL.out with rfl
                    · have s88 : b0.tmps.getD 88 undef = .bool true := (hslot 4 88 (by rfl)).trans (hR.2 4 (done_at hdo 4 (by rfl)))
                      have s102 : b0.tmps.getD 102 undef = .bool false := (hslot 18 102 (by rfl)).trans (hR.2 18 (done_at hdo 18 (by rfl)))
                      clear hslot hoth hdo hcl hLi
                      refine guard_none (by rfl) ?_
                      go_simp
                      exact hK _ _ (flat_mark (hR.1) (fun _ _ h => h) hR.2 rfl)
                  · intro b0 us wz L hslot hoth hLi hR hcl hdo K hK
                    rcases HL.out with rfl
                    · have s103 : b0.tmps.getD 103 undef = .bool false := (hslot 19 103 (by rfl)).trans (hR.2 19 (done_at hdo 19 (by rfl)))
                      clear hslot hoth hdo hcl hLi
                      refine guard_none (by rfl) ?_
                      go_simp
                      exact hK _ _ (flat_mark (hR.1) (fun _ _ h => h) hR.2 rfl)
                  · intro b0 us wz L hslot hoth hLi hR hcl hdo K hK
                    rcases HL.out with rfl
                    · have gg : us 20 = .bool false := hR.2 20 (done_at hdo 20 (by rfl))
                      have s6 : b0.tmps.getD 6 undef = .slice ag lg cg := hoth 6 (by rfl)
                      clear hslot hoth hdo hcl hLi
                      refine guard_on (j := 20) (want := false) (d := 104) (by rfl) (by rfl) gg ?_
                      go_simp
                      exact hK _ _ (flat_mark (hR.1) (fun _ _ h => h) hR.2 rfl)
                  · intro b0 us wz L hslot hoth hLi hR hcl hdo K hK
                    rcases HL.out with rfl
                    · have gg : us 20 = .bool false := hR.2 20 (done_at hdo 20 (by rfl))
                      have s7 : b0.tmps.getD 7 undef = .int .i64 i := hoth 7 (by rfl)
                      clear hslot hoth hdo hcl hLi
                      refine guard_on (j := 20) (want := false) (d := 104) (by rfl) (by rfl) gg ?_
                      go_simp
                      exact hK _ _ (flat_mark (hR.1) (fun _ _ h => h) hR.2 rfl)
                  · intro b0 us wz L hslot hoth hLi hR hcl hdo K hK
                    rcases HL.out with rfl
                    · have gg : us 20 = .bool false := hR.2 20 (done_at hdo 20 (by rfl))
                      have s105 : b0.tmps.getD 105 undef = .slice ag lg cg := (hslot 21 105 (by rfl)).trans (hR.2 21 (done_at hdo 21 (by rfl)))
                      have s106 : b0.tmps.getD 106 undef = .int .i64 i := (hslot 22 106 (by rfl)).trans (hR.2 22 (done_at hdo 22 (by rfl)))
                      clear hslot hoth hdo hcl hLi
                      refine guard_on (j := 20) (want := false) (d := 104) (by rfl) (by rfl) gg ?_
                      go_simp
                      have C := lawHas_any _ (garbAns os t) (i : Int) wz (HOGI.out.on hR.1) HNG.out
                      rw [HHS.out] at C
                      refine C.mono ?_
                      rintro e w' ⟨rfl, rfl⟩
                      exact hK _ _ (flat_mark (hR.1) (fun _ _ h => h) hR.2 rfl)
                  · intro b0 us wz L hslot hoth hLi hR hcl hdo K hK
                    rcases HL.out with rfl
                    · have gg : us 20 = .bool false := hR.2 20 (done_at hdo 20 (by rfl))
                      have s5 : b0.tmps.getD 5 undef = .slice (some ⟨gr, 0, none⟩) 10 rc := hoth 5 (by rfl)
                      clear hslot hoth hdo hcl hLi
                      refine guard_on (j := 20) (want := false) (d := 104) (by rfl) (by rfl) gg ?_
                      go_simp
                      exact hK _ _ (flat_mark (hR.1) (fun _ _ h => h) hR.2 rfl)
                  · intro b0 us wz L hslot hoth hLi hR hcl hdo K hK
                    rcases HL.out with rfl
                    · have gg : us 20 = .bool false := hR.2 20 (done_at hdo 20 (by rfl))
                      have s7 : b0.tmps.getD 7 undef = .int .i64 i := hoth 7 (by rfl)
                      clear hslot hoth hdo hcl hLi
                      refine guard_on (j := 20) (want := false) (d := 104) (by rfl) (by rfl) gg ?_
                      go_simp
                      exact hK _ _ (flat_mark (hR.1) (fun _ _ h => h) hR.2 rfl)
                  · intro b0 us wz L hslot hoth hLi hR hcl hdo K hK
                    rcases HL.out with rfl
                    · have gg : us 20 = .bool false := hR.2 20 (done_at hdo 20 (by rfl))
                      have s108 : b0.tmps.getD 108 undef = .slice (some ⟨gr, 0, none⟩) 10 rc := (hslot 24 108 (by rfl)).trans (hR.2 24 (done_at hdo 24 (by rfl)))
                      have s109 : b0.tmps.getD 109 undef = .int .i64 i := (hslot 25 109 (by rfl)).trans (hR.2 25 (done_at hdo 25 (by rfl)))
                      have hi10 : (i : Int) < 10 := HI10.out
                      clear hslot hoth hdo hcl hLi
                      refine guard_on (j := 20) (want := false) (d := 104) (by rfl) (by rfl) gg ?_
                      go_simp
                      exact hK _ _ (flat_mark (hR.1) (fun _ _ h => h) hR.2 rfl)
                  · intro b0 us wz L hslot hoth hLi hR hcl hdo K hK
                    rcases HL.out with rfl
                    · have gg : us 20 = .bool false := hR.2 20 (done_at hdo 20 (by rfl))
                      have s110 : b0.tmps.getD 110 undef = .pointer (some ⟨gr, i, none⟩) := (hslot 26 110 (by rfl)).trans (hR.2 26 (done_at hdo 26 (by rfl)))
                      have kR := (HKR.out wz (below_more HIB.out hR.1) i HI.out).trans (congrArg (fun b => some (Value.bool b)) HRI.out)
                      clear hslot hoth hdo hcl hLi
                      refine guard_on (j := 20) (want := false) (d := 104) (by rfl) (by rfl) gg ?_
                      go_simp
                      exact hK _ _ (flat_mark (hR.1) (fun _ _ h => h) hR.2 rfl)
                  · intro b0 us wz L hslot hoth hLi hR hcl hdo K hK
                    rcases HL.out with rfl
                    · have gg : us 20 = .bool false := hR.2 20 (done_at hdo 20 (by rfl))
                      have s111 : b0.tmps.getD 111 undef = .bool true := (hslot 27 111 (by rfl)).trans (hR.2 27 (done_at hdo 27 (by rfl)))
                      clear hslot hoth hdo hcl hLi
                      refine guard_on (j := 20) (want := false) (d := 104) (by rfl) (by rfl) gg ?_
                      go_simp
                      exact hK _ _ (flat_mark (hR.1) (fun _ _ h => h) hR.2 rfl)
                  · intro b0 us wz L hslot hoth hLi hR hcl hdo K hK
                    rcases HL.out with rfl
                    · have gg : us 28 = .bool true := hR.2 28 (done_at hdo 28 (by rfl))
                      refine guard_off (j := 28) (want := false) (d := 112) (by rfl) (by rfl) gg (by rfl) ?_
                      exact hK undef _ (flat_mark (hR.1) (fun _ _ h => h) hR.2 rfl)
                  · intro b0 us wz L hslot hoth hLi hR hcl hdo K hK
                    rcases HL.out with rfl
                    · have gg : us 28 = .bool true := hR.2 28 (done_at hdo 28 (by rfl))
                      refine guard_off (j := 28) (want := false) (d := 112) (by rfl) (by rfl) gg (by rfl) ?_
                      exact hK undef _ (flat_mark (hR.1) (fun _ _ h => h) hR.2 rfl)
                  · intro b0 us wz L hslot hoth hLi hR hcl hdo K hK
                    rcases HL.out with rfl
                    · have gg : us 28 = .bool true := hR.2 28 (done_at hdo 28 (by rfl))
                      refine guard_off (j := 28) (want := false) (d := 112) (by rfl) (by rfl) gg (by rfl) ?_
                      exact hK undef _ (flat_mark (hR.1) (fun _ _ h => h) hR.2 rfl)
                  · intro b0 us wz L hslot hoth hLi hR hcl hdo K hK
                    rcases HL.out with rfl
                    · have gg : us 28 = .bool true := hR.2 28 (done_at hdo 28 (by rfl))
                      refine guard_off (j := 28) (want := false) (d := 112) (by rfl) (by rfl) gg (by rfl) ?_
                      exact hK undef _ (flat_mark (hR.1) (fun _ _ h => h) hR.2 rfl)
                  · intro b0 us wz L hslot hoth hLi hR hcl hdo K hK
                    rcases HL.out with rfl
                    · have gg : us 28 = .bool true := hR.2 28 (done_at hdo 28 (by rfl))
                      refine guard_off (j := 28) (want := false) (d := 112) (by rfl) (by rfl) gg (by rfl) ?_
                      exact hK undef _ (flat_mark (hR.1) (fun _ _ h => h) hR.2 rfl)
                  · intro b0 us wz L hslot hoth hLi hR hcl hdo K hK
                    rcases HL.out with rfl
                    · have gg : us 28 = .bool true := hR.2 28 (done_at hdo 28 (by rfl))
                      refine guard_off (j := 28) (want := false) (d := 112) (by rfl) (by rfl) gg (by rfl) ?_
                      exact hK undef _ (flat_mark (hR.1) (fun _ _ h => h) hR.2 rfl)
                  · intro b0 us wz L hslot hoth hLi hR hcl hdo K hK
                    rcases HL.out with rfl
                    · have gg : us 20 = .bool false := hR.2 20 (done_at hdo 20 (by rfl))
                      have s112 : b0.tmps.getD 112 undef = .bool true := (hslot 28 112 (by rfl)).trans (hR.2 28 (done_at hdo 28 (by rfl)))
                      have s118 : b0.tmps.getD 118 undef = undef := (hslot 34 118 (by rfl)).trans (hR.2 34 (done_at hdo 34 (by rfl)))
                      clear hslot hoth hdo hcl hLi
                      refine guard_on (j := 20) (want := false) (d := 104) (by rfl) (by rfl) gg ?_
                      go_simp
                      exact hK _ _ (flat_mark (hR.1) (fun _ _ h => h) hR.2 rfl)
                  · intro b0 us wz L hslot hoth hLi hR hcl hdo K hK
                    rcases HL.out with rfl
                    · have gg : us 20 = .bool false := hR.2 20 (done_at hdo 20 (by rfl))
                      have s107 : b0.tmps.getD 107 undef = .bool false := (hslot 23 107 (by rfl)).trans (hR.2 23 (done_at hdo 23 (by rfl)))
                      have s119 : b0.tmps.getD 119 undef = .bool true := (hslot 35 119 (by rfl)).trans (hR.2 35 (done_at hdo 35 (by rfl)))
                      clear hslot hoth hdo hcl hLi
                      refine guard_on (j := 20) (want := false) (d := 104) (by rfl) (by rfl) gg ?_
                      go_simp
                      exact hK _ _ (flat_mark (hR.1) (fun _ _ h => h) hR.2 rfl)
                  · intro b0 us wz L hslot hoth hLi hR hcl hdo K hK
                    rcases HL.out with rfl
                    · have s104 : b0.tmps.getD 104 undef = .bool false := (hslot 20 104 (by rfl)).trans (hR.2 20 (done_at hdo 20 (by rfl)))
                      have s120 : b0.tmps.getD 120 undef = .bool false := (hslot 36 120 (by rfl)).trans (hR.2 36 (done_at hdo 36 (by rfl)))
                      clear hslot hoth hdo hcl hLi
                      refine guard_none (by rfl) ?_
                      go_simp
                      exact hK _ _ (flat_mark (hR.1) (fun _ _ h => h) hR.2 rfl)
                · intro us wn L hall hR a' ha'
                  have g37 : us 37 = .bool false := by
                    have := hR.2 37 (hall 37 (by decide))
                    rcases HL.out with rfl
                    all_goals exact this
                  have HB := hid_of hR.1
                  clear hR hall
                  simp only [putAll, g37] at ha'
                  subst ha'
                  go_frame
                  have HZ := hid_of (below_more HIB.out HB.out)
                  go_wp2
                  go_roundw
                  case rel => exact ⟨i + 1, by omega, by go_num, HZ⟩
                  case measure => simp [intOf]; omega
              · have HPOS : Hid (decide (0 < i) = true) := decide_eq_true (by omega)
                have HXP : Hid (expB (obAt os i) t = false) := h2.resolve_left hz
                clear h1 h2 hga hr hz hld hb0
                obtain ⟨l0, hl0⟩ : ∃ l0 : List Value, l0 = [.slice (some ⟨gr, 0, none⟩) 10 rc, .int .i64 i, .pointer (some ⟨gr, i, none⟩), .bool true, .bool true, .bool true, .bool false, .bool false, .int .i64 i, .bool true, .bool true, .slice (some p) 10 c, .int .i64 i, .pointer (some q), (obV (obAt os i) l d m), .int .i64 t, .bool false, .bool false, .bool false, .bool false, .bool false, .slice ag lg cg, .int .i64 i, .bool false, .slice (some ⟨gr, 0, none⟩) 10 rc, .int .i64 i, .pointer (some ⟨gr, i, none⟩), .bool true, .bool true, undef, undef, undef, undef, undef, undef, .bool true, .bool false, .bool false] := ⟨_, rfl⟩
                have HL := hid_of hl0
                clear hl0
                go_wp2_with fail
                refine wp_region_whole (by kernel_rfl) (by kernel_rfl) (by kernel_rfl) (by kernel_rfl) (Flat (fun wz => Below W.heap.size W wz) (gVals l0)) (flat_start (below_draw _)) ?_ ?_
                · refine ⟨?_, ?_, ?_, ?_, ?_, ?_, ?_, ?_, ?_, ?_, ?_, ?_, ?_, ?_, ?_, ?_, ?_, ?_, ?_, ?_, ?_, ?_, ?_, ?_, ?_, ?_, ?_, ?_, ?_, ?_, ?_, ?_, ?_, ?_, ?_, ?_, ?_, ?_, trivial⟩
                  · intro b0 us wz L hslot hoth hLi hR hcl hdo K hK
                    rcases HL.out with rfl
                    · have s5 : b0.tmps.getD 5 undef = .slice (some ⟨gr, 0, none⟩) 10 rc := hoth 5 (by rfl)
                      clear hslot hoth hdo hcl hLi
                      refine guard_none (by rfl) ?_
                      go_simp
                      exact hK _ _ (flat_mark (hR.1) (fun _ _ h => h) hR.2 rfl)
                  · intro b0 us wz L hslot hoth hLi hR hcl hdo K hK
                    rcases HL.out with rfl
                    · have s7 : b0.tmps.getD 7 undef = .int .i64 i := hoth 7 (by rfl)
                      clear hslot hoth hdo hcl hLi
                      refine guard_none (by rfl) ?_
                      go_simp
                      exact hK _ _ (flat_mark (hR.1) (fun _ _ h => h) hR.2 rfl)
                  · intro b0 us wz L hslot hoth hLi hR hcl hdo K hK
                    rcases HL.out with rfl
                    · have s84 : b0.tmps.getD 84 undef = .slice (some ⟨gr, 0, none⟩) 10 rc := (hslot 0 84 (by rfl)).trans (hR.2 0 (done_at hdo 0 (by rfl)))
                      have s85 : b0.tmps.getD 85 undef = .int .i64 i := (hslot 1 85 (by rfl)).trans (hR.2 1 (done_at hdo 1 (by rfl)))
                      have hi10 : (i : Int) < 10 := HI10.out
                      clear hslot hoth hdo hcl hLi
                      refine guard_none (by rfl) ?_
                      go_simp
                      exact hK _ _ (flat_mark (hR.1) (fun _ _ h => h) hR.2 rfl)
                  · intro b0 us wz L hslot hoth hLi hR hcl hdo K hK
                    rcases HL.out with rfl
                    · have s86 : b0.tmps.getD 86 undef = .pointer (some ⟨gr, i, none⟩) := (hslot 2 86 (by rfl)).trans (hR.2 2 (done_at hdo 2 (by rfl)))
                      have kR := (HKR.out wz (below_more HIB.out hR.1) i HI.out).trans (congrArg (fun b => some (Value.bool b)) HRI.out)
                      clear hslot hoth hdo hcl hLi
                      refine guard_none (by rfl) ?_
                      go_simp
                      exact hK _ _ (flat_mark (hR.1) (fun _ _ h => h) hR.2 rfl)
                  · intro b0 us wz L hslot hoth hLi hR hcl hdo K hK
                    rcases HL.out with rfl
                    · have s87 : b0.tmps.getD 87 undef = .bool true := (hslot 3 87 (by rfl)).trans (hR.2 3 (done_at hdo 3 (by rfl)))
                      clear hslot hoth hdo hcl hLi
                      refine guard_none (by rfl) ?_
                      go_simp
                      exact hK _ _ (flat_mark (hR.1) (fun _ _ h => h) hR.2 rfl)
                  · intro b0 us wz L hslot hoth hLi hR hcl hdo K hK
                    rcases HL.out with rfl
                    · have gg : us 4 = .bool true := hR.2 4 (done_at hdo 4 (by rfl))
                      have s8 : b0.tmps.getD 8 undef = .bool true := hoth 8 (by rfl)
                      clear hslot hoth hdo hcl hLi
                      refine guard_on (j := 4) (want := true) (d := 88) (by rfl) (by rfl) gg ?_
                      go_simp
                      exact hK _ _ (flat_mark (hR.1) (fun _ _ h => h) hR.2 rfl)
                  · intro b0 us wz L hslot hoth hLi hR hcl hdo K hK
                    rcases HL.out with rfl
                    · have gg : us 4 = .bool true := hR.2 4 (done_at hdo 4 (by rfl))
                      have s89 : b0.tmps.getD 89 undef = .bool true := (hslot 5 89 (by rfl)).trans (hR.2 5 (done_at hdo 5 (by rfl)))
                      clear hslot hoth hdo hcl hLi
                      refine guard_on (j := 4) (want := true) (d := 88) (by rfl) (by rfl) gg ?_
                      go_simp
                      exact hK _ _ (flat_mark (hR.1) (fun _ _ h => h) hR.2 rfl)
                  · intro b0 us wz L hslot hoth hLi hR hcl hdo K hK
                    rcases HL.out with rfl
                    · have gg : us 4 = .bool true := hR.2 4 (done_at hdo 4 (by rfl))
                      have s90 : b0.tmps.getD 90 undef = .bool false := (hslot 6 90 (by rfl)).trans (hR.2 6 (done_at hdo 6 (by rfl)))
                      clear hslot hoth hdo hcl hLi
                      refine guard_on (j := 4) (want := true) (d := 88) (by rfl) (by rfl) gg ?_
                      go_simp
                      exact hK _ _ (flat_mark (hR.1) (fun _ _ h => h) hR.2 rfl)
                  · intro b0 us wz L hslot hoth hLi hR hcl hdo K hK
                    rcases HL.out with rfl
                    · have gg : us 7 = .bool false := hR.2 7 (done_at hdo 7 (by rfl))
                      have s7 : b0.tmps.getD 7 undef = .int .i64 i := hoth 7 (by rfl)
                      clear hslot hoth hdo hcl hLi
                      refine guard_on (j := 7) (want := false) (d := 91) (by rfl) (by rfl) gg ?_
                      go_simp
                      exact hK _ _ (flat_mark (hR.1) (fun _ _ h => h) hR.2 rfl)
                  · intro b0 us wz L hslot hoth hLi hR hcl hdo K hK
                    rcases HL.out with rfl
                    · have gg : us 7 = .bool false := hR.2 7 (done_at hdo 7 (by rfl))
                      have s92 : b0.tmps.getD 92 undef = .int .i64 i := (hslot 8 92 (by rfl)).trans (hR.2 8 (done_at hdo 8 (by rfl)))
                      have e9 : decide (0 < i) = true := HPOS.out
                      clear hslot hoth hdo hcl hLi
                      refine guard_on (j := 7) (want := false) (d := 91) (by rfl) (by rfl) gg ?_
                      go_simp
                      exact hK _ _ (flat_mark (hR.1) (fun _ _ h => h) hR.2 rfl)
                  · intro b0 us wz L hslot hoth hLi hR hcl hdo K hK
                    rcases HL.out with rfl
                    · have gg : us 7 = .bool false := hR.2 7 (done_at hdo 7 (by rfl))
                      have s93 : b0.tmps.getD 93 undef = .bool true := (hslot 9 93 (by rfl)).trans (hR.2 9 (done_at hdo 9 (by rfl)))
                      clear hslot hoth hdo hcl hLi
                      refine guard_on (j := 7) (want := false) (d := 91) (by rfl) (by rfl) gg ?_
                      go_simp
                      exact hK _ _ (flat_mark (hR.1) (fun _ _ h => h) hR.2 rfl)
                  · intro b0 us wz L hslot hoth hLi hR hcl hdo K hK
                    rcases HL.out with rfl
                    · have gg : us 10 = .bool true := hR.2 10 (done_at hdo 10 (by rfl))
                      have s3 : b0.tmps.getD 3 undef = .slice (some p) 10 c := hoth 3 (by rfl)
                      clear hslot hoth hdo hcl hLi
                      refine guard_on (j := 10) (want := true) (d := 94) (by rfl) (by rfl) gg ?_
                      go_simp
                      exact hK _ _ (flat_mark (hR.1) (fun _ _ h => h) hR.2 rfl)
                  · intro b0 us wz L hslot hoth hLi hR hcl hdo K hK
                    rcases HL.out with rfl
                    · have gg : us 10 = .bool true := hR.2 10 (done_at hdo 10 (by rfl))
                      have s7 : b0.tmps.getD 7 undef = .int .i64 i := hoth 7 (by rfl)
                      clear hslot hoth hdo hcl hLi
                      refine guard_on (j := 10) (want := true) (d := 94) (by rfl) (by rfl) gg ?_
                      go_simp
                      exact hK _ _ (flat_mark (hR.1) (fun _ _ h => h) hR.2 rfl)
                  · intro b0 us wz L hslot hoth hLi hR hcl hdo K hK
                    rcases HL.out with rfl
                    · have gg : us 10 = .bool true := hR.2 10 (done_at hdo 10 (by rfl))
                      have s95 : b0.tmps.getD 95 undef = .slice (some p) 10 c := (hslot 11 95 (by rfl)).trans (hR.2 11 (done_at hdo 11 (by rfl)))
                      have s96 : b0.tmps.getD 96 undef = .int .i64 i := (hslot 12 96 (by rfl)).trans (hR.2 12 (done_at hdo 12 (by rfl)))
                      have hq := HQ.out
                      have hi10 : (i : Int) < 10 := HI10.out
                      clear hslot hoth hdo hcl hLi
                      refine guard_on (j := 10) (want := true) (d := 94) (by rfl) (by rfl) gg ?_
                      go_simp
                      exact hK _ _ (flat_mark (hR.1) (fun _ _ h => h) hR.2 rfl)
                  · intro b0 us wz L hslot hoth hLi hR hcl hdo K hK
                    rcases HL.out with rfl
                    · have gg : us 10 = .bool true := hR.2 10 (done_at hdo 10 (by rfl))
                      have s97 : b0.tmps.getD 97 undef = .pointer (some q) := (hslot 13 97 (by rfl)).trans (hR.2 13 (done_at hdo 13 (by rfl)))
                      obtain ⟨c0, c1, c2, c3, c4, c5, c6, c7, c8, c9, c10, c11, c12⟩ := HCS.out.on hR.1
                      clear hslot hoth hdo hcl hLi
                      refine guard_on (j := 10) (want := true) (d := 94) (by rfl) (by rfl) gg ?_
                      go_simp
                      exact hK _ _ (flat_mark (hR.1) (fun _ _ h => h) hR.2 rfl)
                  · intro b0 us wz L hslot hoth hLi hR hcl hdo K hK
                    rcases HL.out with rfl
                    · have gg : us 10 = .bool true := hR.2 10 (done_at hdo 10 (by rfl))
                      have s4 : b0.tmps.getD 4 undef = .int .i64 t := hoth 4 (by rfl)
                      clear hslot hoth hdo hcl hLi
                      refine guard_on (j := 10) (want := true) (d := 94) (by rfl) (by rfl) gg ?_
                      go_simp
                      exact hK _ _ (flat_mark (hR.1) (fun _ _ h => h) hR.2 rfl)
                  · intro b0 us wz L hslot hoth hLi hR hcl hdo K hK
                    rcases HL.out with rfl
                    · have gg : us 10 = .bool true := hR.2 10 (done_at hdo 10 (by rfl))
                      have s98 : b0.tmps.getD 98 undef = (obV (obAt os i) l d m) := (hslot 14 98 (by rfl)).trans (hR.2 14 (done_at hdo 14 (by rfl)))
                      have s99 : b0.tmps.getD 99 undef = .int .i64 t := (hslot 15 99 (by rfl)).trans (hR.2 15 (done_at hdo 15 (by rfl)))
                      clear hslot hoth hdo hcl hLi
                      refine guard_on (j := 10) (want := true) (d := 94) (by rfl) (by rfl) gg ?_
                      go_simp
                      have C := implExp_any (obAt os i) l d m (t : Int) wz
                      rw [HXP.out] at C
                      refine C.mono ?_
                      rintro e w' ⟨rfl, hb⟩
                      exact hK _ _ (flat_mark (below_more hR.1 hb) (fun _ _ h => h) hR.2 rfl)
                  · intro b0 us wz L hslot hoth hLi hR hcl hdo K hK
                    rcases HL.out with rfl
                    · have gg : us 7 = .bool false := hR.2 7 (done_at hdo 7 (by rfl))
                      have s94 : b0.tmps.getD 94 undef = .bool true := (hslot 10 94 (by rfl)).trans (hR.2 10 (done_at hdo 10 (by rfl)))
                      have s100 : b0.tmps.getD 100 undef = .bool false := (hslot 16 100 (by rfl)).trans (hR.2 16 (done_at hdo 16 (by rfl)))
                      clear hslot hoth hdo hcl hLi
                      refine guard_on (j := 7) (want := false) (d := 91) (by rfl) (by rfl) gg ?_
                      go_simp
                      exact hK _ _ (flat_mark (hR.1) (fun _ _ h => h) hR.2 rfl)
                  · intro b0 us wz L hslot hoth hLi hR hcl hdo K hK
                    rcases HL.out with rfl
                    · have gg : us 4 = .bool true := hR.2 4 (done_at hdo 4 (by rfl))
                      have s91 : b0.tmps.getD 91 undef = .bool false := (hslot 7 91 (by rfl)).trans (hR.2 7 (done_at hdo 7 (by rfl)))
                      have s101 : b0.tmps.getD 101 undef = .bool false := (hslot 17 101 (by rfl)).trans (hR.2 17 (done_at hdo 17 (by rfl)))
                      clear hslot hoth hdo hcl hLi
                      refine guard_on (j := 4) (want := true) (d := 88) (by rfl) (by rfl) gg ?_
                      go_simp
                      exact hK _ _ (flat_mark (hR.1) (fun _ _ h => h) hR.2 rfl)
                  · intro b0 us wz L hslot hoth hLi hR hcl hdo K hK
                    rcases HL.out with rfl
                    · have s88 : b0.tmps.getD 88 undef = .bool true := (hslot 4 88 (by rfl)).trans (hR.2 4 (done_at hdo 4 (by rfl)))
                      have s102 : b0.tmps.getD 102 undef = .bool false := (hslot 18 102 (by rfl)).trans (hR.2 18 (done_at hdo 18 (by rfl)))
                      clear hslot hoth hdo hcl hLi
                      refine guard_none (by rfl) ?_
                      go_simp
                      exact hK _ _ (flat_mark (hR.1) (fun _ _ h => h) hR.2 rfl)
                  · intro b0 us wz L hslot hoth hLi hR hcl hdo K hK
                    rcases HL.out with rfl
                    · have s103 : b0.tmps.getD 103 undef = .bool false := (hslot 19 103 (by rfl)).trans (hR.2 19 (done_at hdo 19 (by rfl)))
                      clear hslot hoth hdo hcl hLi
                      refine guard_none (by rfl) ?_
                      go_simp
                      exact hK _ _ (flat_mark (hR.1) (fun _ _ h => h) hR.2 rfl)
                  · intro b0 us wz L hslot hoth hLi hR hcl hdo K hK
                    rcases HL.out with rfl
                    · have gg : us 20 = .bool false := hR.2 20 (done_at hdo 20 (by rfl))
                      have s6 : b0.tmps.getD 6 undef = .slice ag lg cg := hoth 6 (by rfl)
                      clear hslot hoth hdo hcl hLi
                      refine guard_on (j := 20) (want := false) (d := 104) (by rfl) (by rfl) gg ?_
                      go_simp
                      exact hK _ _ (flat_mark (hR.1) (fun _ _ h => h) hR.2 rfl)
                  · intro b0 us wz L hslot hoth hLi hR hcl hdo K hK
                    rcases HL.out with rfl
                    · have gg : us 20 = .bool false := hR.2 20 (done_at hdo 20 (by rfl))
                      have s7 : b0.tmps.getD 7 undef = .int .i64 i := hoth 7 (by rfl)
                      clear hslot hoth hdo hcl hLi
                      refine guard_on (j := 20) (want := false) (d := 104) (by rfl) (by rfl) gg ?_
                      go_simp
                      exact hK _ _ (flat_mark (hR.1) (fun _ _ h => h) hR.2 rfl)
                  · intro b0 us wz L hslot hoth hLi hR hcl hdo K hK
                    rcases HL.out with rfl
                    · have gg : us 20 = .bool false := hR.2 20 (done_at hdo 20 (by rfl))
                      have s105 : b0.tmps.getD 105 undef = .slice ag lg cg := (hslot 21 105 (by rfl)).trans (hR.2 21 (done_at hdo 21 (by rfl)))
                      have s106 : b0.tmps.getD 106 undef = .int .i64 i := (hslot 22 106 (by rfl)).trans (hR.2 22 (done_at hdo 22 (by rfl)))
                      clear hslot hoth hdo hcl hLi
                      refine guard_on (j := 20) (want := false) (d := 104) (by rfl) (by rfl) gg ?_
                      go_simp
                      have C := lawHas_any _ (garbAns os t) (i : Int) wz (HOGI.out.on hR.1) HNG.out
                      rw [HHS.out] at C
                      refine C.mono ?_
                      rintro e w' ⟨rfl, rfl⟩
                      exact hK _ _ (flat_mark (hR.1) (fun _ _ h => h) hR.2 rfl)
                  · intro b0 us wz L hslot hoth hLi hR hcl hdo K hK
                    rcases HL.out with rfl
                    · have gg : us 20 = .bool false := hR.2 20 (done_at hdo 20 (by rfl))
                      have s5 : b0.tmps.getD 5 undef = .slice (some ⟨gr, 0, none⟩) 10 rc := hoth 5 (by rfl)
                      clear hslot hoth hdo hcl hLi
                      refine guard_on (j := 20) (want := false) (d := 104) (by rfl) (by rfl) gg ?_
                      go_simp
                      exact hK _ _ (flat_mark (hR.1) (fun _ _ h => h) hR.2 rfl)
                  · intro b0 us wz L hslot hoth hLi hR hcl hdo K hK
                    rcases HL.out with rfl
                    · have gg : us 20 = .bool false := hR.2 20 (done_at hdo 20 (by rfl))
                      have s7 : b0.tmps.getD 7 undef = .int .i64 i := hoth 7 (by rfl)
                      clear hslot hoth hdo hcl hLi
                      refine guard_on (j := 20) (want := false) (d := 104) (by rfl) (by rfl) gg ?_
                      go_simp
                      exact hK _ _ (flat_mark (hR.1) (fun _ _ h => h) hR.2 rfl)
                  · intro b0 us wz L hslot hoth hLi hR hcl hdo K hK
                    rcases HL.out with rfl
                    · have gg : us 20 = .bool false := hR.2 20 (done_at hdo 20 (by rfl))
                      have s108 : b0.tmps.getD 108 undef = .slice (some ⟨gr, 0, none⟩) 10 rc := (hslot 24 108 (by rfl)).trans (hR.2 24 (done_at hdo 24 (by rfl)))
                      have s109 : b0.tmps.getD 109 undef = .int .i64 i := (hslot 25 109 (by rfl)).trans (hR.2 25 (done_at hdo 25 (by rfl)))
                      have hi10 : (i : Int) < 10 := HI10.out
                      clear hslot hoth hdo hcl hLi
                      refine guard_on (j := 20) (want := false) (d := 104) (by rfl) (by rfl) gg ?_
                      go_simp
                      exact hK _ _ (flat_mark (hR.1) (fun _ _ h => h) hR.2 rfl)
                  · intro b0 us wz L hslot hoth hLi hR hcl hdo K hK
                    rcases HL.out with rfl
                    · have gg : us 20 = .bool false := hR.2 20 (done_at hdo 20 (by rfl))
                      have s110 : b0.tmps.getD 110 undef = .pointer (some ⟨gr, i, none⟩) := (hslot 26 110 (by rfl)).trans (hR.2 26 (done_at hdo 26 (by rfl)))
                      have kR := (HKR.out wz (below_more HIB.out hR.1) i HI.out).trans (congrArg (fun b => some (Value.bool b)) HRI.out)
                      clear hslot hoth hdo hcl hLi
                      refine guard_on (j := 20) (want := false) (d := 104) (by rfl) (by rfl) gg ?_
                      go_simp
                      exact hK _ _ (flat_mark (hR.1) (fun _ _ h => h) hR.2 rfl)
                  · intro b0 us wz L hslot hoth hLi hR hcl hdo K hK
                    rcases HL.out with rfl
                    · have gg : us 20 = .bool false := hR.2 20 (done_at hdo 20 (by rfl))
                      have s111 : b0.tmps.getD 111 undef = .bool true := (hslot 27 111 (by rfl)).trans (hR.2 27 (done_at hdo 27 (by rfl)))
                      clear hslot hoth hdo hcl hLi
                      refine guard_on (j := 20) (want := false) (d := 104) (by rfl) (by rfl) gg ?_
                      go_simp
                      exact hK _ _ (flat_mark (hR.1) (fun _ _ h => h) hR.2 rfl)
                  · intro b0 us wz L hslot hoth hLi hR hcl hdo K hK
                    rcases HL.out with rfl
                    · have gg : us 28 = .bool true := hR.2 28 (done_at hdo 28 (by rfl))
                      refine guard_off (j := 28) (want := false) (d := 112) (by rfl) (by rfl) gg (by rfl) ?_
                      exact hK undef _ (flat_mark (hR.1) (fun _ _ h => h) hR.2 rfl)
                  · intro b0 us wz L hslot hoth hLi hR hcl hdo K hK
                    rcases HL.out with rfl
                    · have gg : us 28 = .bool true := hR.2 28 (done_at hdo 28 (by rfl))
                      refine guard_off (j := 28) (want := false) (d := 112) (by rfl) (by rfl) gg (by rfl) ?_
                      exact hK undef _ (flat_mark (hR.1) (fun _ _ h => h) hR.2 rfl)
                  · intro b0 us wz L hslot hoth hLi hR hcl hdo K hK
                    rcases HL.out with rfl
                    · have gg : us 28 = .bool true := hR.2 28 (done_at hdo 28 (by rfl))
                      refine guard_off (j := 28) (want := false) (d := 112) (by rfl) (by rfl) gg (by rfl) ?_
                      exact hK undef _ (flat_mark (hR.1) (fun _ _ h => h) hR.2 rfl)
                  · intro b0 us wz L hslot hoth hLi hR hcl hdo K hK
                    rcases HL.out with rfl
                    · have gg : us 28 = .bool true := hR.2 28 (done_at hdo 28 (by rfl))
                      refine guard_off (j := 28) (want := false) (d := 112) (by rfl) (by rfl) gg (by rfl) ?_
                      exact hK undef _ (flat_mark (hR.1) (fun _ _ h => h) hR.2 rfl)
                  · intro b0 us wz L hslot hoth hLi hR hcl hdo K hK
                    rcases HL.out with rfl
                    · have gg : us 28 = .bool true := hR.2 28 (done_at hdo 28 (by rfl))
                      refine guard_off (j := 28) (want := false) (d := 112) (by rfl) (by rfl) gg (by rfl) ?_
                      exact hK undef _ (flat_mark (hR.1) (fun _ _ h => h) hR.2 rfl)
                  · intro b0 us wz L hslot hoth hLi hR hcl hdo K hK
                    rcases HL.out with rfl
                    · have gg : us 28 = .bool true := hR.2 28 (done_at hdo 28 (by rfl))
                      refine guard_off (j := 28) (want := false) (d := 112) (by rfl) (by rfl) gg (by rfl) ?_
                      exact hK undef _ (flat_mark (hR.1) (fun _ _ h => h) hR.2 rfl)
                  · intro b0 us wz L hslot hoth hLi hR hcl hdo K hK
                    rcases HL.out with rfl
                    · have gg : us 20 = .bool false := hR.2 20 (done_at hdo 20 (by rfl))
                      have s112 : b0.tmps.getD 112 undef = .bool true := (hslot 28 112 (by rfl)).trans (hR.2 28 (done_at hdo 28 (by rfl)))
                      have s118 : b0.tmps.getD 118 undef = undef := (hslot 34 118 (by rfl)).trans (hR.2 34 (done_at hdo 34 (by rfl)))
                      clear hslot hoth hdo hcl hLi
                      refine guard_on (j := 20) (want := false) (d := 104) (by rfl) (by rfl) gg ?_
                      go_simp
                      exact hK _ _ (flat_mark (hR.1) (fun _ _ h => h) hR.2 rfl)
                  · intro b0 us wz L hslot hoth hLi hR hcl hdo K hK
                    rcases HL.out with rfl
                    · have gg : us 20 = .bool false := hR.2 20 (done_at hdo 20 (by rfl))
                      have s107 : b0.tmps.getD 107 undef = .bool false := (hslot 23 107 (by rfl)).trans (hR.2 23 (done_at hdo 23 (by rfl)))
                      have s119 : b0.tmps.getD 119 undef = .bool true := (hslot 35 119 (by rfl)).trans (hR.2 35 (done_at hdo 35 (by rfl)))
                      clear hslot hoth hdo hcl hLi
                      refine guard_on (j := 20) (want := false) (d := 104) (by rfl) (by rfl) gg ?_
                      go_simp
                      exact hK _ _ (flat_mark (hR.1) (fun _ _ h => h) hR.2 rfl)
                  · intro b0 us wz L hslot hoth hLi hR hcl hdo K hK
                    rcases HL.out with rfl
                    · have s104 : b0.tmps.getD 104 undef = .bool false := (hslot 20 104 (by rfl)).trans (hR.2 20 (done_at hdo 20 (by rfl)))
                      have s120 : b0.tmps.getD 120 undef = .bool false := (hslot 36 120 (by rfl)).trans (hR.2 36 (done_at hdo 36 (by rfl)))
                      clear hslot hoth hdo hcl hLi
                      refine guard_none (by rfl) ?_
                      go_simp
                      exact hK _ _ (flat_mark (hR.1) (fun _ _ h => h) hR.2 rfl)
                · intro us wn L hall hR a' ha'
                  have g37 : us 37 = .bool false := by
                    have := hR.2 37 (hall 37 (by decide))
                    rcases HL.out with rfl
                    all_goals exact this
                  have HB := hid_of hR.1
                  clear hR hall
                  simp only [putAll, g37] at ha'
                  subst ha'
                  go_frame
                  have HZ := hid_of (below_more HIB.out HB.out)
                  go_wp2
                  go_roundw
                  case rel => exact ⟨i + 1, by omega, by go_num, HZ⟩
                  case measure => simp [intOf]; omega
            | false =>
              have HRI := hid_of hr
              rw [hr] at hga
              cases hk0 : ((obAt os i).kind == 0) with
              | true =>
                have HKZ := hid_of hk0
                have HHS : Hid (hasI (garbAns os t) i = false) := by show _ = _; rw [hga, hk0]; rfl
                clear hk0 hga hr hld hb0
                obtain ⟨l0, hl0⟩ : ∃ l0 : List Value, l0 = [.slice (some ⟨gr, 0, none⟩) 10 rc, .int .i64 i, .pointer (some ⟨gr, i, none⟩), .bool false, .bool false, undef, undef, undef, undef, undef, undef, undef, undef, undef, undef, undef, undef, undef, undef, .bool false, .bool false, .slice ag lg cg, .int .i64 i, .bool false, .slice (some ⟨gr, 0, none⟩) 10 rc, .int .i64 i, .pointer (some ⟨gr, i, none⟩), .bool false, .bool false, .slice (some p) 10 c, .int .i64 i, .pointer (some q), .pointer (some ⟨q.block, q.off + 1, none⟩), .int .i64 (obAt os i).kind, .bool true, .bool true, .bool false, .bool false] := ⟨_, rfl⟩
                have HL := hid_of hl0
                clear hl0
                go_wp2_with fail
                refine wp_region_whole (by kernel_rfl) (by kernel_rfl) (by kernel_rfl) (by kernel_rfl) (Flat (fun wz => Below W.heap.size W wz) (gVals l0)) (flat_start (below_draw _)) ?_ ?_
                · refine ⟨?_, ?_, ?_, ?_, ?_, ?_, ?_, ?_, ?_, ?_, ?_, ?_, ?_, ?_, ?_, ?_, ?_, ?_, ?_, ?_, ?_, ?_, ?_, ?_, ?_, ?_, ?_, ?_, ?_, ?_, ?_, ?_, ?_, ?_, ?_, ?_, ?_, ?_, trivial⟩
                  · intro b0 us wz L hslot hoth hLi hR hcl hdo K hK
                    rcases HL.out with rfl
                    · have s5 : b0.tmps.getD 5 undef = .slice (some ⟨gr, 0, none⟩) 10 rc := hoth 5 (by rfl)
                      clear hslot hoth hdo hcl hLi
                      refine guard_none (by rfl) ?_
                      go_simp
                      exact hK _ _ (flat_mark (hR.1) (fun _ _ h => h) hR.2 rfl)
                  · intro b0 us wz L hslot hoth hLi hR hcl hdo K hK
                    rcases HL.out with rfl
                    · have s7 : b0.tmps.getD 7 undef = .int .i64 i := hoth 7 (by rfl)
                      clear hslot hoth hdo hcl hLi
                      refine guard_none (by rfl) ?_
                      go_simp
                      exact hK _ _ (flat_mark (hR.1) (fun _ _ h => h) hR.2 rfl)
                  · intro b0 us wz L hslot hoth hLi hR hcl hdo K hK
                    rcases HL.out with rfl
                    · have s84 : b0.tmps.getD 84 undef = .slice (some ⟨gr, 0, none⟩) 10 rc := (hslot 0 84 (by rfl)).trans (hR.2 0 (done_at hdo 0 (by rfl)))
                      have s85 : b0.tmps.getD 85 undef = .int .i64 i := (hslot 1 85 (by rfl)).trans (hR.2 1 (done_at hdo 1 (by rfl)))
                      have hi10 : (i : Int) < 10 := HI10.out
                      clear hslot hoth hdo hcl hLi
                      refine guard_none (by rfl) ?_
                      go_simp
                      exact hK _ _ (flat_mark (hR.1) (fun _ _ h => h) hR.2 rfl)
                  · intro b0 us wz L hslot hoth hLi hR hcl hdo K hK
                    rcases HL.out with rfl
                    · have s86 : b0.tmps.getD 86 undef = .pointer (some ⟨gr, i, none⟩) := (hslot 2 86 (by rfl)).trans (hR.2 2 (done_at hdo 2 (by rfl)))
                      have kR := (HKR.out wz (below_more HIB.out hR.1) i HI.out).trans (congrArg (fun b => some (Value.bool b)) HRI.out)
                      clear hslot hoth hdo hcl hLi
                      refine guard_none (by rfl) ?_
                      go_simp
                      exact hK _ _ (flat_mark (hR.1) (fun _ _ h => h) hR.2 rfl)
                  · intro b0 us wz L hslot hoth hLi hR hcl hdo K hK
                    rcases HL.out with rfl
                    · have s87 : b0.tmps.getD 87 undef = .bool false := (hslot 3 87 (by rfl)).trans (hR.2 3 (done_at hdo 3 (by rfl)))
                      clear hslot hoth hdo hcl hLi
                      refine guard_none (by rfl) ?_
                      go_simp
                      exact hK _ _ (flat_mark (hR.1) (fun _ _ h => h) hR.2 rfl)
                  · intro b0 us wz L hslot hoth hLi hR hcl hdo K hK
                    rcases HL.out with rfl
                    · have gg : us 4 = .bool false := hR.2 4 (done_at hdo 4 (by rfl))
                      refine guard_off (j := 4) (want := true) (d := 88) (by rfl) (by rfl) gg (by rfl) ?_
                      exact hK undef _ (flat_mark (hR.1) (fun _ _ h => h) hR.2 rfl)
                  · intro b0 us wz L hslot hoth hLi hR hcl hdo K hK
                    rcases HL.out with rfl
                    · have gg : us 4 = .bool false := hR.2 4 (done_at hdo 4 (by rfl))
                      refine guard_off (j := 4) (want := true) (d := 88) (by rfl) (by rfl) gg (by rfl) ?_
                      exact hK undef _ (flat_mark (hR.1) (fun _ _ h => h) hR.2 rfl)
                  · intro b0 us wz L hslot hoth hLi hR hcl hdo K hK
                    rcases HL.out with rfl
                    · have gg : us 4 = .bool false := hR.2 4 (done_at hdo 4 (by rfl))
                      refine guard_off (j := 4) (want := true) (d := 88) (by rfl) (by rfl) gg (by rfl) ?_
                      exact hK undef _ (flat_mark (hR.1) (fun _ _ h => h) hR.2 rfl)
                  · intro b0 us wz L hslot hoth hLi hR hcl hdo K hK
                    rcases HL.out with rfl
                    · have gg : us 7 = undef := hR.2 7 (done_at hdo 7 (by rfl))
                      refine guard_und (j := 7) (want := false) (d := 91) (by rfl) (by rfl) gg ?_
                      exact hK undef _ (flat_mark (hR.1) (fun _ _ h => h) hR.2 rfl)
                  · intro b0 us wz L hslot hoth hLi hR hcl hdo K hK
                    rcases HL.out with rfl
                    · have gg : us 7 = undef := hR.2 7 (done_at hdo 7 (by rfl))
                      refine guard_und (j := 7) (want := false) (d := 91) (by rfl) (by rfl) gg ?_
                      exact hK undef _ (flat_mark (hR.1) (fun _ _ h => h) hR.2 rfl)
                  · intro b0 us wz L hslot hoth hLi hR hcl hdo K hK
                    rcases HL.out with rfl
                    · have gg : us 7 = undef := hR.2 7 (done_at hdo 7 (by rfl))
                      refine guard_und (j := 7) (want := false) (d := 91) (by rfl) (by rfl) gg ?_
                      exact hK undef _ (flat_mark (hR.1) (fun _ _ h => h) hR.2 rfl)
                  · intro b0 us wz L hslot hoth hLi hR hcl hdo K hK
                    rcases HL.out with rfl
                    · have gg : us 10 = undef := hR.2 10 (done_at hdo 10 (by rfl))
                      refine guard_und (j := 10) (want := true) (d := 94) (by rfl) (by rfl) gg ?_
                      exact hK undef _ (flat_mark (hR.1) (fun _ _ h => h) hR.2 rfl)
                  · intro b0 us wz L hslot hoth hLi hR hcl hdo K hK
                    rcases HL.out with rfl
                    · have gg : us 10 = undef := hR.2 10 (done_at hdo 10 (by rfl))
                      refine guard_und (j := 10) (want := true) (d := 94) (by rfl) (by rfl) gg ?_
                      exact hK undef _ (flat_mark (hR.1) (fun _ _ h => h) hR.2 rfl)
                  · intro b0 us wz L hslot hoth hLi hR hcl hdo K hK
                    rcases HL.out with rfl
                    · have gg : us 10 = undef := hR.2 10 (done_at hdo 10 (by rfl))
                      refine guard_und (j := 10) (want := true) (d := 94) (by rfl) (by rfl) gg ?_
                      exact hK undef _ (flat_mark (hR.1) (fun _ _ h => h) hR.2 rfl)
                  · intro b0 us wz L hslot hoth hLi hR hcl hdo K hK
                    rcases HL.out with rfl
                    · have gg : us 10 = undef := hR.2 10 (done_at hdo 10 (by rfl))
                      refine guard_und (j := 10) (want := true) (d := 94) (by rfl) (by rfl) gg ?_
                      exact hK undef _ (flat_mark (hR.1) (fun _ _ h => h) hR.2 rfl)
                  · intro b0 us wz L hslot hoth hLi hR hcl hdo K hK
                    rcases HL.out with rfl
                    · have gg : us 10 = undef := hR.2 10 (done_at hdo 10 (by rfl))
                      refine guard_und (j := 10) (want := true) (d := 94) (by rfl) (by rfl) gg ?_
                      exact hK undef _ (flat_mark (hR.1) (fun _ _ h => h) hR.2 rfl)
                  · intro b0 us wz L hslot hoth hLi hR hcl hdo K hK
                    rcases HL.out with rfl
                    · have gg : us 10 = undef := hR.2 10 (done_at hdo 10 (by rfl))
                      refine guard_und (j := 10) (want := true) (d := 94) (by rfl) (by rfl) gg ?_
                      exact hK undef _ (flat_mark (hR.1) (fun _ _ h => h) hR.2 rfl)
                  · intro b0 us wz L hslot hoth hLi hR hcl hdo K hK
                    rcases HL.out with rfl
                    · have gg : us 7 = undef := hR.2 7 (done_at hdo 7 (by rfl))
                      refine guard_und (j := 7) (want := false) (d := 91) (by rfl) (by rfl) gg ?_
                      exact hK undef _ (flat_mark (hR.1) (fun _ _ h => h) hR.2 rfl)
                  · intro b0 us wz L hslot hoth hLi hR hcl hdo K hK
                    rcases HL.out with rfl
                    · have gg : us 4 = .bool false := hR.2 4 (done_at hdo 4 (by rfl))
                      refine guard_off (j := 4) (want := true) (d := 88) (by rfl) (by rfl) gg (by rfl) ?_
                      exact hK undef _ (flat_mark (hR.1) (fun _ _ h => h) hR.2 rfl)
                  · intro b0 us wz L hslot hoth hLi hR hcl hdo K hK
                    rcases HL.out with rfl
                    · have s88 : b0.tmps.getD 88 undef = .bool false := (hslot 4 88 (by rfl)).trans (hR.2 4 (done_at hdo 4 (by rfl)))
                      have s102 : b0.tmps.getD 102 undef = undef := (hslot 18 102 (by rfl)).trans (hR.2 18 (done_at hdo 18 (by rfl)))
                      clear hslot hoth hdo hcl hLi
                      refine guard_none (by rfl) ?_
                      go_simp
                      exact hK _ _ (flat_mark (hR.1) (fun _ _ h => h) hR.2 rfl)
                  · intro b0 us wz L hslot hoth hLi hR hcl hdo K hK
                    rcases HL.out with rfl
                    · have s103 : b0.tmps.getD 103 undef = .bool false := (hslot 19 103 (by rfl)).trans (hR.2 19 (done_at hdo 19 (by rfl)))
                      clear hslot hoth hdo hcl hLi
                      refine guard_none (by rfl) ?_
                      go_simp
                      exact hK _ _ (flat_mark (hR.1) (fun _ _ h => h) hR.2 rfl)
                  · intro b0 us wz L hslot hoth hLi hR hcl hdo K hK
                    rcases HL.out with rfl
                    · have gg : us 20 = .bool false := hR.2 20 (done_at hdo 20 (by rfl))
                      have s6 : b0.tmps.getD 6 undef = .slice ag lg cg := hoth 6 (by rfl)
                      clear hslot hoth hdo hcl hLi
                      refine guard_on (j := 20) (want := false) (d := 104) (by rfl) (by rfl) gg ?_
                      go_simp
                      exact hK _ _ (flat_mark (hR.1) (fun _ _ h => h) hR.2 rfl)
                  · intro b0 us wz L hslot hoth hLi hR hcl hdo K hK
                    rcases HL.out with rfl
                    · have gg : us 20 = .bool false := hR.2 20 (done_at hdo 20 (by rfl))
                      have s7 : b0.tmps.getD 7 undef = .int .i64 i := hoth 7 (by rfl)
                      clear hslot hoth hdo hcl hLi
                      refine guard_on (j := 20) (want := false) (d := 104) (by rfl) (by rfl) gg ?_
                      go_simp
                      exact hK _ _ (flat_mark (hR.1) (fun _ _ h => h) hR.2 rfl)
                  · intro b0 us wz L hslot hoth hLi hR hcl hdo K hK
                    rcases HL.out with rfl
                    · have gg : us 20 = .bool false := hR.2 20 (done_at hdo 20 (by rfl))
                      have s105 : b0.tmps.getD 105 undef = .slice ag lg cg := (hslot 21 105 (by rfl)).trans (hR.2 21 (done_at hdo 21 (by rfl)))
                      have s106 : b0.tmps.getD 106 undef = .int .i64 i := (hslot 22 106 (by rfl)).trans (hR.2 22 (done_at hdo 22 (by rfl)))
                      clear hslot hoth hdo hcl hLi
                      refine guard_on (j := 20) (want := false) (d := 104) (by rfl) (by rfl) gg ?_
                      go_simp
                      have C := lawHas_any _ (garbAns os t) (i : Int) wz (HOGI.out.on hR.1) HNG.out
                      rw [HHS.out] at C
                      refine C.mono ?_
                      rintro e w' ⟨rfl, rfl⟩
                      exact hK _ _ (flat_mark (hR.1) (fun _ _ h => h) hR.2 rfl)
                  · intro b0 us wz L hslot hoth hLi hR hcl hdo K hK
                    rcases HL.out with rfl
                    · have gg : us 20 = .bool false := hR.2 20 (done_at hdo 20 (by rfl))
                      have s5 : b0.tmps.getD 5 undef = .slice (some ⟨gr, 0, none⟩) 10 rc := hoth 5 (by rfl)
                      clear hslot hoth hdo hcl hLi
                      refine guard_on (j := 20) (want := false) (d := 104) (by rfl) (by rfl) gg ?_
                      go_simp
                      exact hK _ _ (flat_mark (hR.1) (fun _ _ h => h) hR.2 rfl)
                  · intro b0 us wz L hslot hoth hLi hR hcl hdo K hK
                    rcases HL.out with rfl
                    · have gg : us 20 = .bool false := hR.2 20 (done_at hdo 20 (by rfl))
                      have s7 : b0.tmps.getD 7 undef = .int .i64 i := hoth 7 (by rfl)
                      clear hslot hoth hdo hcl hLi
                      refine guard_on (j := 20) (want := false) (d := 104) (by rfl) (by rfl) gg ?_
                      go_simp
                      exact hK _ _ (flat_mark (hR.1) (fun _ _ h => h) hR.2 rfl)
                  · intro b0 us wz L hslot hoth hLi hR hcl hdo K hK
                    rcases HL.out with rfl
                    · have gg : us 20 = .bool false := hR.2 20 (done_at hdo 20 (by rfl))
                      have s108 : b0.tmps.getD 108 undef = .slice (some ⟨gr, 0, none⟩) 10 rc := (hslot 24 108 (by rfl)).trans (hR.2 24 (done_at hdo 24 (by rfl)))
                      have s109 : b0.tmps.getD 109 undef = .int .i64 i := (hslot 25 109 (by rfl)).trans (hR.2 25 (done_at hdo 25 (by rfl)))
                      have hi10 : (i : Int) < 10 := HI10.out
                      clear hslot hoth hdo hcl hLi
                      refine guard_on (j := 20) (want := false) (d := 104) (by rfl) (by rfl) gg ?_
                      go_simp
                      exact hK _ _ (flat_mark (hR.1) (fun _ _ h => h) hR.2 rfl)
                  · intro b0 us wz L hslot hoth hLi hR hcl hdo K hK
                    rcases HL.out with rfl
                    · have gg : us 20 = .bool false := hR.2 20 (done_at hdo 20 (by rfl))
                      have s110 : b0.tmps.getD 110 undef = .pointer (some ⟨gr, i, none⟩) := (hslot 26 110 (by rfl)).trans (hR.2 26 (done_at hdo 26 (by rfl)))
                      have kR := (HKR.out wz (below_more HIB.out hR.1) i HI.out).trans (congrArg (fun b => some (Value.bool b)) HRI.out)
                      clear hslot hoth hdo hcl hLi
                      refine guard_on (j := 20) (want := false) (d := 104) (by rfl) (by rfl) gg ?_
                      go_simp
                      exact hK _ _ (flat_mark (hR.1) (fun _ _ h => h) hR.2 rfl)
                  · intro b0 us wz L hslot hoth hLi hR hcl hdo K hK
                    rcases HL.out with rfl
                    · have gg : us 20 = .bool false := hR.2 20 (done_at hdo 20 (by rfl))
                      have s111 : b0.tmps.getD 111 undef = .bool false := (hslot 27 111 (by rfl)).trans (hR.2 27 (done_at hdo 27 (by rfl)))
                      clear hslot hoth hdo hcl hLi
                      refine guard_on (j := 20) (want := false) (d := 104) (by rfl) (by rfl) gg ?_
                      go_simp
                      exact hK _ _ (flat_mark (hR.1) (fun _ _ h => h) hR.2 rfl)
                  · intro b0 us wz L hslot hoth hLi hR hcl hdo K hK
                    rcases HL.out with rfl
                    · have gg : us 28 = .bool false := hR.2 28 (done_at hdo 28 (by rfl))
                      have s3 : b0.tmps.getD 3 undef = .slice (some p) 10 c := hoth 3 (by rfl)
                      clear hslot hoth hdo hcl hLi
                      refine guard_on (j := 28) (want := false) (d := 112) (by rfl) (by rfl) gg ?_
                      go_simp
                      exact hK _ _ (flat_mark (hR.1) (fun _ _ h => h) hR.2 rfl)
                  · intro b0 us wz L hslot hoth hLi hR hcl hdo K hK
                    rcases HL.out with rfl
                    · have gg : us 28 = .bool false := hR.2 28 (done_at hdo 28 (by rfl))
                      have s7 : b0.tmps.getD 7 undef = .int .i64 i := hoth 7 (by rfl)
                      clear hslot hoth hdo hcl hLi
                      refine guard_on (j := 28) (want := false) (d := 112) (by rfl) (by rfl) gg ?_
                      go_simp
                      exact hK _ _ (flat_mark (hR.1) (fun _ _ h => h) hR.2 rfl)
                  · intro b0 us wz L hslot hoth hLi hR hcl hdo K hK
                    rcases HL.out with rfl
                    · have gg : us 28 = .bool false := hR.2 28 (done_at hdo 28 (by rfl))
                      have s113 : b0.tmps.getD 113 undef = .slice (some p) 10 c := (hslot 29 113 (by rfl)).trans (hR.2 29 (done_at hdo 29 (by rfl)))
                      have s114 : b0.tmps.getD 114 undef = .int .i64 i := (hslot 30 114 (by rfl)).trans (hR.2 30 (done_at hdo 30 (by rfl)))
                      have hq := HQ.out
                      have hi10 : (i : Int) < 10 := HI10.out
                      clear hslot hoth hdo hcl hLi
                      refine guard_on (j := 28) (want := false) (d := 112) (by rfl) (by rfl) gg ?_
                      go_simp
                      exact hK _ _ (flat_mark (hR.1) (fun _ _ h => h) hR.2 rfl)
                  · intro b0 us wz L hslot hoth hLi hR hcl hdo K hK
                    rcases HL.out with rfl
                    · have gg : us 28 = .bool false := hR.2 28 (done_at hdo 28 (by rfl))
                      have s115 : b0.tmps.getD 115 undef = .pointer (some q) := (hslot 31 115 (by rfl)).trans (hR.2 31 (done_at hdo 31 (by rfl)))
                      clear hslot hoth hdo hcl hLi
                      refine guard_on (j := 28) (want := false) (d := 112) (by rfl) (by rfl) gg ?_
                      go_simp
                      exact hK _ _ (flat_mark (hR.1) (fun _ _ h => h) hR.2 rfl)
                  · intro b0 us wz L hslot hoth hLi hR hcl hdo K hK
                    rcases HL.out with rfl
                    · have gg : us 28 = .bool false := hR.2 28 (done_at hdo 28 (by rfl))
                      have s116 : b0.tmps.getD 116 undef = .pointer (some ⟨q.block, q.off + 1, none⟩) := (hslot 32 116 (by rfl)).trans (hR.2 32 (done_at hdo 32 (by rfl)))
                      have k1 := (HCS.out.on hR.1).c1
                      clear hslot hoth hdo hcl hLi
                      refine guard_on (j := 28) (want := false) (d := 112) (by rfl) (by rfl) gg ?_
                      go_simp
                      exact hK _ _ (flat_mark (hR.1) (fun _ _ h => h) hR.2 rfl)
                  · intro b0 us wz L hslot hoth hLi hR hcl hdo K hK
                    rcases HL.out with rfl
                    · have gg : us 28 = .bool false := hR.2 28 (done_at hdo 28 (by rfl))
                      have s117 : b0.tmps.getD 117 undef = .int .i64 (obAt os i).kind := (hslot 33 117 (by rfl)).trans (hR.2 33 (done_at hdo 33 (by rfl)))
                      have e5 : ((obAt os i).kind == 0) = true := HKZ.out
                      clear hslot hoth hdo hcl hLi
                      refine guard_on (j := 28) (want := false) (d := 112) (by rfl) (by rfl) gg ?_
                      go_simp
                      exact hK _ _ (flat_mark (hR.1) (fun _ _ h => h) hR.2 rfl)
                  · intro b0 us wz L hslot hoth hLi hR hcl hdo K hK
                    rcases HL.out with rfl
                    · have gg : us 20 = .bool false := hR.2 20 (done_at hdo 20 (by rfl))
                      have s112 : b0.tmps.getD 112 undef = .bool false := (hslot 28 112 (by rfl)).trans (hR.2 28 (done_at hdo 28 (by rfl)))
                      have s118 : b0.tmps.getD 118 undef = .bool true := (hslot 34 118 (by rfl)).trans (hR.2 34 (done_at hdo 34 (by rfl)))
                      clear hslot hoth hdo hcl hLi
                      refine guard_on (j := 20) (want := false) (d := 104) (by rfl) (by rfl) gg ?_
                      go_simp
                      exact hK _ _ (flat_mark (hR.1) (fun _ _ h => h) hR.2 rfl)
                  · intro b0 us wz L hslot hoth hLi hR hcl hdo K hK
                    rcases HL.out with rfl
                    · have gg : us 20 = .bool false := hR.2 20 (done_at hdo 20 (by rfl))
                      have s107 : b0.tmps.getD 107 undef = .bool false := (hslot 23 107 (by rfl)).trans (hR.2 23 (done_at hdo 23 (by rfl)))
                      have s119 : b0.tmps.getD 119 undef = .bool true := (hslot 35 119 (by rfl)).trans (hR.2 35 (done_at hdo 35 (by rfl)))
                      clear hslot hoth hdo hcl hLi
                      refine guard_on (j := 20) (want := false) (d := 104) (by rfl) (by rfl) gg ?_
                      go_simp
                      exact hK _ _ (flat_mark (hR.1) (fun _ _ h => h) hR.2 rfl)
                  · intro b0 us wz L hslot hoth hLi hR hcl hdo K hK
                    rcases HL.out with rfl
                    · have s104 : b0.tmps.getD 104 undef = .bool false := (hslot 20 104 (by rfl)).trans (hR.2 20 (done_at hdo 20 (by rfl)))
                      have s120 : b0.tmps.getD 120 undef = .bool false := (hslot 36 120 (by rfl)).trans (hR.2 36 (done_at hdo 36 (by rfl)))
                      clear hslot hoth hdo hcl hLi
                      refine guard_none (by rfl) ?_
                      go_simp
                      exact hK _ _ (flat_mark (hR.1) (fun _ _ h => h) hR.2 rfl)
                · intro us wn L hall hR a' ha'
                  have g37 : us 37 = .bool false := by
                    have := hR.2 37 (hall 37 (by decide))
                    rcases HL.out with rfl
                    all_goals exact this
                  have HB := hid_of hR.1
                  clear hR hall
                  simp only [putAll, g37] at ha'
                  subst ha'
                  go_frame
                  have HZ := hid_of (below_more HIB.out HB.out)
                  go_wp2
                  go_roundw
                  case rel => exact ⟨i + 1, by omega, by go_num, HZ⟩
                  case measure => simp [intOf]; omega
              | false =>
                have HKZ := hid_of hk0
                have HHS : Hid (hasI (garbAns os t) i = true) := by show _ = _; rw [hga, hk0]; rfl
                clear hk0 hga hr hld hb0
                obtain ⟨l0, hl0⟩ : ∃ l0 : List Value, l0 = [.slice (some ⟨gr, 0, none⟩) 10 rc, .int .i64 i, .pointer (some ⟨gr, i, none⟩), .bool false, .bool false, undef, undef, undef, undef, undef, undef, undef, undef, undef, undef, undef, undef, undef, undef, .bool false, .bool false, .slice ag lg cg, .int .i64 i, .bool true, .slice (some ⟨gr, 0, none⟩) 10 rc, .int .i64 i, .pointer (some ⟨gr, i, none⟩), .bool false, .bool false, .slice (some p) 10 c, .int .i64 i, .pointer (some q), .pointer (some ⟨q.block, q.off + 1, none⟩), .int .i64 (obAt os i).kind, .bool false, .bool false, .bool false, .bool false] := ⟨_, rfl⟩
                have HL := hid_of hl0
                clear hl0
                go_wp2_with fail
                refine wp_region_whole (by kernel_rfl) (by kernel_rfl) (by kernel_rfl) (by kernel_rfl) (Flat (fun wz => Below W.heap.size W wz) (gVals l0)) (flat_start (below_draw _)) ?_ ?_
                · refine ⟨?_, ?_, ?_, ?_, ?_, ?_, ?_, ?_, ?_, ?_, ?_, ?_, ?_, ?_, ?_, ?_, ?_, ?_, ?_, ?_, ?_, ?_, ?_, ?_, ?_, ?_, ?_, ?_, ?_, ?_, ?_, ?_, ?_, ?_, ?_, ?_, ?_, ?_, trivial⟩
                  · intro b0 us wz L hslot hoth hLi hR hcl hdo K hK
                    rcases HL.out with rfl
                    · have s5 : b0.tmps.getD 5 undef = .slice (some ⟨gr, 0, none⟩) 10 rc := hoth 5 (by rfl)
                      clear hslot hoth hdo hcl hLi
                      refine guard_none (by rfl) ?_
                      go_simp
                      exact hK _ _ (flat_mark (hR.1) (fun _ _ h => h) hR.2 rfl)
                  · intro b0 us wz L hslot hoth hLi hR hcl hdo K hK
                    rcases HL.out with rfl
                    · have s7 : b0.tmps.getD 7 undef = .int .i64 i := hoth 7 (by rfl)
                      clear hslot hoth hdo hcl hLi
                      refine guard_none (by rfl) ?_
                      go_simp
                      exact hK _ _ (flat_mark (hR.1) (fun _ _ h => h) hR.2 rfl)
                  · intro b0 us wz L hslot hoth hLi hR hcl hdo K hK
                    rcases HL.out with rfl
                    · have s84 : b0.tmps.getD 84 undef = .slice (some ⟨gr, 0, none⟩) 10 rc := (hslot 0 84 (by rfl)).trans (hR.2 0 (done_at hdo 0 (by rfl)))
                      have s85 : b0.tmps.getD 85 undef = .int .i64 i := (hslot 1 85 (by rfl)).trans (hR.2 1 (done_at hdo 1 (by rfl)))
                      have hi10 : (i : Int) < 10 := HI10.out
                      clear hslot hoth hdo hcl hLi
                      refine guard_none (by rfl) ?_
                      go_simp
                      exact hK _ _ (flat_mark (hR.1) (fun _ _ h => h) hR.2 rfl)
                  · intro b0 us wz L hslot hoth hLi hR hcl hdo K hK
                    rcases HL.out with rfl
                    · have s86 : b0.tmps.getD 86 undef = .pointer (some ⟨gr, i, none⟩) := (hslot 2 86 (by rfl)).trans (hR.2 2 (done_at hdo 2 (by rfl)))
                      have kR := (HKR.out wz (below_more HIB.out hR.1) i HI.out).trans (congrArg (fun b => some (Value.bool b)) HRI.out)
                      clear hslot hoth hdo hcl hLi
                      refine guard_none (by rfl) ?_
                      go_simp
                      exact hK _ _ (flat_mark (hR.1) (fun _ _ h => h) hR.2 rfl)
                  · intro b0 us wz L hslot hoth hLi hR hcl hdo K hK
                    rcases HL.out with rfl
                    · have s87 : b0.tmps.getD 87 undef = .bool false := (hslot 3 87 (by rfl)).trans (hR.2 3 (done_at hdo 3 (by rfl)))
                      clear hslot hoth hdo hcl hLi
                      refine guard_none (by rfl) ?_
                      go_simp
                      exact hK _ _ (flat_mark (hR.1) (fun _ _ h => h) hR.2 rfl)
                  · intro b0 us wz L hslot hoth hLi hR hcl hdo K hK
                    rcases HL.out with rfl
                    · have gg : us 4 = .bool false := hR.2 4 (done_at hdo 4 (by rfl))
                      refine guard_off (j := 4) (want := true) (d := 88) (by rfl) (by rfl) gg (by rfl) ?_
                      exact hK undef _ (flat_mark (hR.1) (fun _ _ h => h) hR.2 rfl)
                  · intro b0 us wz L hslot hoth hLi hR hcl hdo K hK
                    rcases HL.out with rfl
                    · have gg : us 4 = .bool false := hR.2 4 (done_at hdo 4 (by rfl))
                      refine guard_off (j := 4) (want := true) (d := 88) (by rfl) (by rfl) gg (by rfl) ?_
                      exact hK undef _ (flat_mark (hR.1) (fun _ _ h => h) hR.2 rfl)
                  · intro b0 us wz L hslot hoth hLi hR hcl hdo K hK
                    rcases HL.out with rfl
                    · have gg : us 4 = .bool false := hR.2 4 (done_at hdo 4 (by rfl))
                      refine guard_off (j := 4) (want := true) (d := 88) (by rfl) (by rfl) gg (by rfl) ?_
                      exact hK undef _ (flat_mark (hR.1) (fun _ _ h => h) hR.2 rfl)
                  · intro b0 us wz L hslot hoth hLi hR hcl hdo K hK
                    rcases HL.out with rfl
                    · have gg : us 7 = undef := hR.2 7 (done_at hdo 7 (by rfl))
                      refine guard_und (j := 7) (want := false) (d := 91) (by rfl) (by rfl) gg ?_
                      exact hK undef _ (flat_mark (hR.1) (fun _ _ h => h) hR.2 rfl)
                  · intro b0 us wz L hslot hoth hLi hR hcl hdo K hK
                    rcases HL.out with rfl
                    · have gg : us 7 = undef := hR.2 7 (done_at hdo 7 (by rfl))
                      refine guard_und (j := 7) (want := false) (d := 91) (by rfl) (by rfl) gg ?_
                      exact hK undef _ (flat_mark (hR.1) (fun _ _ h => h) hR.2 rfl)
                  · intro b0 us wz L hslot hoth hLi hR hcl hdo K hK
                    rcases HL.out with rfl
                    · have gg : us 7 = undef := hR.2 7 (done_at hdo 7 (by rfl))
                      refine guard_und (j := 7) (want := false) (d := 91) (by rfl) (by rfl) gg ?_
                      exact hK undef _ (flat_mark (hR.1) (fun _ _ h => h) hR.2 rfl)
                  · intro b0 us wz L hslot hoth hLi hR hcl hdo K hK
                    rcases HL.out with rfl
                    · have gg : us 10 = undef := hR.2 10 (done_at hdo 10 (by rfl))
                      refine guard_und (j := 10) (want := true) (d := 94) (by rfl) (by rfl) gg ?_
                      exact hK undef _ (flat_mark (hR.1) (fun _ _ h => h) hR.2 rfl)
                  · intro b0 us wz L hslot hoth hLi hR hcl hdo K hK
                    rcases HL.out with rfl
                    · have gg : us 10 = undef := hR.2 10 (done_at hdo 10 (by rfl))
                      refine guard_und (j := 10) (want := true) (d := 94) (by rfl) (by rfl) gg ?_
                      exact hK undef _ (flat_mark (hR.1) (fun _ _ h => h) hR.2 rfl)
                  · intro b0 us wz L hslot hoth hLi hR hcl hdo K hK
                    rcases HL.out with rfl
                    · have gg : us 10 = undef := hR.2 10 (done_at hdo 10 (by rfl))
                      refine guard_und (j := 10) (want := true) (d := 94) (by rfl) (by rfl) gg ?_
                      exact hK undef _ (flat_mark (hR.1) (fun _ _ h => h) hR.2 rfl)
                  · intro b0 us wz L hslot hoth hLi hR hcl hdo K hK
                    rcases HL.out with rfl
                    · have gg : us 10 = undef := hR.2 10 (done_at hdo 10 (by rfl))
                      refine guard_und (j := 10) (want := true) (d := 94) (by rfl) (by rfl) gg ?_
                      exact hK undef _ (flat_mark (hR.1) (fun _ _ h => h) hR.2 rfl)
                  · intro b0 us wz L hslot hoth hLi hR hcl hdo K hK
                    rcases HL.out with rfl
                    · have gg : us 10 = undef := hR.2 10 (done_at hdo 10 (by rfl))
                      refine guard_und (j := 10) (want := true) (d := 94) (by rfl) (by rfl) gg ?_
                      exact hK undef _ (flat_mark (hR.1) (fun _ _ h => h) hR.2 rfl)
                  · intro b0 us wz L hslot hoth hLi hR hcl hdo K hK
                    rcases HL.out with rfl
                    · have gg : us 10 = undef := hR.2 10 (done_at hdo 10 (by rfl))
                      refine guard_und (j := 10) (want := true) (d := 94) (by rfl) (by rfl) gg ?_
                      exact hK undef _ (flat_mark (hR.1) (fun _ _ h => h) hR.2 rfl)
                  · intro b0 us wz L hslot hoth hLi hR hcl hdo K hK
                    rcases HL.out with rfl
                    · have gg : us 7 = undef := hR.2 7 (done_at hdo 7 (by rfl))
                      refine guard_und (j := 7) (want := false) (d := 91) (by rfl) (by rfl) gg ?_
                      exact hK undef _ (flat_mark (hR.1) (fun _ _ h => h) hR.2 rfl)
                  · intro b0 us wz L hslot hoth hLi hR hcl hdo K hK
                    rcases HL.out with rfl
                    · have gg : us 4 = .bool false := hR.2 4 (done_at hdo 4 (by rfl))
                      refine guard_off (j := 4) (want := true) (d := 88) (by rfl) (by rfl) gg (by rfl) ?_
                      exact hK undef _ (flat_mark (hR.1) (fun _ _ h => h) hR.2 rfl)
                  · intro b0 us wz L hslot hoth hLi hR hcl hdo K hK
                    rcases HL.out with rfl
                    · have s88 : b0.tmps.getD 88 undef = .bool false := (hslot 4 88 (by rfl)).trans (hR.2 4 (done_at hdo 4 (by rfl)))
                      have s102 : b0.tmps.getD 102 undef = undef := (hslot 18 102 (by rfl)).trans (hR.2 18 (done_at hdo 18 (by rfl)))
                      clear hslot hoth hdo hcl hLi
                      refine guard_none (by rfl) ?_
                      go_simp
                      exact hK _ _ (flat_mark (hR.1) (fun _ _ h => h) hR.2 rfl)
                  · intro b0 us wz L hslot hoth hLi hR hcl hdo K hK
                    rcases HL.out with rfl
                    · have s103 : b0.tmps.getD 103 undef = .bool false := (hslot 19 103 (by rfl)).trans (hR.2 19 (done_at hdo 19 (by rfl)))
                      clear hslot hoth hdo hcl hLi
                      refine guard_none (by rfl) ?_
                      go_simp
                      exact hK _ _ (flat_mark (hR.1) (fun _ _ h => h) hR.2 rfl)
                  · intro b0 us wz L hslot hoth hLi hR hcl hdo K hK
                    rcases HL.out with rfl
                    · have gg : us 20 = .bool false := hR.2 20 (done_at hdo 20 (by rfl))
                      have s6 : b0.tmps.getD 6 undef = .slice ag lg cg := hoth 6 (by rfl)
                      clear hslot hoth hdo hcl hLi
                      refine guard_on (j := 20) (want := false) (d := 104) (by rfl) (by rfl) gg ?_
                      go_simp
                      exact hK _ _ (flat_mark (hR.1) (fun _ _ h => h) hR.2 rfl)
                  · intro b0 us wz L hslot hoth hLi hR hcl hdo K hK
                    rcases HL.out with rfl
                    · have gg : us 20 = .bool false := hR.2 20 (done_at hdo 20 (by rfl))
                      have s7 : b0.tmps.getD 7 undef = .int .i64 i := hoth 7 (by rfl)
                      clear hslot hoth hdo hcl hLi
                      refine guard_on (j := 20) (want := false) (d := 104) (by rfl) (by rfl) gg ?_
                      go_simp
                      exact hK _ _ (flat_mark (hR.1) (fun _ _ h => h) hR.2 rfl)
                  · intro b0 us wz L hslot hoth hLi hR hcl hdo K hK
                    rcases HL.out with rfl
                    · have gg : us 20 = .bool false := hR.2 20 (done_at hdo 20 (by rfl))
                      have s105 : b0.tmps.getD 105 undef = .slice ag lg cg := (hslot 21 105 (by rfl)).trans (hR.2 21 (done_at hdo 21 (by rfl)))
                      have s106 : b0.tmps.getD 106 undef = .int .i64 i := (hslot 22 106 (by rfl)).trans (hR.2 22 (done_at hdo 22 (by rfl)))
                      clear hslot hoth hdo hcl hLi
                      refine guard_on (j := 20) (want := false) (d := 104) (by rfl) (by rfl) gg ?_
                      go_simp
                      have C := lawHas_any _ (garbAns os t) (i : Int) wz (HOGI.out.on hR.1) HNG.out
                      rw [HHS.out] at C
                      refine C.mono ?_
                      rintro e w' ⟨rfl, rfl⟩
                      exact hK _ _ (flat_mark (hR.1) (fun _ _ h => h) hR.2 rfl)
                  · intro b0 us wz L hslot hoth hLi hR hcl hdo K hK
                    rcases HL.out with rfl
                    · have gg : us 20 = .bool false := hR.2 20 (done_at hdo 20 (by rfl))
                      have s5 : b0.tmps.getD 5 undef = .slice (some ⟨gr, 0, none⟩) 10 rc := hoth 5 (by rfl)
                      clear hslot hoth hdo hcl hLi
                      refine guard_on (j := 20) (want := false) (d := 104) (by rfl) (by rfl) gg ?_
                      go_simp
                      exact hK _ _ (flat_mark (hR.1) (fun _ _ h => h) hR.2 rfl)
                  · intro b0 us wz L hslot hoth hLi hR hcl hdo K hK
                    rcases HL.out with rfl
                    · have gg : us 20 = .bool false := hR.2 20 (done_at hdo 20 (by rfl))
                      have s7 : b0.tmps.getD 7 undef = .int .i64 i := hoth 7 (by rfl)
                      clear hslot hoth hdo hcl hLi
                      refine guard_on (j := 20) (want := false) (d := 104) (by rfl) (by rfl) gg ?_
                      go_simp
                      exact hK _ _ (flat_mark (hR.1) (fun _ _ h => h) hR.2 rfl)
                  · intro b0 us wz L hslot hoth hLi hR hcl hdo K hK
                    rcases HL.out with rfl
                    · have gg : us 20 = .bool false := hR.2 20 (done_at hdo 20 (by rfl))
                      have s108 : b0.tmps.getD 108 undef = .slice (some ⟨gr, 0, none⟩) 10 rc := (hslot 24 108 (by rfl)).trans (hR.2 24 (done_at hdo 24 (by rfl)))
                      have s109 : b0.tmps.getD 109 undef = .int .i64 i := (hslot 25 109 (by rfl)).trans (hR.2 25 (done_at hdo 25 (by rfl)))
                      have hi10 : (i : Int) < 10 := HI10.out
                      clear hslot hoth hdo hcl hLi
                      refine guard_on (j := 20) (want := false) (d := 104) (by rfl) (by rfl) gg ?_
                      go_simp
                      exact hK _ _ (flat_mark (hR.1) (fun _ _ h => h) hR.2 rfl)
                  · intro b0 us wz L hslot hoth hLi hR hcl hdo K hK
                    rcases HL.out with rfl
                    · have gg : us 20 = .bool false := hR.2 20 (done_at hdo 20 (by rfl))
                      have s110 : b0.tmps.getD 110 undef = .pointer (some ⟨gr, i, none⟩) := (hslot 26 110 (by rfl)).trans (hR.2 26 (done_at hdo 26 (by rfl)))
                      have kR := (HKR.out wz (below_more HIB.out hR.1) i HI.out).trans (congrArg (fun b => some (Value.bool b)) HRI.out)
                      clear hslot hoth hdo hcl hLi
                      refine guard_on (j := 20) (want := false) (d := 104) (by rfl) (by rfl) gg ?_
                      go_simp
                      exact hK _ _ (flat_mark (hR.1) (fun _ _ h => h) hR.2 rfl)
                  · intro b0 us wz L hslot hoth hLi hR hcl hdo K hK
                    rcases HL.out with rfl
                    · have gg : us 20 = .bool false := hR.2 20 (done_at hdo 20 (by rfl))
                      have s111 : b0.tmps.getD 111 undef = .bool false := (hslot 27 111 (by rfl)).trans (hR.2 27 (done_at hdo 27 (by rfl)))
                      clear hslot hoth hdo hcl hLi
                      refine guard_on (j := 20) (want := false) (d := 104) (by rfl) (by rfl) gg ?_
                      go_simp
                      exact hK _ _ (flat_mark (hR.1) (fun _ _ h => h) hR.2 rfl)
                  · intro b0 us wz L hslot hoth hLi hR hcl hdo K hK
                    rcases HL.out with rfl
                    · have gg : us 28 = .bool false := hR.2 28 (done_at hdo 28 (by rfl))
                      have s3 : b0.tmps.getD 3 undef = .slice (some p) 10 c := hoth 3 (by rfl)
                      clear hslot hoth hdo hcl hLi
                      refine guard_on (j := 28) (want := false) (d := 112) (by rfl) (by rfl) gg ?_
                      go_simp
                      exact hK _ _ (flat_mark (hR.1) (fun _ _ h => h) hR.2 rfl)
                  · intro b0 us wz L hslot hoth hLi hR hcl hdo K hK
                    rcases HL.out with rfl
                    · have gg : us 28 = .bool false := hR.2 28 (done_at hdo 28 (by rfl))
                      have s7 : b0.tmps.getD 7 undef = .int .i64 i := hoth 7 (by rfl)
                      clear hslot hoth hdo hcl hLi
                      refine guard_on (j := 28) (want := false) (d := 112) (by rfl) (by rfl) gg ?_
                      go_simp
                      exact hK _ _ (flat_mark (hR.1) (fun _ _ h => h) hR.2 rfl)
                  · intro b0 us wz L hslot hoth hLi hR hcl hdo K hK
                    rcases HL.out with rfl
                    · have gg : us 28 = .bool false := hR.2 28 (done_at hdo 28 (by rfl))
                      have s113 : b0.tmps.getD 113 undef = .slice (some p) 10 c := (hslot 29 113 (by rfl)).trans (hR.2 29 (done_at hdo 29 (by rfl)))
                      have s114 : b0.tmps.getD 114 undef = .int .i64 i := (hslot 30 114 (by rfl)).trans (hR.2 30 (done_at hdo 30 (by rfl)))
                      have hq := HQ.out
                      have hi10 : (i : Int) < 10 := HI10.out
                      clear hslot hoth hdo hcl hLi
                      refine guard_on (j := 28) (want := false) (d := 112) (by rfl) (by rfl) gg ?_
                      go_simp
                      exact hK _ _ (flat_mark (hR.1) (fun _ _ h => h) hR.2 rfl)
                  · intro b0 us wz L hslot hoth hLi hR hcl hdo K hK
                    rcases HL.out with rfl
                    · have gg : us 28 = .bool false := hR.2 28 (done_at hdo 28 (by rfl))
                      have s115 : b0.tmps.getD 115 undef = .pointer (some q) := (hslot 31 115 (by rfl)).trans (hR.2 31 (done_at hdo 31 (by rfl)))
                      clear hslot hoth hdo hcl hLi
                      refine guard_on (j := 28) (want := false) (d := 112) (by rfl) (by rfl) gg ?_
                      go_simp
                      exact hK _ _ (flat_mark (hR.1) (fun _ _ h => h) hR.2 rfl)
                  · intro b0 us wz L hslot hoth hLi hR hcl hdo K hK
                    rcases HL.out with rfl
                    · have gg : us 28 = .bool false := hR.2 28 (done_at hdo 28 (by rfl))
                      have s116 : b0.tmps.getD 116 undef = .pointer (some ⟨q.block, q.off + 1, none⟩) := (hslot 32 116 (by rfl)).trans (hR.2 32 (done_at hdo 32 (by rfl)))
                      have k1 := (HCS.out.on hR.1).c1
                      clear hslot hoth hdo hcl hLi
                      refine guard_on (j := 28) (want := false) (d := 112) (by rfl) (by rfl) gg ?_
                      go_simp
                      exact hK _ _ (flat_mark (hR.1) (fun _ _ h => h) hR.2 rfl)
                  · intro b0 us wz L hslot hoth hLi hR hcl hdo K hK
                    rcases HL.out with rfl
                    · have gg : us 28 = .bool false := hR.2 28 (done_at hdo 28 (by rfl))
                      have s117 : b0.tmps.getD 117 undef = .int .i64 (obAt os i).kind := (hslot 33 117 (by rfl)).trans (hR.2 33 (done_at hdo 33 (by rfl)))
                      have e5 : ((obAt os i).kind == 0) = false := HKZ.out
                      clear hslot hoth hdo hcl hLi
                      refine guard_on (j := 28) (want := false) (d := 112) (by rfl) (by rfl) gg ?_
                      go_simp
                      exact hK _ _ (flat_mark (hR.1) (fun _ _ h => h) hR.2 rfl)
                  · intro b0 us wz L hslot hoth hLi hR hcl hdo K hK
                    rcases HL.out with rfl
                    · have gg : us 20 = .bool false := hR.2 20 (done_at hdo 20 (by rfl))
                      have s112 : b0.tmps.getD 112 undef = .bool false := (hslot 28 112 (by rfl)).trans (hR.2 28 (done_at hdo 28 (by rfl)))
                      have s118 : b0.tmps.getD 118 undef = .bool false := (hslot 34 118 (by rfl)).trans (hR.2 34 (done_at hdo 34 (by rfl)))
                      clear hslot hoth hdo hcl hLi
                      refine guard_on (j := 20) (want := false) (d := 104) (by rfl) (by rfl) gg ?_
                      go_simp
                      exact hK _ _ (flat_mark (hR.1) (fun _ _ h => h) hR.2 rfl)
                  · intro b0 us wz L hslot hoth hLi hR hcl hdo K hK
                    rcases HL.out with rfl
                    · have gg : us 20 = .bool false := hR.2 20 (done_at hdo 20 (by rfl))
                      have s107 : b0.tmps.getD 107 undef = .bool true := (hslot 23 107 (by rfl)).trans (hR.2 23 (done_at hdo 23 (by rfl)))
                      have s119 : b0.tmps.getD 119 undef = .bool false := (hslot 35 119 (by rfl)).trans (hR.2 35 (done_at hdo 35 (by rfl)))
                      clear hslot hoth hdo hcl hLi
                      refine guard_on (j := 20) (want := false) (d := 104) (by rfl) (by rfl) gg ?_
                      go_simp
                      exact hK _ _ (flat_mark (hR.1) (fun _ _ h => h) hR.2 rfl)
                  · intro b0 us wz L hslot hoth hLi hR hcl hdo K hK
                    rcases HL.out with rfl
                    · have s104 : b0.tmps.getD 104 undef = .bool false := (hslot 20 104 (by rfl)).trans (hR.2 20 (done_at hdo 20 (by rfl)))
                      have s120 : b0.tmps.getD 120 undef = .bool false := (hslot 36 120 (by rfl)).trans (hR.2 36 (done_at hdo 36 (by rfl)))
                      clear hslot hoth hdo hcl hLi
                      refine guard_none (by rfl) ?_
                      go_simp
                      exact hK _ _ (flat_mark (hR.1) (fun _ _ h => h) hR.2 rfl)
                · intro us wn L hall hR a' ha'
                  have g37 : us 37 = .bool false := by
                    have := hR.2 37 (hall 37 (by decide))
                    rcases HL.out with rfl
                    all_goals exact this
                  have HB := hid_of hR.1
                  clear hR hall
                  simp only [putAll, g37] at ha'
                  subst ha'
                  go_frame
                  have HZ := hid_of (below_more HIB.out HB.out)
                  go_wp2
                  go_roundw
                  case rel => exact ⟨i + 1, by omega, by go_num, HZ⟩
                  case measure => simp [intOf]; omega
      · have HBF : Hid (Below w.heap.size w wr) := below_more HB1.out (below_more HB4.out hin.out)
        clear hin
        go_wp2
        go_ret
        exact ⟨rfl, HBF.out⟩
end Go.Proofs.Ytgijpflojffckaa
namespace Go.Proofs.Ytgijpflojffckaa
open Go.ChangeShapes Go.WideShapes Go.ChangeAt Go.RowKit
open Go.ChangeMaps (open_string shut_string)
set_option linter.unusedVariables false

set_option maxRecDepth 100000 in
theorem walkBigReached (w : World) (a : Option Addr) (len cap : Nat) (h : 1048576 < len) :
    Calls Try.prog 4 #[.slice a len cap] w fun e w' => e = .returned (.bool true) ∧ Below w.heap.size w w' := by
  have C := big_yes w a len cap (by omega)
  go_enter Try.func4, Try.ntmps4
  go_wp2_with fail
  refine C.mono ?_
  rintro e w0 ⟨rfl, rfl⟩
  go_wp2
  go_ret
  exact ⟨rfl, Below.refl _ _⟩
namespace Reached
theorem own : ownKnob Try.prog.godebug = none := by kernel_rfl
theorem laidOut : laidOutB Try.prog = true := by kernel_rfl

/-- A slice of bytes that came in. -/
def IsRow (k : IntKind) (w : World) (a : Option Addr) (len cap : Nat) (zs : List Int) : Prop :=
  (a = none ∧ len = 0 ∧ cap = 0 ∧ zs = []) ∨
  ∃ x, a = some x ∧ len ≤ cap ∧ cap ≤ maxLen ∧ zs.length = cap ∧ (∀ i, i < zs.length → w.cell? (x.add i) = some (.int k (zs.getD i 0))) ∧ ∀ n ∈ zs, (Lit.int k n).wf = true

theorem code_of {w : World} {a : Option Addr} {len cap : Nat} {zs : List Int} (h : IsRow .u8 w a len cap zs) (hl : len ≤ 1048576) : Code0 w a len (fun i => (zs.getD i 0).toNat) := by
  have hb : ∀ i, 0 ≤ zs.getD i 0 ∧ zs.getD i 0 ≤ 255 := by
    intro i
    rcases h with ⟨_, _, _, rfl⟩ | ⟨x, _, _, _, _, _, hwf⟩
    · simp
    · by_cases hi : i < zs.length
      · have := hwf (zs.getD i 0) (by rw [List.getD_eq_getElem?_getD, List.getElem?_eq_getElem hi]; simp)
        have := bounds_u8 this
        omega
      · rw [List.getD_eq_getElem?_getD, List.getElem?_eq_none (by omega)]; simp
  refine ⟨hl, fun i => by have := hb i; omega, fun i hi => ?_⟩
  rcases h with ⟨_, rfl, _, _⟩ | ⟨x, rfl, hlc, _, hz, hc, _⟩
  · omega
  · have h1 := hc i (by omega)
    obtain ⟨b, off, spot⟩ := x
    have hs : spot = none := by
      have h0 := hc 0 (by omega)
      simpa [Addr.add] using World.cell?_spot h0
    subst hs
    have e : (⟨b, off, none⟩ : Addr).add i = ⟨b, off + i, none⟩ := by unfold Addr.add; split <;> simp_all
    rw [e] at h1
    refine ⟨b, off, rfl, World.block_lt_of_cell? w _ h1, ?_⟩
    rw [h1]
    have := hb i
    simp only [Option.some.injEq, Value.int.injEq, true_and]
    omega

theorem walk (a0 : Option Addr) (len0 cap0 : Nat) (z0 : List Int) (w : World) (w0 : IsRow .u8 w a0 len0 cap0 z0) :
    Calls Try.prog 4 #[.slice a0 len0 cap0] w fun e w' => e = .returned (.bool true) ∧ Below w.heap.size w w' := by
  by_cases hbig : 1048576 < len0
  · exact walkBigReached w a0 len0 cap0 hbig
  · exact walkReached w a0 len0 cap0 _ (code_of w0 (by omega))

set_option maxRecDepth 100000 in
theorem lifted (os : Os) (started : os.Started) (H : Type) (enc : TypeId × Value → H) :
    ReturnsInHanded {} Try.checked os 4 .any (Rows.fnReachedSpec.pre6 enc Try.prog Try.f4 Rows.fnReachedRow.domain false) (Rows.fnReachedSpec.post enc Try.prog Try.f4 false true false false) := by
  refine returnsInHanded_of_change (C := Try.checked) own started (by kernel_rfl) Try.func4
    (ChangeSpec.witness6 (enc := enc) (C := Try.checked) false ⟨#[], #[.slice none 0 0], []⟩ 8 (by kernel_rfl) (by kernel_rfl) (by kernel_rfl) (by kernel_rfl)) ?_
  intro W base args ds gs before hval0 hW hcnd _
  have hval : ∀ (j : Nat) t v, Try.f4.params[j]? = some t → args[j]? = some v → Value.okWide Try.prog W .any base t v := hval0
  have hW' := hW
  obtain ⟨p, q, hA0, hV, rfl, hfz, hnd⟩ := hW
  have hA : DataW.TrodAll enc Try.prog W 0 (fun _ => true) true Try.f4.params.toList args.toList ds p := hA0
  rw [Try.params4] at hA hval
  obtain ⟨v0, vs0, d0, ds0, p0, q0, hargs, rfl, rfl, h0, r0⟩ := trodAll_cons hA
  obtain ⟨rfl, rfl, rfl⟩ := trodAll_nil r0
  obtain rfl : args = #[v0] := by cases args; simp_all
  obtain ⟨rfl, rfl⟩ := trodVars_none hV
  obtain ⟨a0, len0, cap0, rfl⟩ := okWide_slice Try.underlying22 (hval 0 22 v0 rfl rfl)
  have k0 := h0
  have lt0 : ∀ x ∈ p0, x.block < W.heap.size := by obtain ⟨m, hm⟩ := k0; exact DataW.trod_lt m _ _ _ hm
  obtain ⟨z0, w0⟩ : ∃ zs, IsRow .u8 W a0 len0 cap0 zs := by
    obtain ⟨fuel, hf⟩ := h0
    rcases open_ints Try.underlying22 Try.underlying5 (by kernel_rfl) hf with ⟨hcs, _⟩ | ⟨x, l, c, zs, hcs, _, hl, hm, hz, _, hcell, hwz⟩
    · simp [Value.cells] at hcs
      obtain ⟨rfl, rfl, rfl⟩ := hcs
      exact ⟨[], .inl ⟨rfl, rfl, rfl, rfl⟩⟩
    · simp [Value.cells] at hcs
      obtain ⟨rfl, rfl, rfl⟩ := hcs
      exact ⟨zs, .inr ⟨_, rfl, hl, hm, by simpa using hz, hcell, hwz⟩⟩
  clear hA0 hval0
  refine (walk a0 len0 cap0 z0 W w0).mono fun e W' ⟨he, bel⟩ => ?_
  subst he
  exact ⟨_, rfl, _, _, _, [], _, [], hW', trodAll_mk1 (shut_bool Try.underlying4 _), (trodAll_cons_mk (Below.trod laidOut (by kernel_rfl) (of_decide_eq_true (by kernel_rfl)) k0 bel lt0) trodAll_mk0), rfl, bel.frame _, fun h => by cases h⟩

theorem over : Rows.fnReachedRow.holds Try.pinned (OpenSpec.ofChange Rows.fnReachedSpec) :=
  OpenClaim.holds_of_wide 4 Try.f4 rfl rfl rfl rfl rfl rfl rfl ⟨rfl, rfl, rfl, rfl, rfl⟩ rfl rfl rfl rfl rfl (by kernel_rfl) Try.func4 (by kernel_rfl)
    (of_decide_eq_true (by kernel_rfl)) (by unfold Func.isWrapper; first | (rw [if_pos (by decide +kernel)]; kernel_rfl) | (rw [if_neg (by decide +kernel)]; exact ⟨rfl, rfl⟩))
    (fun os started H enc _ => lifted os started H enc)

end Reached
/-- The law answers true at every code. -/
theorem reached_holds : Rows.FnReachedSaid := Reached.over
#print axioms reached_holds
end Go.Proofs.Ytgijpflojffckaa
