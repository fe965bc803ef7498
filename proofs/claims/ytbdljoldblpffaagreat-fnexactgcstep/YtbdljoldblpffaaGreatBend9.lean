/-
  A thing of an arena of the call's own is bent: one of its cells, or a list that is appended to.
-/
import Derived.ArgAppend
import Derived.Test.YtbdljoldblpffaaGreatCopyI8
import Derived.Test.YtbdljoldblpffaaGreatLead
namespace Go.Proofs.YtbdljoldblpffaaGreat
open Go.RowKit
set_option linter.unusedVariables false
set_option maxRecDepth 100000

theorem blk_own {v : Value} {b : Nat} (h : b ∈ Go.Proofs.YtbdljoldblpffaaGreat.blk v) : v.ownBlock = some b := by
  unfold Go.Proofs.YtbdljoldblpffaaGreat.blk at h
  split at h
  · simp at h; subst h; rfl
  · cases h
/-- append onto a list of the call's own, wherever it lies. -/
theorem run_appI (W : World) (lo hi : Nat) (v : Value) (xs new : List Int) (ty : TypeId) (h : OwnI lo hi W v xs) (hlo : lo ≤ W.heap.size) (hhi : hi ≤ W.heap.size) (g k c : Nat) (hk : new.length = k) (h0 : 0 < k) (hcell : ∀ (j : Nat) u, (icells new)[j]? = some u → W.cell? ⟨g, j, none⟩ = some u) (hb : xs.length + k ≤ 1048576) :
    ∃ v' w', (Builtin.append_ #[23, 23] ty #[v, .slice (some ⟨g, 0, none⟩) k c]).run Tryz.prog W = .ok v' w' ∧ OwnI lo w'.heap.size w' v' (xs ++ new) ∧ (∃ r, W.grownBy w' r ∧ ∀ b, r = some b → b ∈ Go.Proofs.YtbdljoldblpffaaGreat.blk v) ∧ ∀ b, b ∈ Go.Proofs.YtbdljoldblpffaaGreat.blk v' → b ∈ Go.Proofs.YtbdljoldblpffaaGreat.blk v ∨ W.heap.size ≤ b := by
  subst hk
  obtain ⟨i0, hi0, hz0, hz1, hz2⟩ := info_parts info3
  have hcell' : ∀ (j : Nat) u, (icells new)[j]? = some u → W.cell? ((⟨g, 0, none⟩ : Addr).add j) = some u := fun j u hj => by rw [add_head]; exact hcell j u hj
  have hln : (icells new).length = new.length * 1 := by rw [icells_length]; omega
  obtain ⟨a, cap, rfl, hc, hx⟩ := h
  by_cases hz : cap = 0
  · subst hz
    obtain rfl : xs = [] := List.length_eq_zero_iff.1 (by omega)
    have hone : ∃ v' w', (Builtin.append_ #[23, 23] ty #[.slice a 0 0, .slice (some ⟨g, 0, none⟩) new.length c]).run Tryz.prog W = .ok v' w' ∧ w'.ownsRow W.heap.size 3 1 v' (0 + new.length) ([] ++ icells new) ∧ W.grownBy w' none := by
      cases a with
      | none =>
        obtain ⟨v', w', hr, h2, h3, h4, h5⟩ := run_append_own_at (P := Tryz.prog) W W.heap.size 23 ty 3 i0 _ 1 8 Tryz.underlying23 hi0 hz0 hz1 hz2 rfl (by decide) (.slice none 0 0) 0 [] (World.ownsRow_nil _ _ _ _) ⟨g, 0, none⟩ new.length c (icells new) hln hcell' (icells_one _) (by simp only [maxLen]; omega) (by omega) (Nat.le_refl _)
        exact ⟨v', w', hr, h2, h3⟩
      | some p => exact run_append_arg_grows (P := Tryz.prog) W 23 ty 3 i0 _ 1 8 Tryz.underlying23 hi0 hz0 hz1 hz2 rfl (by decide) p 0 0 [] (by simp) (fun j u hj => by simp at hj) ⟨g, 0, none⟩ new.length c (icells new) hln hcell' (by omega) (by simp only [maxLen]; omega) (by omega)
    obtain ⟨v', w', hr, h2, h3⟩ := hone
    have h2' : w'.ownsRow W.heap.size 3 1 v' new.length (icells new) := by simpa using h2
    have ho := ownI_row h2'
    refine ⟨v', w', hr, ho.move (fun _ _ _ _ x => x) hlo (Nat.le_refl _), ⟨none, h3, fun b e => by cases e⟩, fun b hb' => .inr (ho.blk hb').1⟩
  · obtain ⟨q, rs, rfl, h1, h2, h3, h4, h5⟩ := hx hz
    have hown : W.ownsRow lo 3 1 (.slice (some ⟨q, 0, none⟩) xs.length cap) xs.length (icells xs) := ⟨by rw [icells_length]; omega, .inr ⟨q, cap, (icells xs ++ rs).toArray, rfl, h1, h3, hc, h5, by simp [icells_length]; omega, by simp [icells_length]⟩⟩
    obtain ⟨v', w', hr, r2, r3, r4, r5⟩ := run_append_own_at (P := Tryz.prog) W lo 23 ty 3 i0 _ 1 8 Tryz.underlying23 hi0 hz0 hz1 hz2 rfl (by decide) _ xs.length _ hown ⟨g, 0, none⟩ new.length c (icells new) hln hcell' (icells_one _) (by simp only [maxLen]; omega) (by omega) hlo
    have r2' : w'.ownsRow lo 3 1 v' (xs ++ new).length (icells (xs ++ new)) := by rw [icells_append, List.length_append]; exact r2
    have hbq : Go.Proofs.YtbdljoldblpffaaGreat.blk (.slice (some ⟨q, 0, none⟩) xs.length cap) = [q] := blk_one _ hz
    refine ⟨v', w', hr, ownI_row r2', ⟨_, r3, fun b e => ?_⟩, fun b hb' => ?_⟩
    · rw [hbq]
      simp [Value.ownBlock] at e
      simp [e]
    · have e := blk_own hb'
      rw [hbq]
      rcases r5 with r5 | r5 <;> rw [e] at r5
      · simp [Value.ownBlock] at r5
        left; simp [r5]
      · simp at r5
        right; omega
theorem run_appM (W : World) (lo hi : Nat) (v : Value) (xs new : List Ms) (ty : TypeId) (h : OwnM lo hi W v xs) (hlo : lo ≤ W.heap.size) (hhi : hi ≤ W.heap.size) (g k c : Nat) (hk : new.length = k) (h0 : 0 < k) (hcell : ∀ (j : Nat) u, (mcells new)[j]? = some u → W.cell? ⟨g, j, none⟩ = some u) (hb : xs.length + k ≤ 1048576) :
    ∃ v' w', (Builtin.append_ #[53, 53] ty #[v, .slice (some ⟨g, 0, none⟩) k c]).run Tryz.prog W = .ok v' w' ∧ OwnM lo w'.heap.size w' v' (xs ++ new) ∧ (∃ r, W.grownBy w' r ∧ ∀ b, r = some b → b ∈ Go.Proofs.YtbdljoldblpffaaGreat.blk v) ∧ ∀ b, b ∈ Go.Proofs.YtbdljoldblpffaaGreat.blk v' → b ∈ Go.Proofs.YtbdljoldblpffaaGreat.blk v ∨ W.heap.size ≤ b := by
  subst hk
  obtain ⟨i0, hi0, hz0, hz1, hz2⟩ := info_parts infoMsg
  have hcell' : ∀ (j : Nat) u, (mcells new)[j]? = some u → W.cell? ((⟨g, 0, none⟩ : Addr).add j) = some u := fun j u hj => by rw [add_head]; exact hcell j u hj
  have hln : (mcells new).length = new.length * 2 := by rw [mcells_length]
  obtain ⟨a, cap, rfl, hc, hx⟩ := h
  by_cases hz : cap = 0
  · subst hz
    obtain rfl : xs = [] := List.length_eq_zero_iff.1 (by omega)
    have hone : ∃ v' w', (Builtin.append_ #[53, 53] ty #[.slice a 0 0, .slice (some ⟨g, 0, none⟩) new.length c]).run Tryz.prog W = .ok v' w' ∧ w'.ownsRow W.heap.size 96 2 v' (0 + new.length) ([] ++ mcells new) ∧ W.grownBy w' none := by
      cases a with
      | none =>
        obtain ⟨v', w', hr, h2, h3, h4, h5⟩ := run_append_own_at (P := Tryz.prog) W W.heap.size 53 ty 96 i0 _ 2 16 Tryz.underlying53 hi0 hz0 hz1 hz2 rfl (by decide) (.slice none 0 0) 0 [] (World.ownsRow_nil _ _ _ _) ⟨g, 0, none⟩ new.length c (mcells new) hln hcell' (mcells_one _) (by simp only [maxLen]; omega) (by omega) (Nat.le_refl _)
        exact ⟨v', w', hr, h2, h3⟩
      | some p => exact run_append_arg_grows (P := Tryz.prog) W 53 ty 96 i0 _ 2 16 Tryz.underlying53 hi0 hz0 hz1 hz2 rfl (by decide) p 0 0 [] (by simp) (fun j u hj => by simp at hj) ⟨g, 0, none⟩ new.length c (mcells new) hln hcell' (by omega) (by simp only [maxLen]; omega) (by omega)
    obtain ⟨v', w', hr, h2, h3⟩ := hone
    have h2' : w'.ownsRow W.heap.size 96 2 v' new.length (mcells new) := by simpa using h2
    have ho := ownM_row h2'
    refine ⟨v', w', hr, ho.move (fun _ _ _ _ x => x) hlo (Nat.le_refl _), ⟨none, h3, fun b e => by cases e⟩, fun b hb' => .inr (ho.blk hb').1⟩
  · obtain ⟨q, rs, rfl, h1, h2, h3, h4, h5⟩ := hx hz
    have hown : W.ownsRow lo 96 2 (.slice (some ⟨q, 0, none⟩) xs.length cap) xs.length (mcells xs) := ⟨by rw [mcells_length], .inr ⟨q, cap, (mcells xs ++ rs).toArray, rfl, h1, h3, hc, h5, by simp [mcells_length]; omega, by simp [mcells_length]⟩⟩
    obtain ⟨v', w', hr, r2, r3, r4, r5⟩ := run_append_own_at (P := Tryz.prog) W lo 53 ty 96 i0 _ 2 16 Tryz.underlying53 hi0 hz0 hz1 hz2 rfl (by decide) _ xs.length _ hown ⟨g, 0, none⟩ new.length c (mcells new) hln hcell' (mcells_one _) (by simp only [maxLen]; omega) (by omega) hlo
    have r2' : w'.ownsRow lo 96 2 v' (xs ++ new).length (mcells (xs ++ new)) := by rw [mcells_append, List.length_append]; exact r2
    have hbq : Go.Proofs.YtbdljoldblpffaaGreat.blk (.slice (some ⟨q, 0, none⟩) xs.length cap) = [q] := blk_one _ hz
    refine ⟨v', w', hr, ownM_row r2', ⟨_, r3, fun b e => ?_⟩, fun b hb' => ?_⟩
    · rw [hbq]
      simp [Value.ownBlock] at e
      simp [e]
    · have e := blk_own hb'
      rw [hbq]
      rcases r5 with r5 | r5 <;> rw [e] at r5
      · simp [Value.ownBlock] at r5
        left; simp [r5]
      · simp at r5
        right; omega
/-- One cell of a thing is written: not one of its lists. -/
theorem OwnA.bend {g cap : Nat} {es : List El} {rest : List Value} {lo hi : Nat} {w : World} (h : OwnA g cap es rest lo hi w) {k : Nat} (hk : k < es.length) (j : Nat) (x : Int) (o' : Ob) (hj : j < 13) (hl : o'.ls = (elAt es k).o.ls ∧ o'.ds = (elAt es k).o.ds ∧ o'.qs = (elAt es k).o.qs)
    (he : elV ⟨o', (elAt es k).l, (elAt es k).d, (elAt es k).m⟩ = (elV (elAt es k)).set j (.int .i64 x)) :
    OwnA g cap (es.set k ⟨o', (elAt es k).l, (elAt es k).d, (elAt es k).m⟩) rest lo hi (w.setCell ⟨g, k * 13 + j, none⟩ (.int .i64 x)) := by
  have hgz := lt_of_block h.at'
  have hoo := h.own k hk
  have hne := h.ne k hk
  have HTW : Touch [g] w (w.setCell ⟨g, k * 13 + j, none⟩ (.int .i64 x)) := touch_one (grownBy_set w g _ _) hgz
  have hk3 : ∀ b y, b ∈ blks (elAt es k) → w.heap[b]? = some y → (w.setCell ⟨g, k * 13 + j, none⟩ (.int .i64 x)).heap[b]? = some y := fun b y hb hy => HTW.block _ _ (by simp; intro e; rw [e] at hb; exact hne hb) hy
  refine h.mark hk (o' := o') ?_ ⟨by rw [hl.1]; exact hoo.ls.keepIf fun b y hb hy => hk3 b y (by unfold blks; simp [hb]) hy, by rw [hl.2.1]; exact hoo.ds.keepIf fun b y hb hy => hk3 b y (by unfold blks; simp [hb]) hy, by rw [hl.2.2]; exact hoo.qs.keepIf fun b y hb hy => hk3 b y (by unfold blks; simp [hb]) hy, hoo.nd⟩ (fun b y hbg _ hy => HTW.block _ _ (by simpa using hbg) hy)
  have e := heap_setCell_same w g (k * 13 + j) _ 55 (.int .i64 x) h.at'
  rw [e, ecells_put1 hk rest ⟨o', (elAt es k).l, (elAt es k).d, (elAt es k).m⟩ j (.int .i64 x) hj he]
  simp only [List.setIfInBounds_toArray]
/-- The first k things of an arena. -/
theorem OwnA.take {g cap : Nat} {es : List El} {rest : List Value} {lo hi : Nat} {w : World} (h : OwnA g cap es rest lo hi w) (k : Nat) (hk : k ≤ es.length) : OwnA g cap (es.take k) (ecells (es.drop k) ++ rest) lo hi w := by
  have hlen : (es.take k).length = k := by simp; omega
  have hat : ∀ i, i < k → elAt (es.take k) i = elAt es i := fun i hi => by
    unfold elAt
    rw [List.getD_eq_getElem?_getD, List.getD_eq_getElem?_getD, List.getElem?_take]
    simp [hi]
  refine ⟨?_, by rw [hlen]; exact Nat.le_trans hk h.cap, h.lo, h.hi, fun i hi0 => ?_, fun i hi0 => ?_, fun i j hij hj => ?_⟩
  · rw [← List.append_assoc, ← ecells_append, List.take_append_drop]
    exact h.at'
  · rw [hlen] at hi0
    rw [hat i hi0]; exact h.own i (by omega)
  · rw [hlen] at hi0
    rw [hat i hi0]; exact h.ne i (by omega)
  · rw [hlen] at hj
    rw [hat i (by omega), hat j hj]; exact h.apart i j hij (by omega)
/-- A thing's lists are other ones now: where they were, or behind all that was there. -/
theorem OwnA.relist {g cap : Nat} {es : List El} {rest : List Value} {lo hi hi' : Nat} {w w1 : World} (h : OwnA g cap es rest lo hi w) {k : Nat} (hk : k < es.length) (hh : hi ≤ hi') {o' : Ob} {l' d' m' : Value} (ho : OwnO lo hi' w1 l' d' m' o')
    (hg : w1.heap[g]? = some (.cells (ecells (es.set k ⟨o', l', d', m'⟩) ++ rest).toArray 55 (0, 0)))
    (hother : ∀ b x, b ≠ g → b ∉ blks (elAt es k) → w.heap[b]? = some x → w1.heap[b]? = some x)
    (hnew : ∀ b, b ∈ Go.Proofs.YtbdljoldblpffaaGreat.blk l' ++ Go.Proofs.YtbdljoldblpffaaGreat.blk d' ++ Go.Proofs.YtbdljoldblpffaaGreat.blk m' → b ∈ blks (elAt es k) ∨ hi ≤ b) : OwnA g cap (es.set k ⟨o', l', d', m'⟩) rest lo hi' w1 := by
  have hap : ∀ i, i ≠ k → i < es.length → ∀ b, b ∈ blks (elAt es i) → b ∉ blks (elAt es k) := fun i hne hi0 b hb hbk => by
    rcases Nat.lt_or_gt_of_ne hne with h1 | h1
    · exact h.apart i k h1 hk b hb hbk
    · exact h.apart k i h1 hi0 b hbk hb
  have hlt : ∀ i, i < es.length → ∀ b, b ∈ blks (elAt es i) → b < hi := fun i hi0 b hb => ((h.own i hi0).blk hb).2.1
  refine ⟨hg, by rw [List.length_set]; exact h.cap, h.lo, Nat.lt_of_lt_of_le h.hi hh, fun i hi0 => ?_, fun i hi0 => ?_, fun i j hij hj => ?_⟩
  · rw [List.length_set] at hi0
    by_cases he : k = i
    · subst he; rw [elAt_set_same hk]; exact ho
    · rw [elAt_set_other _ _ he]
      have hoo := h.own i hi0
      have kp : ∀ b x, b ∈ blks (elAt es i) → w.heap[b]? = some x → w1.heap[b]? = some x := fun b x hb hx => hother b x (fun e => h.ne i hi0 (e ▸ hb)) (hap i (fun e => he e.symm) hi0 b hb) hx
      exact OwnO.move (w := w1) ⟨hoo.ls.keepIf fun b x hb hx => kp b x (by unfold blks; simp [hb]) hx, hoo.ds.keepIf fun b x hb hx => kp b x (by unfold blks; simp [hb]) hx, hoo.qs.keepIf fun b x hb hx => kp b x (by unfold blks; simp [hb]) hx, hoo.nd⟩ (fun _ _ _ _ x => x) (Nat.le_refl _) hh
  · rw [List.length_set] at hi0
    by_cases he : k = i
    · subst he
      rw [elAt_set_same hk]
      intro hm
      rcases hnew g hm with h1 | h1
      · exact h.ne k hk h1
      · have := h.hi; omega
    · rw [elAt_set_other _ _ he]; exact h.ne i hi0
  · rw [List.length_set] at hj
    intro b hb hbj
    by_cases he : k = i
    · subst he
      rw [elAt_set_same hk] at hb
      rw [elAt_set_other _ _ (by omega)] at hbj
      rcases hnew b hb with h1 | h1
      · exact h.apart k j hij hj b h1 hbj
      · have := hlt j hj b hbj; omega
    · rw [elAt_set_other _ _ he] at hb
      by_cases he2 : k = j
      · subst he2
        rw [elAt_set_same hk] at hbj
        rcases hnew b hbj with h1 | h1
        · exact h.apart i k hij hj b hb h1
        · have := hlt i (by omega) b hb; omega
      · rw [elAt_set_other _ _ he2] at hbj
        exact h.apart i j hij hj b hb hbj
/-- Links that were appended to are stored. -/
theorem OwnA.appL {g cap : Nat} {es : List El} {rest : List Value} {lo hi : Nat} {w w' : World} (h : OwnA g cap es rest lo hi w) (hhi : hi ≤ w.heap.size) {k : Nat} (hk : k < es.length) {v' : Value} {ls' : List Int} {r : Option Nat} (ho : OwnI lo w'.heap.size w' v' ls') (hg : w.grownBy w' r) (hr : ∀ b, r = some b → b ∈ Go.Proofs.YtbdljoldblpffaaGreat.blk (elAt es k).l) (hb : ∀ b, b ∈ Go.Proofs.YtbdljoldblpffaaGreat.blk v' → b ∈ Go.Proofs.YtbdljoldblpffaaGreat.blk (elAt es k).l ∨ w.heap.size ≤ b) :
    OwnA g cap (es.set k ⟨{ (elAt es k).o with ls := ls' }, v', (elAt es k).d, (elAt es k).m⟩) rest lo w'.heap.size (w'.setCell ⟨g, k * 13 + 10, none⟩ v') := by
  have hoo := h.own k hk
  have hne := h.ne k hk
  have ap := apart_ld hoo
  have hbg : ∀ b, b ∈ Go.Proofs.YtbdljoldblpffaaGreat.blk v' → b ≠ g := fun b hb' e => by
    rcases hb b hb' with h1 | h1
    · exact hne (by unfold blks; rw [← e]; simp [h1])
    · have := h.hi; omega
  have hgr : r ≠ some g := fun e => hne (by unfold blks; simp [hr g e])
  have kp : ∀ b x, b ≠ g → b ∉ Go.Proofs.YtbdljoldblpffaaGreat.blk (elAt es k).l → w.heap[b]? = some x → (w'.setCell ⟨g, k * 13 + 10, none⟩ v').heap[b]? = some x := fun b x h1 h2 hx => setCell_keep (grown_kept hg hx (fun e => h2 (hr b e))) h1
  have hd : ∀ b, b ∈ Go.Proofs.YtbdljoldblpffaaGreat.blk (elAt es k).d → b ≠ g := fun b hb' e => hne (by unfold blks; rw [← e]; simp [hb'])
  have hm : ∀ b, b ∈ Go.Proofs.YtbdljoldblpffaaGreat.blk (elAt es k).m → b ≠ g := fun b hb' e => hne (by unfold blks; rw [← e]; simp [hb'])
  have hdl : ∀ b, b ∈ Go.Proofs.YtbdljoldblpffaaGreat.blk (elAt es k).d → b < w.heap.size := fun b hb' => (hoo.ds.blk hb').2.2
  have hml : ∀ b, b ∈ Go.Proofs.YtbdljoldblpffaaGreat.blk (elAt es k).m → b < w.heap.size := fun b hb' => (hoo.qs.blk hb').2.2
  have hsz := hg.size
  refine h.relist hk (by omega) (o' := { (elAt es k).o with ls := ls' }) (l' := v') (d' := (elAt es k).d) (m' := (elAt es k).m) ⟨?_, ?_, ?_, ?_⟩ ?_ (fun b x h1 h2 hx => kp b x h1 (fun e => h2 (by unfold blks; simp [e])) hx) (fun b hb' => ?_)
  · exact ho.keepIf fun b x hb' hx => setCell_keep hx (hbg b hb')
  · exact (hoo.ds.keepIf (w' := w'.setCell ⟨g, k * 13 + 10, none⟩ v') fun b x hb' hx => kp b x (hd b hb') (ap.1 b hb') hx).move (fun _ _ _ _ x => x) (Nat.le_refl _) (by omega)
  · exact (hoo.qs.keepIf (w' := w'.setCell ⟨g, k * 13 + 10, none⟩ v') fun b x hb' hx => kp b x (hm b hb') (ap.2 b hb').1 hx).move (fun _ _ _ _ x => x) (Nat.le_refl _) (by omega)
  · have nd := hoo.nd
    rw [List.nodup_append, List.nodup_append] at nd ⊢
    obtain ⟨⟨n1, n2, n3⟩, n4, n5⟩ := nd
    refine ⟨⟨by unfold Go.Proofs.YtbdljoldblpffaaGreat.blk; split <;> simp, n2, fun a ha b hb' e => ?_⟩, n4, fun a ha b hb' e => ?_⟩
    · subst e
      rcases hb a ha with h1 | h1
      · exact n3 a h1 a hb' rfl
      · have := hdl a hb'; omega
    · subst e
      rw [List.mem_append] at ha
      rcases ha with ha | ha
      · rcases hb a ha with h1 | h1
        · exact n5 a (by simp [h1]) a hb' rfl
        · have := hml a hb'; omega
      · exact n5 a (by simp [ha]) a hb' rfl
  · have e := heap_setCell_same w' g (k * 13 + 10) _ 55 v' (grown_kept hg h.at' hgr)
    rw [e, ecells_put1 hk rest ⟨{ (elAt es k).o with ls := ls' }, v', (elAt es k).d, (elAt es k).m⟩ 10 v' (by decide) (by simp [elV])]
    simp only [List.setIfInBounds_toArray]
  · simp only [List.mem_append] at hb'
    unfold blks
    simp only [List.mem_append]
    rcases hb' with (h1 | h1) | h1
    · rcases hb b h1 with h2 | h2
      · exact .inl (.inl (.inl h2))
      · exact .inr (by omega)
    · exact .inl (.inl (.inr h1))
    · exact .inl (.inr h1)
end Go.Proofs.YtbdljoldblpffaaGreat
