/-
  Marks on an arena of the call's own.
-/
import Derived.Test.YtokicnopfmokaaaMark8
namespace Go.Proofs.Ytokicnopfmokaaa
open Go.RowKit
set_option linter.unusedVariables false
set_option maxRecDepth 100000

def thirdB (x : Int) : Bool := x.tmod 3 == 0
/-- A thing as it is marked from m on. -/
def upOb (m : Int) (o : Ob) : Ob := ⟨m, m + 1, m + 1 + 1, m + 1 + 1 + 1, m + 1 + 1 + 1 + 1, m + 1 + 1 + 1 + 1 + 1, m + 1 + 1 + 1 + 1 + 1 + 1, m + 1 + 1 + 1 + 1 + 1 + 1 + 1, m + 1 + 1 + 1 + 1 + 1 + 1 + 1 + 1, thirdB (m + 1 + 1 + 1 + 1 + 1 + 1 + 1 + 1 + 1), upFrom (m + 1 + 1 + 1 + 1 + 1 + 1 + 1 + 1 + 1 + 1) o.ls.length, upFrom (m + 1 + 1 + 1 + 1 + 1 + 1 + 1 + 1 + 1 + 1 + o.ls.length) o.ds.length, upMsgs (m + 1 + 1 + 1 + 1 + 1 + 1 + 1 + 1 + 1 + 1 + o.ls.length + o.ds.length) o.qs.length⟩
def stepN (o : Ob) : Int := 10 + o.ls.length + o.ds.length + 2 * o.qs.length
def stepS (os : List Ob) : Int := (os.map stepN).sum
theorem stepS_cons (o : Ob) (os : List Ob) : stepS (o :: os) = stepN o + stepS os := by simp [stepS]
theorem stepS_append (a b : List Ob) : stepS (a ++ b) = stepS a + stepS b := by simp [stepS]
def upArena : Int → List Ob → List Ob
  | _, [] => []
  | m, o :: os => upOb m o :: upArena (m + stepN o) os
theorem upArena_length : ∀ (m : Int) (os : List Ob), (upArena m os).length = os.length
  | _, [] => rfl
  | m, o :: os => by simp [upArena, upArena_length]
theorem upArena_snoc : ∀ (os : List Ob) (m : Int) (o : Ob), upArena m (os ++ [o]) = upArena m os ++ [upOb (m + stepS os) o]
  | [], m, o => by simp [upArena, stepS]
  | p :: os, m, o => by
    rw [List.cons_append, upArena, upArena_snoc os, upArena, List.cons_append, stepS_cons, Int.add_assoc]
theorem upArena_at {os : List Ob} {k : Nat} (m : Int) (h : k < os.length) : obAt (upArena m os) k = upOb (m + stepS (os.take k)) (obAt os k) := by
  have e : os = os.take (k + 1) ++ os.drop (k + 1) := (List.take_append_drop _ _).symm
  have e2 : ∀ (a b : List Ob) (m : Int), upArena m (a ++ b) = upArena m a ++ upArena (m + stepS a) b := by
    intro a
    induction a with
    | nil => intro b m; simp [upArena, stepS]
    | cons x a ih => intro b m; rw [List.cons_append, upArena, ih, upArena, List.cons_append, stepS_cons, Int.add_assoc]
  have e3 : upArena m os = (upArena m (os.take k) ++ [upOb (m + stepS (os.take k)) (obAt os k)]) ++ upArena (m + stepS (os.take (k + 1))) (os.drop (k + 1)) := by
    rw [← upArena_snoc, ← take_ob h, ← e2, List.take_append_drop]
  unfold obAt
  rw [e3, List.getD_eq_getElem?_getD, List.append_assoc, List.getElem?_append_right (by rw [upArena_length, List.length_take]; omega), upArena_length, List.length_take]
  rw [show k - min k os.length = 0 by omega]
  rfl
theorem stepS_take {os : List Ob} {k : Nat} (h : k < os.length) : stepS (os.take (k + 1)) = stepS (os.take k) + stepN (obAt os k) := by
  rw [take_ob h, stepS_append]; simp [stepS]
theorem stepS_bound : ∀ os : List Ob, 0 ≤ stepS os ∧ stepS os ≤ 10 * (os.length : Int) + 2 * (arN os : Int)
  | [] => by simp [stepS, arN]
  | o :: os => by
    have ih := stepS_bound os
    rw [stepS_cons, arN_cons, List.length_cons]
    unfold stepN obN
    omega
theorem stepS_take_bound (os : List Ob) (k : Nat) : 0 ≤ stepS (os.take k) ∧ stepS (os.take k) ≤ 10 * (os.length : Int) + 2 * (arN os : Int) := by
  have h := stepS_bound (os.take k)
  have h2 := arN_take_le os k
  have h3 : (os.take k).length ≤ os.length := by rw [List.length_take]; omega
  omega
/-- The first k are marked. -/
def markA (os : List Ob) (k : Nat) : List Ob := upArena 1 (os.take k) ++ os.drop k
theorem markA_start (os : List Ob) : markA os 0 = os := by simp [markA, upArena]
theorem markA_end (os : List Ob) : markA os os.length = upArena 1 os := by simp [markA]
theorem markA_at {os : List Ob} {k : Nat} (h : k < os.length) : obAt (markA os k) k = obAt os k := by
  unfold obAt markA
  rw [List.getD_eq_getElem?_getD, List.getElem?_append_right (by rw [upArena_length, List.length_take]; omega), upArena_length, List.length_take, List.getElem?_drop, List.getD_eq_getElem?_getD]
  rw [show k + (k - min k os.length) = k by omega]
theorem markA_set {os : List Ob} {k : Nat} (h : k < os.length) : (markA os k).set k (upOb (1 + stepS (os.take k)) (obAt os k)) = markA os (k + 1) := by
  unfold markA
  rw [List.set_append_right _ _ (by rw [upArena_length, List.length_take]; omega), upArena_length, List.length_take, take_ob h, upArena_snoc, List.append_assoc]
  rw [show k - min k os.length = 0 by omega, List.drop_eq_getElem_cons h, List.set_cons_zero]
  rfl
/-- Nothing is turned but between two blocks. -/
structure Turned8 (lo hi : Nat) (w w' : World) : Prop where
  block : ∀ k x, w.heap[k]? = some x → (k < lo ∨ hi ≤ k) → w'.heap[k]? = some x
  below : ∀ B w0, B ≤ lo → Below B w0 w → Below B w0 w'
theorem Turned8.refl (lo hi : Nat) (w : World) : Turned8 lo hi w w := ⟨fun _ _ h _ => h, fun _ _ _ h => h⟩
theorem Turned8.touch {lo hi : Nat} {w w1 w2 : World} {bs : List Nat} (h : Turned8 lo hi w w1) (ht : Touch bs w1 w2) (hb : ∀ b, b ∈ bs → lo ≤ b ∧ b < hi) : Turned8 lo hi w w2 :=
  ⟨fun k x hk hc => ht.block k x (fun hm => by have := hb k hm; omega) (h.block k x hk hc), fun B w0 hB hbl => ht.below B w0 (fun b hm => Nat.le_trans hB (hb b hm).1) (h.below B w0 hB hbl)⟩
theorem OwnI.keepIf {lo hi : Nat} {w w' : World} {v : Value} {xs : List Int} (h : OwnI lo hi w v xs) (hk : ∀ b x, b ∈ Go.Proofs.Ytokicnopfmokaaa.blk v → w.heap[b]? = some x → w'.heap[b]? = some x) : OwnI lo hi w' v xs := by
  obtain ⟨a, c, rfl, hc, hx⟩ := h
  refine ⟨a, c, rfl, hc, fun h0 => ?_⟩
  obtain ⟨b, rs, rfl, h1, h2, h3, h4⟩ := hx h0
  exact ⟨b, rs, rfl, h1, h2, hk _ _ (by rw [blk_one _ h0]; simp) h3, h4⟩
theorem OwnM.keepIf {lo hi : Nat} {w w' : World} {v : Value} {ms : List Ms} (h : OwnM lo hi w v ms) (hk : ∀ b x, b ∈ Go.Proofs.Ytokicnopfmokaaa.blk v → w.heap[b]? = some x → w'.heap[b]? = some x) : OwnM lo hi w' v ms := by
  obtain ⟨a, c, rfl, hc, hx⟩ := h
  refine ⟨a, c, rfl, hc, fun h0 => ?_⟩
  obtain ⟨b, rs, rfl, h1, h2, h3, h4⟩ := hx h0
  exact ⟨b, rs, rfl, h1, h2, hk _ _ (by rw [blk_one _ h0]; simp) h3, h4⟩
/-- One of the things is turned where it lies. -/
theorem OwnA.mark {g cap : Nat} {es : List El} {rest : List Value} {lo hi : Nat} {w w' : World} (h : OwnA g cap es rest lo hi w) {k : Nat} (hk : k < es.length) {o' : Ob}
    (hg : w'.heap[g]? = some (.cells (ecells (es.set k ⟨o', (elAt es k).l, (elAt es k).d, (elAt es k).m⟩) ++ rest).toArray 28 (0, 0))) (ho : OwnO lo hi w' (elAt es k).l (elAt es k).d (elAt es k).m o')
    (hother : ∀ b x, b ≠ g → b ∉ blks (elAt es k) → w.heap[b]? = some x → w'.heap[b]? = some x) : OwnA g cap (es.set k ⟨o', (elAt es k).l, (elAt es k).d, (elAt es k).m⟩) rest lo hi w' := by
  have hbl : ∀ i, blks (elAt (es.set k ⟨o', (elAt es k).l, (elAt es k).d, (elAt es k).m⟩) i) = blks (elAt es i) := fun i => by
    by_cases he : k = i
    · subst he; rw [elAt_set_same hk]; rfl
    · rw [elAt_set_other _ _ he]
  refine ⟨hg, by rw [List.length_set]; exact h.cap, h.lo, h.hi, fun i hi0 => ?_, fun i hi0 => ?_, fun i j hij hj => ?_⟩
  · rw [List.length_set] at hi0
    by_cases he : k = i
    · subst he; rw [elAt_set_same hk]; exact ho
    · rw [elAt_set_other _ _ he]
      have hi1 := h.own i hi0
      have hk2 : ∀ b x, b ∈ blks (elAt es i) → w.heap[b]? = some x → w'.heap[b]? = some x := fun b x hb hx => hother b x (fun e => h.ne i hi0 (by rw [← e]; exact hb)) (fun hm => by
        rcases Nat.lt_or_gt_of_ne he with hlt | hgt
        · exact h.apart k i hlt hi0 b hm hb
        · exact h.apart i k hgt hk b hb hm) hx
      exact ⟨hi1.ls.keepIf fun b x hb hx => hk2 b x (by simp [blks, hb]) hx, hi1.ds.keepIf fun b x hb hx => hk2 b x (by simp [blks, hb]) hx, hi1.qs.keepIf fun b x hb hx => hk2 b x (by simp [blks, hb]) hx, hi1.nd⟩
  · rw [List.length_set] at hi0
    rw [hbl]; exact h.ne i hi0
  · rw [List.length_set] at hj
    rw [hbl, hbl]; exact h.apart i j hij hj
/-- Ten cells are written. -/
def w10 (w : World) (g i : Nat) (v0 v1 v2 v3 v4 v5 v6 v7 v8 : Int) (b : Bool) : World := ((((((((((w).setCell ⟨g, i, none⟩ (.int .i64 v0)).setCell ⟨g, i + 1, none⟩ (.int .i64 v1)).setCell ⟨g, i + 2, none⟩ (.int .i64 v2)).setCell ⟨g, i + 3, none⟩ (.int .i64 v3)).setCell ⟨g, i + 4, none⟩ (.int .i64 v4)).setCell ⟨g, i + 5, none⟩ (.int .i64 v5)).setCell ⟨g, i + 6, none⟩ (.int .i64 v6)).setCell ⟨g, i + 7, none⟩ (.int .i64 v7)).setCell ⟨g, i + 8, none⟩ (.int .i64 v8)).setCell ⟨g, i + 9, none⟩ (.bool b)
theorem heap_w10 {w : World} {g : Nat} {t : TypeId} {xs : Array Value} (h : w.heap[g]? = some (.cells xs t (0, 0))) (i : Nat) (v0 v1 v2 v3 v4 v5 v6 v7 v8 : Int) (b : Bool) : (w10 w g i v0 v1 v2 v3 v4 v5 v6 v7 v8 b).heap[g]? = some (.cells (((((((((((xs).setIfInBounds (i) (.int .i64 v0)).setIfInBounds (i + 1) (.int .i64 v1)).setIfInBounds (i + 2) (.int .i64 v2)).setIfInBounds (i + 3) (.int .i64 v3)).setIfInBounds (i + 4) (.int .i64 v4)).setIfInBounds (i + 5) (.int .i64 v5)).setIfInBounds (i + 6) (.int .i64 v6)).setIfInBounds (i + 7) (.int .i64 v7)).setIfInBounds (i + 8) (.int .i64 v8)).setIfInBounds (i + 9) (.bool b)) t (0, 0)) := by
  have h0 := heap_setCell_same w g (i) _ t (.int .i64 v0) h
  have h1 := heap_setCell_same _ g (i + 1) _ t (.int .i64 v1) h0
  have h2 := heap_setCell_same _ g (i + 2) _ t (.int .i64 v2) h1
  have h3 := heap_setCell_same _ g (i + 3) _ t (.int .i64 v3) h2
  have h4 := heap_setCell_same _ g (i + 4) _ t (.int .i64 v4) h3
  have h5 := heap_setCell_same _ g (i + 5) _ t (.int .i64 v5) h4
  have h6 := heap_setCell_same _ g (i + 6) _ t (.int .i64 v6) h5
  have h7 := heap_setCell_same _ g (i + 7) _ t (.int .i64 v7) h6
  have h8 := heap_setCell_same _ g (i + 8) _ t (.int .i64 v8) h7
  have h9 := heap_setCell_same _ g (i + 9) _ t (.bool b) h8
  exact h9
theorem touch_w10 {w : World} {g : Nat} (hg : g < w.heap.size) (i : Nat) (v0 v1 v2 v3 v4 v5 v6 v7 v8 : Int) (b : Bool) : Touch [g] w (w10 w g i v0 v1 v2 v3 v4 v5 v6 v7 v8 b) :=
  ⟨fun k x hk h => by
    have hne : k ≠ g := fun e => hk (by simp [e])
    exact (setCell_keep (setCell_keep (setCell_keep (setCell_keep (setCell_keep (setCell_keep (setCell_keep (setCell_keep (setCell_keep (setCell_keep h hne) hne) hne) hne) hne) hne) hne) hne) hne) hne), fun B w0 hB h => by
    have hg : B ≤ g := hB g (by simp)
    exact (Below.setCell (Below.setCell (Below.setCell (Below.setCell (Below.setCell (Below.setCell (Below.setCell (Below.setCell (Below.setCell (Below.setCell h hg _) hg _) hg _) hg _) hg _) hg _) hg _) hg _) hg _) hg _)⟩
theorem ecells_put10 {es : List El} {i : Nat} (h : i < es.length) (rest : List Value) (o : Ob) : ecells (es.set i ⟨o, (elAt es i).l, (elAt es i).d, (elAt es i).m⟩) ++ rest = (((((((((((ecells es ++ rest).set (i * 13) (.int .i64 o.gen)).set (i * 13 + 1) (.int .i64 o.kind)).set (i * 13 + 2) (.int .i64 o.into)).set (i * 13 + 3) (.int .i64 o.res)).set (i * 13 + 4) (.int .i64 o.unt)).set (i * 13 + 5) (.int .i64 o.pages)).set (i * 13 + 6) (.int .i64 o.wait)).set (i * 13 + 7) (.int .i64 o.got)).set (i * 13 + 8) (.int .i64 o.ran)).set (i * 13 + 9) (.bool o.mark)) := by
  obtain ⟨A, B, hA, h1, h2⟩ := ecells_block h
  rw [h1, h2]
  simp only [List.append_assoc]
  rw [set_behind0 _ _ _ _ hA]
  rw [set_behind _ _ _ _ _ hA, set_behind _ _ _ _ _ hA, set_behind _ _ _ _ _ hA, set_behind _ _ _ _ _ hA, set_behind _ _ _ _ _ hA, set_behind _ _ _ _ _ hA, set_behind _ _ _ _ _ hA, set_behind _ _ _ _ _ hA, set_behind _ _ _ _ _ hA]
  simp [elV]
/-- What ten cells written leave of an arena. -/
theorem OwnA.ten {g cap : Nat} {es : List El} {rest : List Value} {lo hi : Nat} {w : World} (h : OwnA g cap es rest lo hi w) {k : Nat} (hk : k < es.length) (v0 v1 v2 v3 v4 v5 v6 v7 v8 : Int) (b : Bool) :
    (w10 w g (k * 13) v0 v1 v2 v3 v4 v5 v6 v7 v8 b).heap[g]? = some (.cells (ecells (es.set k ⟨⟨v0, v1, v2, v3, v4, v5, v6, v7, v8, b, (elAt es k).o.ls, (elAt es k).o.ds, (elAt es k).o.qs⟩, (elAt es k).l, (elAt es k).d, (elAt es k).m⟩) ++ rest).toArray 28 (0, 0)) := by
  rw [heap_w10 h.at', ecells_put10 hk]
  simp only [List.setIfInBounds_toArray]
theorem cell_of {w : World} {g : Nat} {es : List El} {rest : List Value} (h : w.heap[g]? = some (.cells (ecells es ++ rest).toArray 28 (0, 0))) {i : Nat} (hi' : i < es.length) {j : Nat} (hj : j < 13) : w.cell? ⟨g, i * 13 + j, none⟩ = (elV (elAt es i))[j]? := by
  simp only [World.cell?, h, List.getElem?_toArray]
  exact ecells_at hi' rest hj
/-- What the three calls on a thing's lists leave. -/
theorem lists_marked {lo hi : Nat} {w w1 w2 w3 : World} {l d m : Value} {o o' : Ob} (h : OwnO lo hi w l d m o) (h1 : OwnI lo hi w1 l o'.ls) (t1 : Touch (blk l) w w1) (h2 : OwnI lo hi w2 d o'.ds) (t2 : Touch (blk d) w1 w2) (h3 : OwnM lo hi w3 m o'.qs) (t3 : Touch (blk m) w2 w3) : OwnO lo hi w3 l d m o' := by
  have nd := h.nd
  rw [List.nodup_append, List.nodup_append] at nd
  obtain ⟨⟨_, _, hld⟩, _, hlm⟩ := nd
  refine ⟨h1.keepIf fun b x hb hx => t3.block _ _ (fun hm => hlm b (by simp [hb]) b hm rfl) (t2.block _ _ (fun hm => hld b hb b hm rfl) hx), h2.keepIf fun b x hb hx => t3.block _ _ (fun hm => hlm b (by simp [hb]) b hm rfl) hx, h3, h.nd⟩
theorem apart_ld {lo hi : Nat} {w : World} {l d m : Value} {o : Ob} (h : OwnO lo hi w l d m o) : (∀ b, b ∈ blk d → b ∉ blk l) ∧ (∀ b, b ∈ blk m → b ∉ blk l ∧ b ∉ blk d) := by
  have nd := h.nd
  rw [List.nodup_append, List.nodup_append] at nd
  obtain ⟨⟨_, _, hld⟩, _, hlm⟩ := nd
  exact ⟨fun b hb hl => hld b hl b hb rfl, fun b hb => ⟨fun hl => hlm b (by simp [hl]) b hb rfl, fun hd => hlm b (by simp [hd]) b hb rfl⟩⟩
end Go.Proofs.Ytokicnopfmokaaa
