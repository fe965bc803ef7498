/-
  Arenas: lists of things in memory; the laws' own copies, their size, two alike.
-/
import Derived.Test.YtokicnopfmokaaaObT
namespace Go.Proofs.Ytokicnopfmokaaa
open Go.RowKit
set_option linter.unusedVariables false
set_option maxRecDepth 100000

/-- How many numbers the lists of all things hold. -/
def arN (os : List Ob) : Nat := (os.map obN).sum
theorem arN_cons (o : Ob) (os : List Ob) : arN (o :: os) = obN o + arN os := by simp [arN]
theorem arN_append (a b : List Ob) : arN (a ++ b) = arN a + arN b := by simp [arN]
theorem obAt_in {os : List Ob} {i : Nat} (h : i < os.length) : obAt os i = os[i] := by simp [obAt, List.getD, h]
theorem obAt_le : ∀ (os : List Ob) (i : Nat), obN (obAt os i) ≤ arN os
  | [], i => by simp [obAt, noOb, obN]
  | o :: os, 0 => by rw [arN_cons]; simp [obAt]
  | o :: os, i + 1 => by
    have := obAt_le os i
    rw [arN_cons]
    have e : obAt (o :: os) (i + 1) = obAt os i := by simp [obAt]
    rw [e]; omega
theorem take_ob {os : List Ob} {k : Nat} (h : k < os.length) : os.take (k + 1) = os.take k ++ [obAt os k] := by
  rw [List.take_add_one, List.getElem?_eq_getElem h, obAt_in h]; rfl
theorem arN_take {os : List Ob} {k : Nat} (h : k < os.length) : arN (os.take (k + 1)) = arN (os.take k) + obN (obAt os k) := by
  rw [take_ob h, arN_append]; simp [arN]
theorem arN_take_le (os : List Ob) (k : Nat) : arN (os.take k) ≤ arN os := by
  have := arN_append (os.take k) (os.drop k)
  rw [List.take_append_drop] at this
  omega
/-- A slice of things that reads as 'os'; it may be nil. -/
def IsArena (w : World) (v : Value) (os : List Ob) : Prop :=
  ∃ (a : Option Addr) (cap : Nat), v = .slice a os.length cap ∧ os.length ≤ cap ∧ ∀ i, i < os.length → ∃ p l d m, a = some p ∧ ObCells w (p.add (i * 13)) (obAt os i) l d m ∧ Lists w l d m (obAt os i)
theorem IsArena.on {w w' : World} {v : Value} {os : List Ob} (h : IsArena w v os) (hb : Below w.heap.size w w') : IsArena w' v os := by
  obtain ⟨a, cap, hv, hc, hx⟩ := h
  refine ⟨a, cap, hv, hc, fun i hi => ?_⟩
  obtain ⟨p, l, d, m, hp, h1, h2⟩ := hx i hi
  exact ⟨p, l, d, m, hp, h1.on hb, h2.on hb⟩
theorem IsArena.at {w : World} {a : Option Addr} {n cap : Nat} {os : List Ob} (h : IsArena w (.slice a n cap) os) {i : Nat} (hi : i < os.length) : ∃ p q l d m, a = some p ∧ p.add (i * 13) = q ∧ ObCells w q (obAt os i) l d m ∧ Lists w l d m (obAt os i) := by
  obtain ⟨a', cap', hv, _, hx⟩ := h
  cases hv
  obtain ⟨p, l, d, m, hp, h1, h2⟩ := hx i hi
  exact ⟨p, _, l, d, m, hp, rfl, h1, h2⟩
/-- A thing, and where its lists lie. -/
structure El where
  o : Ob
  l : Value
  d : Value
  m : Value
def noEl : El := ⟨noOb, .slice none 0 0, .slice none 0 0, .slice none 0 0⟩
def elAt (es : List El) (i : Nat) : El := es.getD i noEl
def elV (e : El) : List Value := [.int .i64 e.o.gen, .int .i64 e.o.kind, .int .i64 e.o.into, .int .i64 e.o.res, .int .i64 e.o.unt, .int .i64 e.o.pages, .int .i64 e.o.wait, .int .i64 e.o.got, .int .i64 e.o.ran, .bool e.o.mark, e.l, e.d, e.m]
def ecells (es : List El) : List Value := es.flatMap elV
def arOf (es : List El) : List Ob := es.map El.o
def blks (e : El) : List Nat := blk e.l ++ blk e.d ++ blk e.m
theorem arOf_length (es : List El) : (arOf es).length = es.length := by simp [arOf]
theorem arOf_at (es : List El) (i : Nat) : obAt (arOf es) i = (elAt es i).o := by
  unfold obAt arOf elAt
  by_cases h : i < es.length
  · simp [List.getD, h]
  · simp [List.getD, List.getElem?_eq_none (by omega : es.length ≤ i), noEl]
theorem arOf_set (es : List El) (k : Nat) (e : El) : arOf (es.set k e) = (arOf es).set k e.o := by simp [arOf, List.map_set]
theorem elAt_in {es : List El} {i : Nat} (h : i < es.length) : elAt es i = es[i] := by simp [elAt, List.getD, h]
theorem elAt_set_same {es : List El} {e : El} {i : Nat} (h : i < es.length) : elAt (es.set i e) i = e := by simp [elAt, h]
theorem elAt_set_other (es : List El) (e : El) {i j : Nat} (h : i ≠ j) : elAt (es.set i e) j = elAt es j := by
  unfold elAt List.getD
  rw [List.getElem?_set_ne h]
theorem ecells_append (a b : List El) : ecells (a ++ b) = ecells a ++ ecells b := by simp [ecells]
theorem ecells_cons (e : El) (es : List El) : ecells (e :: es) = elV e ++ ecells es := rfl
theorem ecells_length (es : List El) : (ecells es).length = es.length * 13 := by
  induction es with
  | nil => rfl
  | cons c cs ih => rw [ecells_cons, List.length_append, ih, List.length_cons]; simp [elV]; omega
theorem ecells_block {es : List El} {i : Nat} (h : i < es.length) : ∃ A B, A.length = i * 13 ∧ ecells es = A ++ (elV (elAt es i) ++ B) ∧ ∀ e, ecells (es.set i e) = A ++ (elV e ++ B) := by
  refine ⟨ecells (es.take i), ecells (es.drop (i + 1)), by rw [ecells_length, List.length_take]; congr 1; omega, ?_, fun e => ?_⟩
  · rw [← ecells_cons, ← ecells_append, elAt_in h]
    congr 1
    rw [List.getElem_cons_drop, List.take_append_drop]
  · rw [← ecells_cons, ← ecells_append, List.set_eq_take_append_cons_drop, if_pos h]
theorem set_behind (A B : List Value) (n j : Nat) (u : Value) (h : A.length = n) : (A ++ B).set (n + j) u = A ++ B.set j u := by
  subst h
  rw [List.set_append_right _ _ (by omega)]
  congr 2
  omega
theorem set_behind0 (A B : List Value) (n : Nat) (u : Value) (h : A.length = n) : (A ++ B).set n u = A ++ B.set 0 u := set_behind A B n 0 u h
theorem ecells_put {es : List El} {i : Nat} (h : i < es.length) (rest : List Value) (e : El) : ecells (es.set i e) ++ rest = ((((((((((((((ecells es ++ rest).set (i * 13) (.int .i64 e.o.gen)).set (i * 13 + 1) (.int .i64 e.o.kind)).set (i * 13 + 2) (.int .i64 e.o.into)).set (i * 13 + 3) (.int .i64 e.o.res)).set (i * 13 + 4) (.int .i64 e.o.unt)).set (i * 13 + 5) (.int .i64 e.o.pages)).set (i * 13 + 6) (.int .i64 e.o.wait)).set (i * 13 + 7) (.int .i64 e.o.got)).set (i * 13 + 8) (.int .i64 e.o.ran)).set (i * 13 + 9) (.bool e.o.mark)).set (i * 13 + 10) (e.l)).set (i * 13 + 11) (e.d)).set (i * 13 + 12) (e.m)) := by
  obtain ⟨A, B, hA, h1, h2⟩ := ecells_block h
  rw [h1, h2]
  simp only [List.append_assoc]
  rw [set_behind0 _ _ _ _ hA]
  rw [set_behind _ _ _ _ _ hA, set_behind _ _ _ _ _ hA, set_behind _ _ _ _ _ hA, set_behind _ _ _ _ _ hA, set_behind _ _ _ _ _ hA, set_behind _ _ _ _ _ hA, set_behind _ _ _ _ _ hA, set_behind _ _ _ _ _ hA, set_behind _ _ _ _ _ hA, set_behind _ _ _ _ _ hA, set_behind _ _ _ _ _ hA, set_behind _ _ _ _ _ hA]
  simp [elV]
/-- A thing whose one cell is written. -/
theorem ecells_put1 {es : List El} {i : Nat} (h : i < es.length) (rest : List Value) (e : El) (j : Nat) (u : Value) (hj : j < 13) (he : elV e = (elV (elAt es i)).set j u) : ecells (es.set i e) ++ rest = (ecells es ++ rest).set (i * 13 + j) u := by
  obtain ⟨A, B, hA, h1, h2⟩ := ecells_block h
  rw [h1, h2]
  simp only [List.append_assoc]
  rw [set_behind _ _ _ _ _ hA, he, List.set_append_left _ _ (by simp [elV]; omega)]
theorem ecells_at {es : List El} {i : Nat} (h : i < es.length) (rest : List Value) {j : Nat} (hj : j < 13) : (ecells es ++ rest)[i * 13 + j]? = (elV (elAt es i))[j]? := by
  obtain ⟨A, B, hA, h1, h2⟩ := ecells_block h
  rw [h1, List.append_assoc, List.getElem?_append_right (by omega), List.append_assoc, List.getElem?_append_left (by simp [elV]; omega)]
  congr 1
  omega
/-- An arena of the call's own. -/
structure OwnA (g cap : Nat) (es : List El) (rest : List Value) (l0 h0 : Nat) (w : World) : Prop where
  at' : w.heap[g]? = some (.cells (ecells es ++ rest).toArray 28 (0, 0))
  cap : es.length ≤ cap
  lo : l0 ≤ g
  hi : g < h0
  own : ∀ i, i < es.length → OwnO l0 h0 w (elAt es i).l (elAt es i).d (elAt es i).m (elAt es i).o
  ne : ∀ i, i < es.length → g ∉ blks (elAt es i)
  apart : ∀ i j, i < j → j < es.length → ∀ b, b ∈ blks (elAt es i) → b ∉ blks (elAt es j)
theorem OwnA.on {g cap : Nat} {es : List El} {rest : List Value} {lo hi : Nat} {w w' : World} (h : OwnA g cap es rest lo hi w) (hb : Below w.heap.size w w') : OwnA g cap es rest lo hi w' :=
  ⟨keep h.at' hb, h.cap, h.lo, h.hi, fun i hi => (h.own i hi).on hb (Nat.le_refl _) (Nat.le_refl _), h.ne, h.apart⟩
theorem OwnA.wide {g cap : Nat} {es : List El} {rest : List Value} {lo hi lo' hi' : Nat} {w : World} (h : OwnA g cap es rest lo hi w) (h1 : lo' ≤ lo) (h2 : hi ≤ hi') : OwnA g cap es rest lo' hi' w :=
  ⟨h.at', h.cap, Nat.le_trans h1 h.lo, Nat.lt_of_lt_of_le h.hi h2, fun i hi => (h.own i hi).move (fun _ _ _ _ x => x) h1 h2, h.ne, h.apart⟩
theorem OwnA.cells {g cap : Nat} {es : List El} {rest : List Value} {lo hi : Nat} {w : World} (h : OwnA g cap es rest lo hi w) {i : Nat} (hi' : i < es.length) : ObCells w ⟨g, i * 13, none⟩ (elAt es i).o (elAt es i).l (elAt es i).d (elAt es i).m := by
  have e : ∀ j, j < 13 → w.cell? ⟨g, i * 13 + j, none⟩ = (elV (elAt es i))[j]? := fun j hj => by
    simp only [World.cell?, h.at', List.getElem?_toArray]
    exact ecells_at hi' rest hj
  exact ⟨e 0 (by decide), e 1 (by decide), e 2 (by decide), e 3 (by decide), e 4 (by decide), e 5 (by decide), e 6 (by decide), e 7 (by decide), e 8 (by decide), e 9 (by decide), e 10 (by decide), e 11 (by decide), e 12 (by decide)⟩
theorem OwnA.free {g cap : Nat} {es : List El} {rest : List Value} {lo hi : Nat} {w : World} (h : OwnA g cap es rest lo hi w) (i : Nat) : w.frozen? ⟨g, i, none⟩ = false := by
  simp [World.frozen?, h.at']
theorem OwnA.arena {g cap : Nat} {es : List El} {rest : List Value} {lo hi : Nat} {w : World} (h : OwnA g cap es rest lo hi w) : IsArena w (.slice (some ⟨g, 0, none⟩) es.length cap) (arOf es) := by
  refine ⟨some ⟨g, 0, none⟩, cap, by rw [arOf_length], by rw [arOf_length]; exact h.cap, fun i hi' => ?_⟩
  rw [arOf_length] at hi'
  rw [arOf_at]
  exact ⟨_, _, _, _, rfl, by rw [add_head]; exact h.cells hi', (h.own i hi').lists⟩
theorem keep13 {w : World} {g k : Nat} {x : Obj} (h : w.heap[k]? = some x) (hne : k ≠ g) (i : Nat) (e : El) : (w13 w g i e.o e.l e.d e.m).heap[k]? = some x := heap_w13_other h hne i e.o e.l e.d e.m
/-- Lists that lie in none of the blocks but their own are kept by what is written into another. -/
theorem ownO_keepBut {lo hi : Nat} {w w' : World} {l d m : Value} {o : Ob} (h : OwnO lo hi w l d m o) {g : Nat} (hg : g ∉ blk l ++ blk d ++ blk m) (hk : ∀ k x, k ≠ g → w.heap[k]? = some x → w'.heap[k]? = some x) : OwnO lo hi w' l d m o := by
  simp only [List.mem_append, not_or] at hg
  obtain ⟨⟨a, c, rfl, ha, hx⟩, ⟨a', c', rfl, ha', hx'⟩, ⟨a'', c'', rfl, ha'', hx''⟩, nd⟩ := h
  refine ⟨⟨a, c, rfl, ha, fun h0 => ?_⟩, ⟨a', c', rfl, ha', fun h0 => ?_⟩, ⟨a'', c'', rfl, ha'', fun h0 => ?_⟩, nd⟩
  · obtain ⟨b, rs, rfl, h1, h2, h3, h4⟩ := hx h0
    refine ⟨b, rs, rfl, h1, h2, hk _ _ (fun e => hg.1.1 ?_) h3, h4⟩
    rw [blk_one _ h0, e]; simp
  · obtain ⟨b, rs, rfl, h1, h2, h3, h4⟩ := hx' h0
    refine ⟨b, rs, rfl, h1, h2, hk _ _ (fun e => hg.1.2 ?_) h3, h4⟩
    rw [blk_one _ h0, e]; simp
  · obtain ⟨b, rs, rfl, h1, h2, h3, h4⟩ := hx'' h0
    refine ⟨b, rs, rfl, h1, h2, hk _ _ (fun e => hg.2 ?_) h3, h4⟩
    rw [blk_one _ h0, e]; simp
/-- A new thing in an elder one's place. -/
theorem OwnA.put {g cap : Nat} {es : List El} {rest : List Value} {lo hi hi' : Nat} {w : World} (h : OwnA g cap es rest lo hi w) {e : El} (hf : OwnO hi hi' w e.l e.d e.m e.o) (hh : hi ≤ hi') {k : Nat} (hk : k < es.length) :
    OwnA g cap (es.set k e) rest lo hi' (w13 w g (k * 13) e.o e.l e.d e.m) := by
  have hb : ∀ b, b ∈ blks e → hi ≤ b := fun b hb => (hf.blk hb).1
  have hgf : g ∉ blks e := fun hg => by have := hb g hg; have := h.hi; omega
  have hother : ∀ k' x, k' ≠ g → w.heap[k']? = some x → (w13 w g (k * 13) e.o e.l e.d e.m).heap[k']? = some x := fun k' x hne hx => keep13 hx hne _ e
  have hlh := h.lo
  have hhi := h.hi
  refine ⟨?_, by rw [List.length_set]; exact h.cap, h.lo, by omega, fun i hi0 => ?_, fun i hi0 => ?_, fun i j hij hj => ?_⟩
  · rw [heap_w13 h.at', ecells_put hk]
    simp only [List.setIfInBounds_toArray]
  · rw [List.length_set] at hi0
    by_cases he : k = i
    · subst he
      rw [elAt_set_same hk]
      exact (ownO_keepBut hf hgf hother).move (fun _ _ _ _ x => x) (by omega) (Nat.le_refl _)
    · rw [elAt_set_other _ _ he]
      exact (ownO_keepBut (h.own i hi0) (h.ne i hi0) hother).move (fun _ _ _ _ x => x) (Nat.le_refl _) hh
  · rw [List.length_set] at hi0
    by_cases he : k = i
    · subst he
      rw [elAt_set_same hk]; exact hgf
    · rw [elAt_set_other _ _ he]; exact h.ne i hi0
  · rw [List.length_set] at hj
    by_cases he : k = i
    · subst he
      rw [elAt_set_same hk, elAt_set_other _ _ (by omega)]
      intro b h1 h2
      have := hb b h1
      have := ((h.own j hj).blk h2).2.1
      omega
    · by_cases he' : k = j
      · subst he'
        rw [elAt_set_same hk, elAt_set_other _ _ he]
        intro b h1 h2
        have := hb b h2
        have := ((h.own i (by omega)).blk h1).2.1
        omega
      · rw [elAt_set_other _ _ he, elAt_set_other _ _ he']; exact h.apart i j hij hj
theorem infoObj : (Try.prog.info? 28).map (fun i => (i.zero, i.size, i.bytes)) = some (some (obV noOb (.slice none 0 0) (.slice none 0 0) (.slice none 0 0)), 13, 152) := by kernel_rfl
theorem made_obs (n : Nat) : (madeCells (elV noEl).toArray (n * 13)).toList = ecells (List.replicate n noEl) := by
  induction n with
  | zero => simp [madeCells, ecells]
  | succ n ih =>
    have h1 : (madeCells (elV noEl).toArray ((n + 1) * 13)).toList = (madeCells (elV noEl).toArray (n * 13)).toList ++ elV noEl := by
      rw [show (n + 1) * 13 = n * 13 + 1 + 1 + 1 + 1 + 1 + 1 + 1 + 1 + 1 + 1 + 1 + 1 + 1 by omega]
      unfold madeCells
      simp [elV, Array.range_succ, show (n * 13 + 1) % 13 = 1 by omega, show (n * 13 + 2) % 13 = 2 by omega, show (n * 13 + 3) % 13 = 3 by omega, show (n * 13 + 4) % 13 = 4 by omega, show (n * 13 + 5) % 13 = 5 by omega, show (n * 13 + 6) % 13 = 6 by omega, show (n * 13 + 7) % 13 = 7 by omega, show (n * 13 + 8) % 13 = 8 by omega, show (n * 13 + 9) % 13 = 9 by omega, show (n * 13 + 10) % 13 = 10 by omega, show (n * 13 + 11) % 13 = 11 by omega, show (n * 13 + 12) % 13 = 12 by omega]
    rw [h1, ih, List.replicate_succ', ecells_append]
    simp [ecells]
theorem make_obs (n : Nat) (h : n ≤ 1048576) (w : World) :
    (Instr.makeSlice 24 (.int .i64 (n : Int)) (.int .i64 (n : Int))).run Try.prog w = .ok (.slice (some ⟨w.heap.size, 0, none⟩) n n) (w.alloc (.cells (ecells (List.replicate n noEl)).toArray 28 (0, 0))) := by
  obtain ⟨i, hi, hzz⟩ := Option.map_eq_some_iff.1 infoObj
  simp only [Prod.mk.injEq] at hzz
  obtain ⟨hz, hs, hb⟩ := hzz
  have hr := run_make (P := Try.prog) w 24 28 i _ Try.underlying24 hi hz .i64 .i64 n n (by omega) (Int.le_refl _) (by rw [hb]; omega) (by omega)
  simp only [Int.toNat_natCast, hs] at hr
  have h2 : madeCells (obV noOb (.slice none 0 0) (.slice none 0 0) (.slice none 0 0)).cells (n * 13) = (ecells (List.replicate n noEl)).toArray := by
    apply Array.toList_inj.1
    exact made_obs n
  rw [h2] at hr
  exact hr
theorem elAt_fill (n i : Nat) : elAt (List.replicate n noEl) i = noEl := by
  unfold elAt List.getD
  by_cases h : i < n
  · simp [h]
  · simp [h]
theorem ownO_nil (lo hi : Nat) (w : World) : OwnO lo hi w (.slice none 0 0) (.slice none 0 0) (.slice none 0 0) noOb :=
  ⟨⟨none, 0, rfl, Nat.le_refl _, fun h => absurd rfl h⟩, ⟨none, 0, rfl, Nat.le_refl _, fun h => absurd rfl h⟩, ⟨none, 0, rfl, Nat.le_refl _, fun h => absurd rfl h⟩, by simp [blk]⟩
theorem ownA_zero (w : World) (n : Nat) : OwnA w.heap.size n (List.replicate n noEl) [] w.heap.size (w.alloc (.cells (ecells (List.replicate n noEl)).toArray 28 (0, 0))).heap.size (w.alloc (.cells (ecells (List.replicate n noEl)).toArray 28 (0, 0))) := by
  refine ⟨by rw [List.append_nil]; exact heap_alloc_new w _, by simp, Nat.le_refl _, by simp, fun i hi => ?_, fun i hi => ?_, fun i j _ hj b hb => ?_⟩
  · rw [elAt_fill]; exact ownO_nil _ _ _
  · rw [elAt_fill]; simp [blks, noEl, blk]
  · rw [elAt_fill] at hb; simp [blks, noEl, blk] at hb
/-- What is left of the room behind all of them. -/
def szA (os : List Ob) (left : Int) : Int := if ((os.length : Int) + arN os) ≤ left then left - os.length - arN os else -1
theorem szA_yes {os : List Ob} {left : Int} (h : ((os.length : Int) + arN os) ≤ left) : szA os left = left - os.length - arN os := if_pos h
theorem szA_no {os : List Ob} {left : Int} (h : ¬ ((os.length : Int) + arN os) ≤ left) : szA os left = -1 := if_neg h
/-- No list is longer than a machine's number tells. -/
def Wide (os : List Ob) : Prop := ∀ i, (obAt os i).ls.length ≤ 9223372036854775807 ∧ (obAt os i).ds.length ≤ 9223372036854775807 ∧ (obAt os i).qs.length ≤ 9223372036854775807
/-- What of cells that are to be written must be known. -/
structure Spare13 (w : World) (g i : Nat) : Prop where
  c0 : ∃ u, w.cell? ⟨g, i, none⟩ = some u
  c1 : ∃ u, w.cell? ⟨g, i + 1, none⟩ = some u
  c2 : ∃ u, w.cell? ⟨g, i + 2, none⟩ = some u
  c3 : ∃ u, w.cell? ⟨g, i + 3, none⟩ = some u
  c4 : ∃ u, w.cell? ⟨g, i + 4, none⟩ = some u
  c5 : ∃ u, w.cell? ⟨g, i + 5, none⟩ = some u
  c6 : ∃ u, w.cell? ⟨g, i + 6, none⟩ = some u
  c7 : ∃ u, w.cell? ⟨g, i + 7, none⟩ = some u
  c8 : ∃ u, w.cell? ⟨g, i + 8, none⟩ = some u
  c9 : ∃ u, w.cell? ⟨g, i + 9, none⟩ = some u
  c10 : ∃ u, w.cell? ⟨g, i + 10, none⟩ = some u
  c11 : ∃ u, w.cell? ⟨g, i + 11, none⟩ = some u
  c12 : ∃ u, w.cell? ⟨g, i + 12, none⟩ = some u
theorem ObCells.spare {w : World} {g i : Nat} {o : Ob} {l d m : Value} (h : ObCells w ⟨g, i, none⟩ o l d m) : Spare13 w g i := ⟨⟨_, h.c0⟩, ⟨_, h.c1⟩, ⟨_, h.c2⟩, ⟨_, h.c3⟩, ⟨_, h.c4⟩, ⟨_, h.c5⟩, ⟨_, h.c6⟩, ⟨_, h.c7⟩, ⟨_, h.c8⟩, ⟨_, h.c9⟩, ⟨_, h.c10⟩, ⟨_, h.c11⟩, ⟨_, h.c12⟩⟩
/-- The first k are copied. -/
def fillE (fs : List El) (n : Nat) : List El := fs ++ List.replicate (n - fs.length) noEl
theorem fillE_length {fs : List El} {n : Nat} (h : fs.length ≤ n) : (fillE fs n).length = n := by simp [fillE]; omega
theorem fillE_set {fs : List El} {n : Nat} (e : El) (h : fs.length < n) : (fillE fs n).set fs.length e = fillE (fs ++ [e]) n := by
  unfold fillE
  rw [List.set_append_right _ _ (Nat.le_refl _), Nat.sub_self, List.length_append, List.length_singleton, show n - fs.length = (n - (fs.length + 1)) + 1 by omega, List.replicate_succ, List.set_cons_zero, List.append_assoc]
  rfl
theorem fillE_end {fs : List El} : fillE fs fs.length = fs := by simp [fillE]
end Go.Proofs.Ytokicnopfmokaaa
