/-
  Lists of trees: what is read of one, the laws' own copies, two alike. Lists of trees: the laws' own copies, two alike.
-/
import Derived.Test.YtfcenombphodbaaDoorCallR
import Derived.Lib.LazyBuf
namespace Go.Proofs.YtfcenombphodbaaDoor
open Go.RowKit
set_option linter.unusedVariables false
set_option maxRecDepth 100000

def treeAt (tss : List (List Re)) (i : Nat) : List Re := tss.getD i []
/-- All places of all trees, and the trees. -/
def woodN (tss : List (List Re)) : Nat := (tss.map List.length).sum
theorem woodN_cons (ts : List Re) (tss : List (List Re)) : woodN (ts :: tss) = ts.length + woodN tss := by simp [woodN]
theorem woodN_append (a b : List (List Re)) : woodN (a ++ b) = woodN a + woodN b := by simp [woodN]
theorem treeAt_in {tss : List (List Re)} {i : Nat} (h : i < tss.length) : treeAt tss i = tss[i] := by simp [treeAt, List.getD, h]
theorem treeAt_le : ∀ (tss : List (List Re)) (i : Nat), (treeAt tss i).length ≤ woodN tss
  | [], i => by simp [treeAt]
  | ts :: tss, 0 => by rw [woodN_cons]; simp [treeAt]
  | ts :: tss, i + 1 => by
    have := treeAt_le tss i
    rw [woodN_cons]
    have e : treeAt (ts :: tss) (i + 1) = treeAt tss i := by simp [treeAt]
    rw [e]; omega
theorem take_tree {tss : List (List Re)} {k : Nat} (h : k < tss.length) : tss.take (k + 1) = tss.take k ++ [treeAt tss k] := by
  rw [List.take_add_one, List.getElem?_eq_getElem h, treeAt_in h]; rfl
theorem woodN_take {tss : List (List Re)} {k : Nat} (h : k < tss.length) : woodN (tss.take (k + 1)) = woodN (tss.take k) + (treeAt tss k).length := by
  rw [take_tree h, woodN_append]; simp [woodN]
theorem woodN_take_le (tss : List (List Re)) (k : Nat) : woodN (tss.take k) ≤ woodN tss := by
  have := woodN_append (tss.take k) (tss.drop k)
  rw [List.take_append_drop] at this
  omega
/-- A slice of trees that reads as 'tss'; a list may be nil. -/
def IsTrees (w : World) (v : Value) (tss : List (List Re)) : Prop :=
  ∃ (a : Option Addr) (cap : Nat), v = .slice a tss.length cap ∧ tss.length ≤ cap ∧ ∀ i, i < tss.length → ∃ p u, a = some p ∧ w.cell? (p.add i) = some u ∧ IsTree w u (treeAt tss i)
theorem IsTrees.on {w w' : World} {v : Value} {tss : List (List Re)} (h : IsTrees w v tss) (hb : Below w.heap.size w w') : IsTrees w' v tss := by
  obtain ⟨a, cap, hv, hc, hx⟩ := h
  refine ⟨a, cap, hv, hc, fun i hi => ?_⟩
  obtain ⟨p, u, hp, h1, h2⟩ := hx i hi
  exact ⟨p, u, hp, (hb.cell (World.block_lt_of_cell? w _ h1)).trans h1, h2.on hb⟩
/-- The same, where none is nil. -/
def IsWood (w : World) (v : Value) (tss : List (List Re)) : Prop :=
  ∃ (p : Addr) (cap : Nat), v = .slice (some p) tss.length cap ∧ tss.length ≤ cap ∧ ∀ i, i < tss.length → ∃ q c, w.cell? (p.add i) = some (.slice (some q) (treeAt tss i).length c) ∧ IsTree w (.slice (some q) (treeAt tss i).length c) (treeAt tss i)
theorem IsWood.on {w w' : World} {v : Value} {tss : List (List Re)} (h : IsWood w v tss) (hb : Below w.heap.size w w') : IsWood w' v tss := by
  obtain ⟨p, cap, hv, hc, hx⟩ := h
  refine ⟨p, cap, hv, hc, fun i hi => ?_⟩
  obtain ⟨q, c, h1, h2⟩ := hx i hi
  exact ⟨q, c, (hb.cell (World.block_lt_of_cell? w _ h1)).trans h1, h2.on hb⟩
theorem IsWood.trees {w : World} {v : Value} {tss : List (List Re)} (h : IsWood w v tss) : IsTrees w v tss := by
  obtain ⟨p, cap, hv, hc, hx⟩ := h
  refine ⟨some p, cap, hv, hc, fun i hi => ?_⟩
  obtain ⟨q, c, h1, h2⟩ := hx i hi
  exact ⟨p, _, rfl, h1, h2⟩

/-- A tree of the call's own, and where it lies. -/
structure Leaf where
  g : Nat
  c : Nat
  ts : List Re
  rs : List Value
def noLeaf : Leaf := ⟨0, 0, [], []⟩
def leafAt (fs : List Leaf) (i : Nat) : Leaf := fs.getD i noLeaf
def leafV (f : Leaf) : Value := .slice (some ⟨f.g, 0, none⟩) f.ts.length f.c
def leafTs (fs : List Leaf) : List (List Re) := fs.map Leaf.ts
theorem leafTs_length (fs : List Leaf) : (leafTs fs).length = fs.length := by simp [leafTs]
theorem leafTs_at (fs : List Leaf) (i : Nat) : treeAt (leafTs fs) i = (leafAt fs i).ts := by
  unfold treeAt leafTs leafAt
  by_cases h : i < fs.length
  · simp [List.getD, h]
  · simp [List.getD, List.getElem?_eq_none (by omega : fs.length ≤ i), noLeaf]
theorem leafAt_in {fs : List Leaf} {i : Nat} (h : i < fs.length) : leafAt fs i = fs[i] := by simp [leafAt, List.getD, h]
theorem leafAt_push_old {fs : List Leaf} {f : Leaf} {i : Nat} (h : i < fs.length) : leafAt (fs ++ [f]) i = leafAt fs i := by
  unfold leafAt List.getD
  rw [List.getElem?_append_left h]
theorem leafAt_push_new (fs : List Leaf) (f : Leaf) : leafAt (fs ++ [f]) fs.length = f := by simp [leafAt]
theorem leafAt_set_same {fs : List Leaf} {f : Leaf} {i : Nat} (h : i < fs.length) : leafAt (fs.set i f) i = f := by simp [leafAt, h]
theorem leafAt_set_other (fs : List Leaf) (f : Leaf) {i j : Nat} (h : i ≠ j) : leafAt (fs.set i f) j = leafAt fs j := by
  unfold leafAt List.getD
  rw [List.getElem?_set_ne h]
/-- Trees of the call's own. -/
structure OwnW (g cap : Nat) (fs : List Leaf) (rest : List Value) (l0 h0 : Nat) (w : World) : Prop where
  at' : w.heap[g]? = some (.cells ((fs.map leafV) ++ rest).toArray 34 (0, 0))
  cap : fs.length ≤ cap
  lo : l0 ≤ g
  hi : g < h0
  own : ∀ i, i < fs.length → OwnT (leafAt fs i).g (leafAt fs i).c (leafAt fs i).ts (leafAt fs i).rs l0 h0 w
  ne : ∀ i, i < fs.length → (leafAt fs i).g ≠ g
  apart : ∀ i j, i < j → j < fs.length → (leafAt fs i).g ≠ (leafAt fs j).g
theorem OwnW.on {g cap : Nat} {fs : List Leaf} {rest : List Value} {lo hi : Nat} {w w' : World} (h : OwnW g cap fs rest lo hi w) (hb : Below w.heap.size w w') : OwnW g cap fs rest lo hi w' :=
  ⟨keep h.at' hb, h.cap, h.lo, h.hi, fun i hi => (h.own i hi).on hb, h.ne, h.apart⟩
theorem OwnW.by' {g cap : Nat} {fs : List Leaf} {rest : List Value} {lo hi : Nat} {w w' : World} {row : Option Nat} (h : OwnW g cap fs rest lo hi w) (hg : w.grownBy w' row) (hk : ∀ k, row = some k → k < lo ∨ hi ≤ k) : OwnW g cap fs rest lo hi w' :=
  ⟨grown_kept hg h.at' fun e => by have := hk g e; have := h.lo; have := h.hi; omega, h.cap, h.lo, h.hi, fun i hi => (h.own i hi).by' hg hk, h.ne, h.apart⟩
theorem OwnW.wide {g cap : Nat} {fs : List Leaf} {rest : List Value} {lo hi lo' hi' : Nat} {w : World} (h : OwnW g cap fs rest lo hi w) (h1 : lo' ≤ lo) (h2 : hi ≤ hi') : OwnW g cap fs rest lo' hi' w :=
  ⟨h.at', h.cap, Nat.le_trans h1 h.lo, Nat.lt_of_lt_of_le h.hi h2, fun i hi => ⟨(h.own i hi).at', (h.own i hi).cap, Nat.le_trans h1 (h.own i hi).lo, Nat.lt_of_lt_of_le (h.own i hi).hi h2⟩, h.ne, h.apart⟩
theorem OwnW.more {g cap : Nat} {fs : List Leaf} {rest : List Value} {lo hi : Nat} {w : World} (h : OwnW g cap fs rest lo hi w) : OwnW g cap fs rest lo w.heap.size w :=
  ⟨h.at', h.cap, h.lo, lt_of_block h.at', fun i hi => (h.own i hi).more, h.ne, h.apart⟩
theorem OwnW.cell {g cap : Nat} {fs : List Leaf} {rest : List Value} {lo hi : Nat} {w : World} (h : OwnW g cap fs rest lo hi w) {i : Nat} (hi' : i < fs.length) : w.cell? ⟨g, i, none⟩ = some (leafV (leafAt fs i)) := by
  simp only [World.cell?, h.at']
  rw [leafAt_in hi']
  simp only [List.getElem?_toArray]
  rw [List.getElem?_append_left (by simpa using hi')]
  simp [hi']
theorem OwnW.free {g cap : Nat} {fs : List Leaf} {rest : List Value} {lo hi : Nat} {w : World} (h : OwnW g cap fs rest lo hi w) (i : Nat) : w.frozen? ⟨g, i, none⟩ = false := by
  simp [World.frozen?, h.at']
theorem OwnW.wood {g cap : Nat} {fs : List Leaf} {rest : List Value} {lo hi : Nat} {w : World} (h : OwnW g cap fs rest lo hi w) : IsWood w (.slice (some ⟨g, 0, none⟩) fs.length cap) (leafTs fs) := by
  refine ⟨⟨g, 0, none⟩, cap, by rw [leafTs_length], by rw [leafTs_length]; exact h.cap, fun i hi' => ?_⟩
  rw [leafTs_length] at hi'
  rw [leafTs_at, add_head]
  exact ⟨_, _, h.cell hi', (h.own i hi').tree⟩
/-- A new tree is laid into the first spare place. -/
theorem OwnW.push {g cap : Nat} {fs : List Leaf} {v : Value} {rest : List Value} {lo hi hi' : Nat} {w : World} (h : OwnW g cap fs (v :: rest) lo hi w) {f : Leaf} (hf : OwnT f.g f.c f.ts f.rs hi hi' w) (hc : fs.length < cap) :
    OwnW g cap (fs ++ [f]) rest lo hi' (w.setCell ⟨g, fs.length, none⟩ (leafV f)) := by
  have hlh : hi ≤ hi' := by have := hf.lo; have := hf.hi; omega
  have hgf : f.g ≠ g := by have := hf.lo; have := h.hi; omega
  have h1 := heap_setCell_same w g fs.length _ 34 (leafV f) h.at'
  have hset : ((fs.map leafV ++ v :: rest).toArray.setIfInBounds fs.length (leafV f)) = ((fs ++ [f]).map leafV ++ rest).toArray := by
    rw [List.setIfInBounds_toArray, List.set_append_right _ _ (by simp)]
    simp
  rw [hset] at h1
  have hother : ∀ k o, w.heap[k]? = some o → k ≠ g → (w.setCell ⟨g, fs.length, none⟩ (leafV f)).heap[k]? = some o := fun k o hk hne => by
    rw [heap_setCell_other _ _ _ _ (by simpa using hne)]; exact hk
  refine ⟨h1, by simp; omega, h.lo, Nat.lt_of_lt_of_le h.hi hlh, fun i hi0 => ?_, fun i hi0 => ?_, fun i j hij hj => ?_⟩
  · rw [List.length_append, List.length_singleton] at hi0
    by_cases hlt : i < fs.length
    · rw [leafAt_push_old hlt]
      have ho := h.own i hlt
      exact ⟨hother _ _ ho.at' (h.ne i hlt), ho.cap, ho.lo, Nat.lt_of_lt_of_le ho.hi hlh⟩
    · obtain rfl : i = fs.length := by omega
      rw [leafAt_push_new]
      exact ⟨hother _ _ hf.at' hgf, hf.cap, by have := hf.lo; have := h.lo; have := h.hi; omega, hf.hi⟩
  · rw [List.length_append, List.length_singleton] at hi0
    by_cases hlt : i < fs.length
    · rw [leafAt_push_old hlt]; exact h.ne i hlt
    · obtain rfl : i = fs.length := by omega
      rw [leafAt_push_new]; exact hgf
  · rw [List.length_append, List.length_singleton] at hj
    by_cases hlt : j < fs.length
    · rw [leafAt_push_old hlt, leafAt_push_old (by omega)]; exact h.apart i j hij hlt
    · obtain rfl : j = fs.length := by omega
      rw [leafAt_push_new, leafAt_push_old hij]
      have := (h.own i hij).hi
      have := hf.lo
      omega
/-- A new tree in an elder one's place. -/
theorem OwnW.put {g cap : Nat} {fs : List Leaf} {rest : List Value} {lo hi hi' : Nat} {w : World} (h : OwnW g cap fs rest lo hi w) {f : Leaf} (hf : OwnT f.g f.c f.ts f.rs hi hi' w) {k : Nat} (hk : k < fs.length) :
    OwnW g cap (fs.set k f) rest lo hi' (w.setCell ⟨g, k, none⟩ (leafV f)) := by
  have hlh : hi ≤ hi' := by have := hf.lo; have := hf.hi; omega
  have hgf : f.g ≠ g := by have := hf.lo; have := h.hi; omega
  have h1 := heap_setCell_same w g k _ 34 (leafV f) h.at'
  have hset : ((fs.map leafV ++ rest).toArray.setIfInBounds k (leafV f)) = ((fs.set k f).map leafV ++ rest).toArray := by
    rw [List.setIfInBounds_toArray, List.set_append_left _ _ (by simpa using hk), List.map_set]
  rw [hset] at h1
  have hother : ∀ k' o, w.heap[k']? = some o → k' ≠ g → (w.setCell ⟨g, k, none⟩ (leafV f)).heap[k']? = some o := fun k' o hk' hne => by
    rw [heap_setCell_other _ _ _ _ (by simpa using hne)]; exact hk'
  refine ⟨h1, by simp; exact h.cap, h.lo, Nat.lt_of_lt_of_le h.hi hlh, fun i hi0 => ?_, fun i hi0 => ?_, fun i j hij hj => ?_⟩
  · rw [List.length_set] at hi0
    by_cases he : k = i
    · subst he
      rw [leafAt_set_same hk]
      exact ⟨hother _ _ hf.at' hgf, hf.cap, by have := hf.lo; have := h.lo; have := h.hi; omega, hf.hi⟩
    · rw [leafAt_set_other _ _ he]
      have ho := h.own i hi0
      exact ⟨hother _ _ ho.at' (h.ne i hi0), ho.cap, ho.lo, Nat.lt_of_lt_of_le ho.hi hlh⟩
  · rw [List.length_set] at hi0
    by_cases he : k = i
    · subst he
      rw [leafAt_set_same hk]; exact hgf
    · rw [leafAt_set_other _ _ he]; exact h.ne i hi0
  · rw [List.length_set] at hj
    have hfl := hf.lo
    by_cases he : k = i
    · subst he
      rw [leafAt_set_same hk, leafAt_set_other _ _ (by omega)]
      have := (h.own j hj).hi
      omega
    · by_cases he' : k = j
      · subst he'
        rw [leafAt_set_same hk, leafAt_set_other _ _ he]
        have := (h.own i (by omega)).hi
        omega
      · rw [leafAt_set_other _ _ he, leafAt_set_other _ _ he']; exact h.apart i j hij hj
theorem leafTs_set (fs : List Leaf) (k : Nat) (f : Leaf) : leafTs (fs.set k f) = (leafTs fs).set k f.ts := by simp [leafTs, List.map_set]
theorem leafTs_push (fs : List Leaf) (f : Leaf) : leafTs (fs ++ [f]) = leafTs fs ++ [f.ts] := by simp [leafTs]
theorem infoTree : (Tryd.prog.info? 34).map (fun i => (i.zero, i.size, i.bytes)) = some (some (.agg #[.slice none 0 0]), 1, 24) := by kernel_rfl

/-- What is left when all trees and their places are taken. -/
def szW (left : Int) : List (List Re) → Int
  | [] => left
  | ts :: tss => if (ts.length : Int) ≤ left then szW (left - ts.length) tss else -1
theorem szW_fits : ∀ (tss : List (List Re)) (left : Int), (woodN tss : Int) ≤ left → szW left tss = left - woodN tss
  | [], left, _ => by simp [szW, woodN]
  | ts :: tss, left, h => by
    rw [woodN_cons] at h ⊢
    unfold szW
    rw [if_pos (by omega), szW_fits tss _ (by omega)]
    omega
theorem szW_not : ∀ (tss : List (List Re)) (left : Int), 0 ≤ left → left < (woodN tss : Int) → szW left tss = -1
  | [], left, h0, h => by simp [woodN] at h; omega
  | ts :: tss, left, h0, h => by
    rw [woodN_cons] at h
    unfold szW
    split
    · exact szW_not tss _ (by omega) (by omega)
    · rfl
/-- What is left behind the first k of them. -/
def szK (left : Int) (tss : List (List Re)) (k : Nat) : Int := left - woodN (tss.take k)
end Go.Proofs.YtfcenombphodbaaDoor
namespace Go.Proofs.YtfcenombphodbaaDoor
open Go.RowKit
set_option linter.unusedVariables false
set_option maxRecDepth 100000

theorem bcell {W w1 : World} (hb : Below W.heap.size W w1) : (∀ b o, b < W.heap.size → w1.cell? ⟨b, o, none⟩ = W.cell? ⟨b, o, none⟩) ∧ (∀ b o, b < W.heap.size → w1.frozen? ⟨b, o, none⟩ = W.frozen? ⟨b, o, none⟩) :=
  ⟨fun b o h => hb.cell (p := ⟨b, o, none⟩) h, fun b o h => hb.frozen (p := ⟨b, o, none⟩) h⟩
theorem setCell_keep {w : World} {g k o : Nat} {v : Value} {x : Obj} (h : w.heap[k]? = some x) (hne : k ≠ g) : (w.setCell ⟨g, o, none⟩ v).heap[k]? = some x := by
  rw [heap_setCell_other _ _ _ _ (by simpa using hne)]; exact h
theorem made_wood (n : Nat) : (madeCells #[Value.slice none 0 0] (n * 1)).toList = List.replicate n (Value.slice none 0 0) := by
  induction n with
  | zero => simp [madeCells]
  | succ n ih =>
    have h1 : (madeCells #[Value.slice none 0 0] ((n + 1) * 1)).toList = (madeCells #[Value.slice none 0 0] (n * 1)).toList ++ [.slice none 0 0] := by
      rw [show (n + 1) * 1 = n * 1 + 1 by omega]
      unfold madeCells
      simp [Array.range_succ, Nat.mod_one]
    rw [h1, ih, List.replicate_succ']
theorem make_wood (n : Nat) (h : n ≤ 4398046511104) (w : World) :
    (Instr.makeSlice 24 (.int .i64 (n : Int)) (.int .i64 (n : Int))).run Tryd.prog w = .ok (.slice (some ⟨w.heap.size, 0, none⟩) n n) (w.alloc (.cells (List.replicate n (Value.slice none 0 0)).toArray 34 (0, 0))) := by
  obtain ⟨i, hi, hzz⟩ := Option.map_eq_some_iff.1 infoTree
  simp only [Prod.mk.injEq] at hzz
  obtain ⟨hz, hs, hb⟩ := hzz
  have hr := run_make (P := Tryd.prog) w 24 34 i _ Tryd.underlying24 hi hz .i64 .i64 n n (by omega) (Int.le_refl _) (by rw [hb]; omega) (by omega)
  simp only [Int.toNat_natCast, hs] at hr
  have h2 : madeCells (Value.agg #[.slice none 0 0]).cells (n * 1) = (List.replicate n (Value.slice none 0 0)).toArray := by
    apply Array.toList_inj.1
    exact made_wood n
  rw [h2] at hr
  exact hr
/-- What a call that answers trees of its own leaves. -/
def WoodOf (tss : List (List Re)) (lo g cap : Nat) (w' : World) : Prop := ∃ fs rest, leafTs fs = tss ∧ OwnW g cap fs rest lo w'.heap.size w'
theorem WoodOf.on {tss : List (List Re)} {lo g cap : Nat} {w w' : World} (h : WoodOf tss lo g cap w) (hb : Below w.heap.size w w') : WoodOf tss lo g cap w' := by
  obtain ⟨fs, rest, h1, h2⟩ := h
  exact ⟨fs, rest, h1, (h2.on hb).more⟩
end Go.Proofs.YtfcenombphodbaaDoor
