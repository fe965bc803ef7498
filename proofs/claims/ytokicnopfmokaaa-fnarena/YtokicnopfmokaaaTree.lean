/-
  Trees: what is read of one, and the laws' own copies.
-/
import Derived.Test.YtokicnopfmokaaaRows
import Derived.WalkKit
import Derived.WalkSpells
import Derived.WalkLawsBesides
import Derived.Laws.IdiomStrings
import Derived.Laws.IdiomRangeMap
import Derived.Deep.OwnRows
import Derived.Outline
import Derived.ProofKit
import Derived.OpenShut
import Derived.ShutString
import Derived.ChangeOld
import Derived.Below
import Derived.Deep.QuietTactic
import Derived.BigQuiet
import Derived.Maps.OwnSet
import Derived.Maps.AppendAt
import Derived.Laws.ResultCell
import Derived.Laws.StructEq
import Derived.WalkSmall
import Derived.Handy
namespace Go.Proofs.Ytokicnopfmokaaa
open Go.RowKit
set_option linter.unusedVariables false

theorem hid_of {p : Prop} (h : p) : Hid p := h
theorem wrap64_id (n : Int) (h0 : 0 ≤ n) (h1 : n < 4611686018427387904) : wrap64 n = n := by unfold wrap64; omega
theorem add_head (g i : Nat) : (⟨g, 0, none⟩ : Addr).add i = ⟨g, i, none⟩ := by unfold Addr.add; split <;> simp_all
theorem add_up (p : Addr) (i j : Nat) (hj : 0 < j) : p.add (i + j) = ⟨(p.add i).block, (p.add i).off + j, none⟩ := by
  unfold Addr.add
  by_cases h : i = 0
  · simp [h]; omega
  · simp [h]; omega
/-- What is left of a count when 'n' are taken; less than nought: -1. -/
def szOf (left : Int) (n : Nat) : Int := if (n : Int) ≤ left then left - n else -1
theorem szOf_yes {left : Int} {n : Nat} (h : (n : Int) ≤ left) : szOf left n = left - n := if_pos h
theorem szOf_no {left : Int} {n : Nat} (h : ¬ (n : Int) ≤ left) : szOf left n = -1 := if_neg h
theorem keep {w w' : World} {b : Nat} {o : Obj} (h : w.heap[b]? = some o) (hb : Below w.heap.size w w') : w'.heap[b]? = some o := by
  rw [hb.block b (lt_of_block h)]; exact h
theorem below_draw (w : World) : Below w.heap.size w w.drew := (Below.refl _ _).drew
theorem below_alloc (w : World) (o : Obj) : Below w.heap.size w (w.alloc o) := (Below.refl _ _).alloc (Nat.le_refl _) _
theorem below_more {w w1 w2 : World} (h : Below w.heap.size w w1) (hb : Below w1.heap.size w1 w2) : Below w.heap.size w w2 := h.trans (hb.mono h.size)
theorem grown_kept {w w' : World} {row : Option Nat} (hg : w.grownBy w' row) {k : Nat} {o : Obj} (h : w.heap[k]? = some o) (hk : row ≠ some k) : w'.heap[k]? = some o := by
  rw [hg.block k (lt_of_block h) (fun e => hk e.symm)]; exact h
theorem own : ownKnob Try.prog.godebug = none := by kernel_rfl
theorem laidOut : laidOutB Try.prog = true := by kernel_rfl

/-- A reserve. -/
structure Re where
  live : Bool
  par : Int
  a : Int
  b : Int
  c : Int
def noRe : Re := ⟨false, 0, 0, 0, 0⟩
def reAt (ts : List Re) (i : Nat) : Re := ts.getD i noRe
abbrev amt (a b c : Int) : Value := .agg #[.int .i64 a, .int .i64 b, .int .i64 c]
abbrev reV (l : Bool) (p a b c : Int) : Value := .agg #[.bool l, .int .i64 p, .int .i64 a, .int .i64 b, .int .i64 c]
/-- The five cells of one. -/
structure Cells5 (w : World) (q : Addr) (r : Re) : Prop where
  c0 : w.cell? q = some (.bool r.live)
  c1 : w.cell? ⟨q.block, q.off + 1, none⟩ = some (.int .i64 r.par)
  c2 : w.cell? ⟨q.block, q.off + 2, none⟩ = some (.int .i64 r.a)
  c3 : w.cell? ⟨q.block, q.off + 3, none⟩ = some (.int .i64 r.b)
  c4 : w.cell? ⟨q.block, q.off + 4, none⟩ = some (.int .i64 r.c)
theorem Cells5.on {w w' : World} {q : Addr} {r : Re} (h : Cells5 w q r) (hb : Below w.heap.size w w') : Cells5 w' q r :=
  have hq := World.block_lt_of_cell? w _ h.c0
  ⟨(hb.cell hq).trans h.c0, (hb.cell (p := ⟨q.block, q.off + 1, none⟩) hq).trans h.c1, (hb.cell (p := ⟨q.block, q.off + 2, none⟩) hq).trans h.c2, (hb.cell (p := ⟨q.block, q.off + 3, none⟩) hq).trans h.c3, (hb.cell (p := ⟨q.block, q.off + 4, none⟩) hq).trans h.c4⟩
/-- A slice of reserves that reads as 'ts'. -/
def IsTree (w : World) (v : Value) (ts : List Re) : Prop :=
  ∃ (a : Option Addr) (cap : Nat), v = .slice a ts.length cap ∧ ts.length ≤ cap ∧ ∀ i, i < ts.length → ∃ p, a = some p ∧ Cells5 w (p.add (i * 5)) (reAt ts i)
theorem IsTree.on {w w' : World} {v : Value} {ts : List Re} (h : IsTree w v ts) (hb : Below w.heap.size w w') : IsTree w' v ts := by
  obtain ⟨a, cap, hv, hc, hx⟩ := h
  refine ⟨a, cap, hv, hc, fun i hi => ?_⟩
  obtain ⟨p, hp, h1⟩ := hx i hi
  exact ⟨p, hp, h1.on hb⟩
theorem IsTree.at {w : World} {a : Option Addr} {n cap : Nat} {ts : List Re} (h : IsTree w (.slice a n cap) ts) {i : Nat} (hi : i < ts.length) : ∃ p q, a = some p ∧ p.add (i * 5) = q ∧ Cells5 w q (reAt ts i) := by
  obtain ⟨a', cap', hv, _, hx⟩ := h
  cases hv
  obtain ⟨p, hp, h1⟩ := hx i hi
  exact ⟨p, _, hp, rfl, h1⟩

/-- The cells of a tree. -/
def rcells (ts : List Re) : List Value := ts.flatMap fun r => [.bool r.live, .int .i64 r.par, .int .i64 r.a, .int .i64 r.b, .int .i64 r.c]
theorem rcells_length (ts : List Re) : (rcells ts).length = ts.length * 5 := by
  induction ts with
  | nil => rfl
  | cons c cs ih => simp [rcells] at ih ⊢; omega
theorem rcells_cons (r : Re) (ts : List Re) : rcells (r :: ts) = .bool r.live :: .int .i64 r.par :: .int .i64 r.a :: .int .i64 r.b :: .int .i64 r.c :: rcells ts := rfl
theorem rcells_append (a b : List Re) : rcells (a ++ b) = rcells a ++ rcells b := by simp [rcells]
theorem rcells_at (ts : List Re) : ∀ i, i < ts.length → (rcells ts)[i * 5]? = some (.bool (reAt ts i).live) ∧ (rcells ts)[i * 5 + 1]? = some (.int .i64 (reAt ts i).par) ∧ (rcells ts)[i * 5 + 2]? = some (.int .i64 (reAt ts i).a) ∧ (rcells ts)[i * 5 + 3]? = some (.int .i64 (reAt ts i).b) ∧ (rcells ts)[i * 5 + 4]? = some (.int .i64 (reAt ts i).c) := by
  induction ts with
  | nil => intro i hi; simp at hi
  | cons c cs ih =>
    intro i hi
    cases i with
    | zero => simp [rcells_cons, reAt]
    | succ i =>
      have := ih i (by simpa using hi)
      rw [rcells_cons, show (i + 1) * 5 = i * 5 + 1 + 1 + 1 + 1 + 1 by omega, show i * 5 + 1 + 1 + 1 + 1 + 1 + 1 = i * 5 + 1 + 1 + 1 + 1 + 1 + 1 from rfl, show i * 5 + 1 + 1 + 1 + 1 + 1 + 2 = i * 5 + 2 + 1 + 1 + 1 + 1 + 1 by omega, show i * 5 + 1 + 1 + 1 + 1 + 1 + 3 = i * 5 + 3 + 1 + 1 + 1 + 1 + 1 by omega, show i * 5 + 1 + 1 + 1 + 1 + 1 + 4 = i * 5 + 4 + 1 + 1 + 1 + 1 + 1 by omega]
      simp only [List.getElem?_cons_succ]
      simpa [reAt] using this
/-- One is written whole. -/
theorem rcells_set (ts : List Re) : ∀ (i : Nat) (r : Re), i < ts.length → (((((rcells ts).set (i * 5) (.bool r.live)).set (i * 5 + 1) (.int .i64 r.par)).set (i * 5 + 2) (.int .i64 r.a)).set (i * 5 + 3) (.int .i64 r.b)).set (i * 5 + 4) (.int .i64 r.c) = rcells (ts.set i r) := by
  induction ts with
  | nil => intro i r hi; simp at hi
  | cons c cs ih =>
    intro i r hi
    cases i with
    | zero => simp [rcells_cons]
    | succ i =>
      have := ih i r (by simpa using hi)
      rw [rcells_cons, show (i + 1) * 5 = i * 5 + 1 + 1 + 1 + 1 + 1 by omega, show i * 5 + 1 + 1 + 1 + 1 + 1 + 2 = i * 5 + 2 + 1 + 1 + 1 + 1 + 1 by omega, show i * 5 + 1 + 1 + 1 + 1 + 1 + 3 = i * 5 + 3 + 1 + 1 + 1 + 1 + 1 by omega, show i * 5 + 1 + 1 + 1 + 1 + 1 + 4 = i * 5 + 4 + 1 + 1 + 1 + 1 + 1 by omega]
      simp only [List.set_cons_succ, rcells_cons]
      rw [this]
/-- Five cells are written. -/
def w5 (w : World) (g i : Nat) (l : Bool) (p a b c : Int) : World := ((((w.setCell ⟨g, i, none⟩ (.bool l)).setCell ⟨g, i + 1, none⟩ (.int .i64 p)).setCell ⟨g, i + 2, none⟩ (.int .i64 a)).setCell ⟨g, i + 3, none⟩ (.int .i64 b)).setCell ⟨g, i + 4, none⟩ (.int .i64 c)
theorem made_tree (n : Nat) : (madeCells #[Value.bool false, .int .i64 0, .int .i64 0, .int .i64 0, .int .i64 0] (n * 5)).toList = rcells (List.replicate n noRe) := by
  induction n with
  | zero => simp [madeCells, rcells]
  | succ n ih =>
    have h1 : (madeCells #[Value.bool false, .int .i64 0, .int .i64 0, .int .i64 0, .int .i64 0] ((n + 1) * 5)).toList = (madeCells #[Value.bool false, .int .i64 0, .int .i64 0, .int .i64 0, .int .i64 0] (n * 5)).toList ++ [.bool false, .int .i64 0, .int .i64 0, .int .i64 0, .int .i64 0] := by
      rw [show (n + 1) * 5 = n * 5 + 1 + 1 + 1 + 1 + 1 by omega]
      unfold madeCells
      simp [Array.range_succ, show (n * 5 + 1) % 5 = 1 by omega, show (n * 5 + 2) % 5 = 2 by omega, show (n * 5 + 3) % 5 = 3 by omega, show (n * 5 + 4) % 5 = 4 by omega]
    rw [h1, ih, List.replicate_succ', rcells_append]
    rfl
/-- A tree that is filled from its head on. -/
def fillT (ts : List Re) (k : Nat) : List Re := ts.take k ++ List.replicate (ts.length - k) noRe
theorem fillT_start (ts : List Re) : fillT ts 0 = List.replicate ts.length noRe := by simp [fillT]
theorem fillT_end (ts : List Re) : fillT ts ts.length = ts := by simp [fillT]
theorem fillT_length (ts : List Re) (k : Nat) (h : k ≤ ts.length) : (fillT ts k).length = ts.length := by simp [fillT]; omega
theorem fillT_set (ts : List Re) (k : Nat) (h : k < ts.length) : (fillT ts k).set k (reAt ts k) = fillT ts (k + 1) := by
  unfold fillT
  rw [show ts.length - k = (ts.length - (k + 1)) + 1 by omega, List.replicate_succ, List.set_append_right _ _ (by simp; omega)]
  rw [show k - (ts.take k).length = 0 by simp; omega, List.set_cons_zero]
  rw [show ts.take (k + 1) = ts.take k ++ [reAt ts k] by rw [List.take_add_one, List.getElem?_eq_getElem h]; simp [reAt, h]]
  rw [List.append_assoc]
  rfl
/-- What must be known of five cells that are to be written. -/
structure Spare5 (w : World) (g i : Nat) : Prop where
  c0 : ∃ u, w.cell? ⟨g, i, none⟩ = some u
  c1 : ∃ u, w.cell? ⟨g, i + 1, none⟩ = some u
  c2 : ∃ u, w.cell? ⟨g, i + 2, none⟩ = some u
  c3 : ∃ u, w.cell? ⟨g, i + 3, none⟩ = some u
  c4 : ∃ u, w.cell? ⟨g, i + 4, none⟩ = some u
  f : ∀ j, w.frozen? ⟨g, j, none⟩ = false
theorem below_w5 {s : Nat} {w wr : World} {g i : Nat} (h : Below s w wr) (hg : s ≤ g) (l : Bool) (p a b c : Int) : Below s w (w5 wr g i l p a b c) :=
  ((((h.setCell (p := ⟨g, _, none⟩) hg _).setCell (p := ⟨g, _, none⟩) hg _).setCell (p := ⟨g, _, none⟩) hg _).setCell (p := ⟨g, _, none⟩) hg _).setCell (p := ⟨g, _, none⟩) hg _
end Go.Proofs.Ytokicnopfmokaaa
