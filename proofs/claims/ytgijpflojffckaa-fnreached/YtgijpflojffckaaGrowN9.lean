/-
  What lies there while a thing is drawn.
-/
import Derived.Test.YtgijpflojffckaaDrawN9
namespace Go.Proofs.Ytgijpflojffckaa
open Go.RowKit
set_option linter.unusedVariables false
set_option maxRecDepth 100000

theorem type_apart8 {w : World} {g g' : Nat} {c c' : Array Value} {t t' : TypeId} {z z' : Nat × Nat} (h : w.heap[g]? = some (.cells c t z)) (h' : w.heap[g']? = some (.cells c' t' z')) (hne : t ≠ t') : g ≠ g' := fun e => by
  rw [e, h'] at h
  simp only [Option.some.injEq, Obj.cells.injEq] at h
  exact hne h.2.1.symm
/-- A thing that is being drawn: its box, its two links, the cursor. -/
structure GrowC (V : World) (g s B lb : Nat) (o : Ob) (dv mv : Value) (wr : World) : Prop where
  cur : CurE wr g s
  grown : V.grownBy wr (some g)
  box : wr.heap[B]? = some (boxO o (.slice (some ⟨lb, 0, none⟩) 2 2) dv mv)
  row : RowIn wr lb o.ls []
  hs : s ≤ V.heap.size
  hB : V.heap.size ≤ B
  hl : V.heap.size ≤ lb
  l2 : o.ls.length = 2
  fit : Fits o
abbrev RowD (w : World) (lb : Nat) (v : Value) (xs : List Int) : Prop := w.ownsRow (lb + 1) 3 1 v xs.length (icells xs)
abbrev RowL (w V : World) (v : Value) (xs : List Int) : Prop := w.ownsRow V.heap.size 3 1 v xs.length (icells xs)
abbrev RowQ (w V : World) (v : Value) (ms : List Ms) : Prop := w.ownsRow V.heap.size 65 2 v ms.length (mcells ms)
theorem GrowC.lt {V : World} {g s B lb : Nat} {o : Ob} {dv mv : Value} {wr : World} (h : GrowC V g s B lb o dv mv wr) : g < V.heap.size := Nat.lt_of_lt_of_le h.cur.lt h.hs
theorem GrowC.by' {V : World} {g s B lb : Nat} {o : Ob} {dv mv : Value} {wr w' : World} (h : GrowC V g s B lb o dv mv wr) (hc : CurE w' g s) (hg : wr.grownBy w' (some g)) : GrowC V g s B lb o dv mv w' :=
  ⟨hc, grownBy_trans h.grown hg, grown_kept hg h.box (fun e => by have := h.lt; have := h.hB; have := Option.some.inj e; omega), grown_kept hg h.row (fun e => by have := h.lt; have := h.hl; have := Option.some.inj e; omega), h.hs, h.hB, h.hl, h.l2, h.fit⟩
/-- Another row of the call's own turns. -/
theorem GrowC.row_turns {V : World} {g s B lb : Nat} {o : Ob} {dv mv : Value} {wr w' : World} (h : GrowC V g s B lb o dv mv wr) {r : Option Nat} (hg : wr.grownBy w' r) (hr : ∀ k, r = some k → V.heap.size ≤ k ∧ k ≠ lb ∧ k ≠ B) : GrowC V g s B lb o dv mv w' :=
  ⟨h.cur.keep (fun k hk => hg.block k (by have := h.hs; have := h.grown.size; omega) (fun e => by have := (hr k e.symm).1; have := h.hs; omega)), grown8_own h.grown hg fun k e => (hr k e).1, grown_kept hg h.box (fun e => (hr B e).2.2 rfl), grown_kept hg h.row (fun e => (hr lb e).2.1 rfl), h.hs, h.hB, h.hl, h.l2, h.fit⟩
theorem GrowC.alloc {V : World} {g s B lb : Nat} {o : Ob} {dv mv : Value} {wr : World} (h : GrowC V g s B lb o dv mv wr) (x : Obj) : GrowC V g s B lb o dv mv (wr.alloc x) :=
  h.row_turns (r := none) (World.grownBy_alloc wr x none) (fun k e => by cases e)
theorem GrowC.link {V : World} {g s B lb : Nat} {o : Ob} {dv mv : Value} {wr : World} (h : GrowC V g s B lb o dv mv wr) {k : Nat} (hk : k < 2) (x : Int) : GrowC V g s B lb { o with ls := o.ls.set k x } dv mv (wr.setCell ⟨lb, k, none⟩ (.int .i64 x)) := by
  have hne : B ≠ lb := type_apart8 h.box h.row (by decide)
  exact ⟨h.cur.set _ _ _ (by have := h.hs; have := h.hl; omega), grownBy_new8 h.grown h.hl _ _, setCell_keep h.box hne, h.row.set k (by rw [h.l2]; exact hk) x, h.hs, h.hB, h.hl, by show (o.ls.set k x).length = 2; rw [List.length_set]; exact h.l2, h.fit⟩
theorem GrowC.data {V : World} {g s B lb : Nat} {o : Ob} {dv mv : Value} {wr : World} (h : GrowC V g s B lb o dv mv wr) (dv' : Value) (ds : List Int) : GrowC V g s B lb { o with ds := ds } dv' mv (wr.setCell ⟨B, 11, none⟩ dv') := by
  have hne : lb ≠ B := fun e => type_apart8 h.box h.row (by decide) e.symm
  refine ⟨h.cur.set _ _ _ (by have := h.hs; have := h.hB; omega), grownBy_new8 h.grown h.hB _ _, ?_, setCell_keep h.row hne, h.hs, h.hB, h.hl, h.l2, h.fit⟩
  rw [heap_setCell_same _ _ _ _ _ _ h.box]; simp
theorem GrowC.queue {V : World} {g s B lb : Nat} {o : Ob} {dv mv : Value} {wr : World} (h : GrowC V g s B lb o dv mv wr) (mv' : Value) (qs : List Ms) : GrowC V g s B lb { o with qs := qs } dv mv' (wr.setCell ⟨B, 12, none⟩ mv') := by
  have hne : lb ≠ B := fun e => type_apart8 h.box h.row (by decide) e.symm
  refine ⟨h.cur.set _ _ _ (by have := h.hs; have := h.hB; omega), grownBy_new8 h.grown h.hB _ _, ?_, setCell_keep h.row hne, h.hs, h.hB, h.hl, h.l2, h.fit⟩
  rw [heap_setCell_same _ _ _ _ _ _ h.box]; simp
theorem GrowC.wait {V : World} {g s B lb : Nat} {o : Ob} {dv mv : Value} {wr : World} (h : GrowC V g s B lb o dv mv wr) (x : Int) (hx : -9223372036854775808 ≤ x ∧ x ≤ 9223372036854775807) : GrowC V g s B lb { o with wait := x } dv mv (wr.setCell ⟨B, 6, none⟩ (.int .i64 x)) := by
  have hne : lb ≠ B := fun e => type_apart8 h.box h.row (by decide) e.symm
  refine ⟨h.cur.set _ _ _ (by have := h.hs; have := h.hB; omega), grownBy_new8 h.grown h.hB _ _, ?_, setCell_keep h.row hne, h.hs, h.hB, h.hl, h.l2, hx⟩
  rw [heap_setCell_same _ _ _ _ _ _ h.box]; simp
theorem GrowC.got {V : World} {g s B lb : Nat} {o : Ob} {dv mv : Value} {wr : World} (h : GrowC V g s B lb o dv mv wr) (x : Int) : GrowC V g s B lb { o with got := x } dv mv (wr.setCell ⟨B, 7, none⟩ (.int .i64 x)) := by
  have hne : lb ≠ B := fun e => type_apart8 h.box h.row (by decide) e.symm
  refine ⟨h.cur.set _ _ _ (by have := h.hs; have := h.hB; omega), grownBy_new8 h.grown h.hB _ _, ?_, setCell_keep h.row hne, h.hs, h.hB, h.hl, h.l2, h.fit⟩
  rw [heap_setCell_same _ _ _ _ _ _ h.box]; simp
theorem GrowC.ran {V : World} {g s B lb : Nat} {o : Ob} {dv mv : Value} {wr : World} (h : GrowC V g s B lb o dv mv wr) (x : Int) : GrowC V g s B lb { o with ran := x } dv mv (wr.setCell ⟨B, 8, none⟩ (.int .i64 x)) := by
  have hne : lb ≠ B := fun e => type_apart8 h.box h.row (by decide) e.symm
  refine ⟨h.cur.set _ _ _ (by have := h.hs; have := h.hB; omega), grownBy_new8 h.grown h.hB _ _, ?_, setCell_keep h.row hne, h.hs, h.hB, h.hl, h.l2, h.fit⟩
  rw [heap_setCell_same _ _ _ _ _ _ h.box]; simp
theorem GrowC.c0 {V : World} {g s B lb : Nat} {o : Ob} {dv mv : Value} {wr : World} (h : GrowC V g s B lb o dv mv wr) : wr.cell? ⟨B, 0, none⟩ = some (.int .i64 o.gen) := by simp [World.cell?, h.box]
theorem GrowC.c1 {V : World} {g s B lb : Nat} {o : Ob} {dv mv : Value} {wr : World} (h : GrowC V g s B lb o dv mv wr) : wr.cell? ⟨B, 1, none⟩ = some (.int .i64 o.kind) := by simp [World.cell?, h.box]
theorem GrowC.c2 {V : World} {g s B lb : Nat} {o : Ob} {dv mv : Value} {wr : World} (h : GrowC V g s B lb o dv mv wr) : wr.cell? ⟨B, 2, none⟩ = some (.int .i64 o.into) := by simp [World.cell?, h.box]
theorem GrowC.c3 {V : World} {g s B lb : Nat} {o : Ob} {dv mv : Value} {wr : World} (h : GrowC V g s B lb o dv mv wr) : wr.cell? ⟨B, 3, none⟩ = some (.int .i64 o.res) := by simp [World.cell?, h.box]
theorem GrowC.c4 {V : World} {g s B lb : Nat} {o : Ob} {dv mv : Value} {wr : World} (h : GrowC V g s B lb o dv mv wr) : wr.cell? ⟨B, 4, none⟩ = some (.int .i64 o.unt) := by simp [World.cell?, h.box]
theorem GrowC.c5 {V : World} {g s B lb : Nat} {o : Ob} {dv mv : Value} {wr : World} (h : GrowC V g s B lb o dv mv wr) : wr.cell? ⟨B, 5, none⟩ = some (.int .i64 o.pages) := by simp [World.cell?, h.box]
theorem GrowC.c6 {V : World} {g s B lb : Nat} {o : Ob} {dv mv : Value} {wr : World} (h : GrowC V g s B lb o dv mv wr) : wr.cell? ⟨B, 6, none⟩ = some (.int .i64 o.wait) := by simp [World.cell?, h.box]
theorem GrowC.c7 {V : World} {g s B lb : Nat} {o : Ob} {dv mv : Value} {wr : World} (h : GrowC V g s B lb o dv mv wr) : wr.cell? ⟨B, 7, none⟩ = some (.int .i64 o.got) := by simp [World.cell?, h.box]
theorem GrowC.c8 {V : World} {g s B lb : Nat} {o : Ob} {dv mv : Value} {wr : World} (h : GrowC V g s B lb o dv mv wr) : wr.cell? ⟨B, 8, none⟩ = some (.int .i64 o.ran) := by simp [World.cell?, h.box]
theorem GrowC.c9 {V : World} {g s B lb : Nat} {o : Ob} {dv mv : Value} {wr : World} (h : GrowC V g s B lb o dv mv wr) : wr.cell? ⟨B, 9, none⟩ = some (.bool o.mark) := by simp [World.cell?, h.box]
theorem GrowC.c10 {V : World} {g s B lb : Nat} {o : Ob} {dv mv : Value} {wr : World} (h : GrowC V g s B lb o dv mv wr) : wr.cell? ⟨B, 10, none⟩ = some (.slice (some ⟨lb, 0, none⟩) 2 2) := by simp [World.cell?, h.box]
theorem GrowC.c11 {V : World} {g s B lb : Nat} {o : Ob} {dv mv : Value} {wr : World} (h : GrowC V g s B lb o dv mv wr) : wr.cell? ⟨B, 11, none⟩ = some (dv) := by simp [World.cell?, h.box]
theorem GrowC.c12 {V : World} {g s B lb : Nat} {o : Ob} {dv mv : Value} {wr : World} (h : GrowC V g s B lb o dv mv wr) : wr.cell? ⟨B, 12, none⟩ = some (mv) := by simp [World.cell?, h.box]
theorem GrowC.free {V : World} {g s B lb : Nat} {o : Ob} {dv mv : Value} {wr : World} (h : GrowC V g s B lb o dv mv wr) (i : Nat) : wr.frozen? ⟨B, i, none⟩ = false := by simp [World.frozen?, h.box]
def LastS (iS : Nat) (A : (Nat → Bool) → (Nat → Value) → World → Prop) (B : (Nat → Value) → World → Prop) (L : Nat → Bool) (us : Nat → Value) (w : World) : Prop := (L iS = false ∧ A L us w) ∨ (L iS = true ∧ B us w)
theorem lastS_start {iS : Nat} {A : (Nat → Bool) → (Nat → Value) → World → Prop} {B : (Nat → Value) → World → Prop} {us : Nat → Value} {w : World} (h : A (fun _ => false) us w) : LastS iS A B (fun _ => false) us w := .inl ⟨rfl, h⟩
theorem lastS_open {iS : Nat} {A : (Nat → Bool) → (Nat → Value) → World → Prop} {B : (Nat → Value) → World → Prop} {L : Nat → Bool} {us : Nat → Value} {w : World} (h : LastS iS A B L us w) (hf : L iS = false) : A L us w := by
  rcases h with h | h
  · exact h.2
  · rw [hf] at h; cases h.1
theorem lastS_end {iS : Nat} {A : (Nat → Bool) → (Nat → Value) → World → Prop} {B : (Nat → Value) → World → Prop} {L : Nat → Bool} {us : Nat → Value} {w : World} (h : LastS iS A B L us w) (hf : L iS = true) : B us w := by
  rcases h with h | h
  · rw [hf] at h; cases h.1
  · exact h.2
theorem lastS_step {iS : Nat} {A : (Nat → Bool) → (Nat → Value) → World → Prop} {B : (Nat → Value) → World → Prop} {L : Nat → Bool} {us' : Nat → Value} {w : World} {i : Nat} (hi : iS ≠ i) (hf : L iS = false) (h : A (markd L i) us' w) : LastS iS A B (markd L i) us' w := .inl ⟨by rw [markd_other L hi]; exact hf, h⟩
theorem lastS_late {iS : Nat} {A : (Nat → Bool) → (Nat → Value) → World → Prop} {B : (Nat → Value) → World → Prop} {L : Nat → Bool} {us' : Nat → Value} {w : World} {i : Nat} (hi : iS ≠ i) (hf : L iS = true) (h : B us' w) : LastS iS A B (markd L i) us' w := .inr ⟨by rw [markd_other L hi]; exact hf, h⟩
theorem lastS_last {iS : Nat} {A : (Nat → Bool) → (Nat → Value) → World → Prop} {B : (Nat → Value) → World → Prop} {L : Nat → Bool} {us : Nat → Value} {w : World} (h : B us w) : LastS iS A B (markd L iS) us w := .inr ⟨markd_same L iS, h⟩
end Go.Proofs.Ytgijpflojffckaa
