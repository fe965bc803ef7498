/-
  A heap of the call's own in a box: what is written into it.
-/
import Derived.Test.YtbdljoldblpffaaGreatCopyH10
import Derived.Test.YtbdljoldblpffaaGreatLead
import Derived.Test.YtbdljoldblpffaaGreatBend9
namespace Go.Proofs.YtbdljoldblpffaaGreat
open Go.RowKit
set_option linter.unusedVariables false
set_option maxRecDepth 100000

/-- One cell of a thing is written: not one of its lists. -/
theorem OwnA.bendV {g cap : Nat} {es : List El} {rest : List Value} {lo hi : Nat} {w : World} (h : OwnA g cap es rest lo hi w) {k : Nat} (hk : k < es.length) (j : Nat) (x : Value) (o' : Ob) (hj : j < 13) (hl : o'.ls = (elAt es k).o.ls ∧ o'.ds = (elAt es k).o.ds ∧ o'.qs = (elAt es k).o.qs)
    (he : elV ⟨o', (elAt es k).l, (elAt es k).d, (elAt es k).m⟩ = (elV (elAt es k)).set j x) :
    OwnA g cap (es.set k ⟨o', (elAt es k).l, (elAt es k).d, (elAt es k).m⟩) rest lo hi (w.setCell ⟨g, k * 13 + j, none⟩ x) := by
  have hgz := lt_of_block h.at'
  have hoo := h.own k hk
  have hne := h.ne k hk
  have HTW : Touch [g] w (w.setCell ⟨g, k * 13 + j, none⟩ x) := touch_one (grownBy_set w g _ _) hgz
  have hk3 : ∀ b y, b ∈ blks (elAt es k) → w.heap[b]? = some y → (w.setCell ⟨g, k * 13 + j, none⟩ x).heap[b]? = some y := fun b y hb hy => HTW.block _ _ (by simp; intro e; rw [e] at hb; exact hne hb) hy
  refine h.mark hk (o' := o') ?_ ⟨by rw [hl.1]; exact hoo.ls.keepIf fun b y hb hy => hk3 b y (by unfold blks; simp [hb]) hy, by rw [hl.2.1]; exact hoo.ds.keepIf fun b y hb hy => hk3 b y (by unfold blks; simp [hb]) hy, by rw [hl.2.2]; exact hoo.qs.keepIf fun b y hb hy => hk3 b y (by unfold blks; simp [hb]) hy, hoo.nd⟩ (fun b y hbg _ hy => HTW.block _ _ (by simpa using hbg) hy)
  have e := heap_setCell_same w g (k * 13 + j) _ 55 x h.at'
  rw [e, ecells_put1 hk rest ⟨o', (elAt es k).l, (elAt es k).d, (elAt es k).m⟩ j x hj he]
  simp only [List.setIfInBounds_toArray]
/-- A thing with another mark. -/
def marked (o : Ob) (v : Bool) : Ob := { o with mark := v }
/-- A heap of the call's own in a box of the call's own. -/
structure BoxH (lo b : Nat) (bs : List Nat) (p t r : Int) (os : List Ob) (xs : List Int) (g c : Nat) (G : Value) (w : World) : Prop where
  box : w.heap[b]? = some (boxH (.slice (some ⟨g, 0, none⟩) os.length c) p t r G)
  low : lo ≤ b
  own : OwnI lo w.heap.size w G xs
  not : ∀ k, k ∈ b :: bs → k ∉ Go.Proofs.YtbdljoldblpffaaGreat.blk G
  got : ∃ fs rest la ha, arOf fs = os ∧ OwnA g c fs rest la ha w ∧ lo ≤ la ∧ ha ≤ w.heap.size ∧ (∀ k, k ∈ Go.Proofs.YtbdljoldblpffaaGreat.blk G → k < la ∨ ha ≤ k) ∧ ∀ k, k ∈ b :: bs → k < la ∨ ha ≤ k
theorem BoxH.on {lo b : Nat} {bs : List Nat} {p t r : Int} {os : List Ob} {xs : List Int} {g c : Nat} {G : Value} {w w' : World} (h : BoxH lo b bs p t r os xs g c G w) (hb : Below w.heap.size w w') : BoxH lo b bs p t r os xs g c G w' := by
  obtain ⟨fs, rest, la, ha, h1, h2, h3, h4, h5, h6⟩ := h.got
  exact ⟨keep h.box hb, h.low, ownI_more h.own hb, h.not, fs, rest, la, ha, h1, h2.on hb, h3, Nat.le_trans h4 hb.size, h5, h6⟩
theorem BoxH.ints {lo b : Nat} {bs : List Nat} {p t r : Int} {os : List Ob} {xs : List Int} {g c : Nat} {G : Value} {w : World} (h : BoxH lo b bs p t r os xs g c G w) : IsInts w G xs := h.own.ints
theorem BoxH.arena {lo b : Nat} {bs : List Nat} {p t r : Int} {os : List Ob} {xs : List Int} {g c : Nat} {G : Value} {w : World} (h : BoxH lo b bs p t r os xs g c G w) : IsArena w (.slice (some ⟨g, 0, none⟩) os.length c) os := by
  obtain ⟨fs, rest, la, ha, h1, h2, _⟩ := h.got
  exact own_is h1 h2
/-- A copy is laid into a box. -/
theorem GotH.boxed {lo : Nat} {p t r : Int} {os : List Ob} {xs : List Int} {g c : Nat} {G : Value} {w1 : World} (h : GotH lo w1.heap.size os xs (.slice (some ⟨g, 0, none⟩) os.length c) G w1) (hl : lo ≤ w1.heap.size) : BoxH lo w1.heap.size [] p t r os xs g c G (w1.alloc (boxH (.slice (some ⟨g, 0, none⟩) os.length c) p t r G)) := by
  obtain ⟨g', c', fs, rest, la, ha, e, h2, h3, h4, h5, h6, h7, h8⟩ := h
  simp at e
  obtain ⟨rfl, rfl⟩ := e
  have hb := below_alloc w1 (boxH (.slice (some ⟨g, 0, none⟩) os.length c) p t r G)
  exact ⟨heap_alloc_new w1 _, hl, ownI_more h4 hb, fun k hk hm => by simp at hk; subst hk; have := (h4.blk hm).2.1; omega, fs, rest, la, ha, h2, h3.on hb, h6, Nat.le_trans h8 hb.size, h5, fun k hk => by simp at hk; subst hk; exact .inr h8⟩
/-- It is answered. -/
theorem BoxH.answer {lo b : Nat} {bs : List Nat} {p t r : Int} {os : List Ob} {xs : List Int} {g c : Nat} {G : Value} {w : World} (h : BoxH lo b bs p t r os xs g c G w) {R : Nat} (hR : R < lo) (a : Value) (p' t' r' : Int) (v : Value) {l0 : Nat} (h0 : l0 ≤ lo) : GotH l0 (wq5 w R 0 a p' t' r' v).heap.size os xs (.slice (some ⟨g, 0, none⟩) os.length c) G (wq5 w R 0 a p' t' r' v) := by
  obtain ⟨fs, rest, la, ha, h1, h2, h3, h4, h5, h6⟩ := h.got
  rw [size_wq5]
  exact ⟨g, c, fs, rest, la, ha, rfl, h1, h2.keepIn (fun k x hk hx => heap_wq5_other hx (by omega) _ _ _ _ _ _), h.own.move (fun k x hk _ hx => heap_wq5_other hx (by omega) _ _ _ _ _ _) h0 (Nat.le_refl _), h5, by omega, h4, by rw [size_wq5]; exact h4⟩
/-- A thing of it is marked, or not. -/
theorem BoxH.mark {lo b : Nat} {bs : List Nat} {p t r : Int} {os : List Ob} {xs : List Int} {g c : Nat} {G : Value} {w : World} (h : BoxH lo b bs p t r os xs g c G w) {k : Nat} (hk : k < os.length) (v : Bool) :
    BoxH lo b bs p t r (os.set k (marked (obAt os k) v)) xs g c G (w.setCell ⟨g, k * 13 + 9, none⟩ (.bool v)) := by
  obtain ⟨fs, rest, la, ha, h1, h2, h3, h4, h5, h6⟩ := h.got
  have hfl : k < fs.length := by rw [← arOf_length, h1]; exact hk
  have hog : (elAt fs k).o = obAt os k := by rw [← h1, arOf_at]
  have hgl := h2.lo
  have hgh := h2.hi
  have hm := h2.bendV hfl 9 (.bool v) (marked (obAt os k) v) (by decide) (by rw [hog]; exact ⟨rfl, rfl, rfl⟩) (by simp [elV, marked, hog])
  have hbg : b ≠ g := by have := h6 b (by simp); omega
  refine ⟨?_, h.low, ?_, h.not, _, rest, la, ha, ?_, hm, h3, by simpa using h4, h5, h6⟩
  · rw [List.length_set]; exact setCell_keep h.box hbg
  · have e : OwnI lo w.heap.size (w.setCell ⟨g, k * 13 + 9, none⟩ (.bool v)) G xs := h.own.keepIf fun b' x hb' hx => setCell_keep (g := g) hx (by have := h5 b' hb'; omega)
    simpa using e
  · rw [arOf_set, h1]
theorem BoxH.below {lo b : Nat} {bs : List Nat} {p t r : Int} {os : List Ob} {xs : List Int} {g c : Nat} {G : Value} {w : World} (h : BoxH lo b bs p t r os xs g c G w) {B : Nat} {w0 : World} (hB : B ≤ lo) (hb : Below B w0 w) (o : Nat) (v : Value) : Below B w0 (w.setCell ⟨g, o, none⟩ v) := by
  obtain ⟨fs, rest, la, ha, h1, h2, h3, _⟩ := h.got
  exact hb.setCell (by show B ≤ g; have := h2.lo; omega) v
/-- Where the mark of a thing lies. -/
theorem BoxH.at {lo b : Nat} {bs : List Nat} {p t r : Int} {os : List Ob} {xs : List Int} {g c : Nat} {G : Value} {w : World} (h : BoxH lo b bs p t r os xs g c G w) {k : Nat} (hk : k < os.length) : ∃ l d m, ObCells w ⟨g, k * 13, none⟩ (obAt os k) l d m ∧ (∀ i, w.frozen? ⟨g, i, none⟩ = false) ∧ Lists w l d m (obAt os k) := by
  obtain ⟨fs, rest, la, ha, h1, h2, _⟩ := h.got
  have hfl : k < fs.length := by rw [← arOf_length, h1]; exact hk
  have hog : (elAt fs k).o = obAt os k := by rw [← h1, arOf_at]
  refine ⟨(elAt fs k).l, (elAt fs k).d, (elAt fs k).m, ?_, fun i => h2.free i, ?_⟩
  · rw [← hog]; exact h2.cells hfl
  · rw [← hog]; exact (h2.own k hfl).lists
end Go.Proofs.YtbdljoldblpffaaGreat
