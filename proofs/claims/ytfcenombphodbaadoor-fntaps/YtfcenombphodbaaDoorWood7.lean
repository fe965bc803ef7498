/-
  What TapMove answers, in plain words; a region with one call that answers a tree.
-/
import Derived.Test.YtfcenombphodbaaDoorWood6
import Derived.Test.YtfcenombphodbaaDoorIPay
namespace Go.Proofs.YtfcenombphodbaaDoor
open Go.RowKit
set_option linter.unusedVariables false
set_option maxRecDepth 100000

def balAt (tss : List (List Re)) (P r : Int) : Re := reAt (treeAt tss P.toNat) r.toNat
/-- How much flows. -/
def moveN (tss : List (List Re)) (P r p q h k t : Int) : Int := flowOf r p q h k t (balAt tss P r).a (balAt tss P r).b (balAt tss P r).c
/-- The trees behind the paying. -/
def paidOf (tss : List (List Re)) (P r p q h k t : Int) : List (List Re) := tss.set P.toNat (payOf (treeAt tss P.toNat) r (oneA h (moveN tss P r p q h k t)) (oneB h (moveN tss P r p q h k t)) (oneC h (moveN tss P r p q h k t)))
def backB (tss : List (List Re)) (P r p q h k t : Int) : Bool := backOk (treeAt (paidOf tss P r p q h k t) p.toNat) (oneA h (moveN tss P r p q h k t)) (oneB h (moveN tss P r p q h k t)) (oneC h (moveN tss P r p q h k t))
/-- Does it flow? -/
def moveB (tss : List (List Re)) (P r p q h k t : Int) : Bool := mayB tss P r p q h k t && backB tss P r p q h k t
def moveOf (tss : List (List Re)) (P r p q h k t : Int) : List (List Re) := if moveB tss P r p q h k t then (paidOf tss P r p q h k t).set p.toNat (backOf (treeAt (paidOf tss P r p q h k t) p.toNat) q (oneA h (moveN tss P r p q h k t)) (oneB h (moveN tss P r p q h k t)) (oneC h (moveN tss P r p q h k t))) else tss
def moveM (tss : List (List Re)) (P r p q h k t : Int) : Int := if moveB tss P r p q h k t then moveN tss P r p q h k t else 0
theorem moveOf_length (tss : List (List Re)) (P r p q h k t : Int) : (moveOf tss P r p q h k t).length = tss.length := by
  unfold moveOf paidOf
  split <;> simp
/-- Trees of the call's own and a number are handed back. -/
def MoveAns (tss : List (List Re)) (n : Int) (w : World) (e : Ending) (w' : World) : Prop := ∃ g c fs rest, e = .returned (.tuple #[.slice (some ⟨g, 0, none⟩) tss.length c, .int .i64 n]) ∧ leafTs fs = tss ∧ OwnW g c fs rest w.heap.size w'.heap.size w' ∧ Below w.heap.size w w'
theorem treeAt_set_same {tss : List (List Re)} {i : Nat} {ts : List Re} (h : i < tss.length) : treeAt (tss.set i ts) i = ts := by simp [treeAt, h]
theorem treeAt_set_other (tss : List (List Re)) {i j : Nat} (ts : List Re) (h : i ≠ j) : treeAt (tss.set i ts) j = treeAt tss j := by
  unfold treeAt List.getD
  rw [List.getElem?_set_ne h]
theorem treeAt_set_len {tss : List (List Re)} {i : Nat} {ts : List Re} (hl : ts.length = (treeAt tss i).length) (j : Nat) : (treeAt (tss.set i ts) j).length = (treeAt tss j).length := by
  by_cases h : i = j
  · subst h
    by_cases hi : i < tss.length
    · rw [treeAt_set_same hi, hl]
    · rw [List.set_eq_of_length_le (by omega)]
  · rw [treeAt_set_other _ _ h]
/-- What has been done in a region: one call answers a tree; what is known of each operation hangs on nothing ('kn') or on the answer. -/
structure CallQ (W0 : World) (Base : World → Prop) (ns : List Re) (kn : Nat → Bool) (vals : List Value) (aft : Value → List Value) (L : Nat → Bool) (us : Nat → Value) (w : World) : Prop where
  below : Below W0.heap.size W0 w
  base : Base w
  vals : ∀ j, kn j = true → L j = true → us j = vals.getD j undef
  ans : ∀ j0, kn j0 = false → L j0 = true → ∃ g c rs, OwnT g c ns rs W0.heap.size w.heap.size w ∧ ∀ j, kn j = false → L j = true → us j = (aft (.slice (some ⟨g, 0, none⟩) ns.length c)).getD j undef
theorem callQ_start {W0 : World} {Base : World → Prop} (ns : List Re) (kn : Nat → Bool) (vals : List Value) (aft : Value → List Value) (us : Nat → Value) (hB : Base W0.drew) : CallQ W0 Base ns kn vals aft (fun _ => false) us W0.drew :=
  ⟨(Below.refl _ _).drew, hB, fun j _ hj => by (cases hj), fun j _ hj => by (cases hj)⟩
theorem CallQ.mark {W0 : World} {Base : World → Prop} {ns : List Re} {kn : Nat → Bool} {vals : List Value} {aft : Value → List Value} {L : Nat → Bool} {us : Nat → Value} {w w' : World} (h : CallQ W0 Base ns kn vals aft L us w) {i : Nat} {v : Value} (hi : kn i = true) (hb : Below w.heap.size w w') (hB : Base w') (hv : v = vals.getD i undef) : CallQ W0 Base ns kn vals aft (markd L i) (useAt us i v) w' := by
  refine ⟨below_more h.below hb, hB, fun j hj hL => ?_, fun j0 hj0 hL => ?_⟩
  · by_cases he : j = i
    · subst he; rw [use_same]; exact hv
    · rw [markd_other L he] at hL; rw [use_other us v he]; exact h.vals j hj hL
  · have hne : ∀ j, kn j = false → j ≠ i := fun j hj e => by rw [e, hi] at hj; cases hj
    rw [markd_other L (hne j0 hj0)] at hL
    obtain ⟨g, c, rs, ho, hu⟩ := h.ans j0 hj0 hL
    refine ⟨g, c, rs, (ho.on hb).more, fun j hj hLj => ?_⟩
    rw [markd_other L (hne j hj)] at hLj
    rw [use_other us v (hne j hj)]
    exact hu j hj hLj
theorem CallQ.call {W0 : World} {Base : World → Prop} {ns : List Re} {kn : Nat → Bool} {vals : List Value} {aft : Value → List Value} {L : Nat → Bool} {us : Nat → Value} {w w' : World} (h : CallQ W0 Base ns kn vals aft L us w) {i g c : Nat} {rs : List Value} {v : Value} (hi : kn i = false) (hL0 : ∀ j, kn j = false → j ≠ i → L j = false) (hb : Below w.heap.size w w') (hB : Base w') (ho : OwnT g c ns rs w.heap.size w'.heap.size w') (hv : v = (aft (.slice (some ⟨g, 0, none⟩) ns.length c)).getD i undef) : CallQ W0 Base ns kn vals aft (markd L i) (useAt us i v) w' := by
  refine ⟨below_more h.below hb, hB, fun j hj hL => ?_, fun j0 hj0 hL => ⟨g, c, rs, ho.lower h.below.size, fun j hj hLj => ?_⟩⟩
  · have hne : j ≠ i := fun e => by rw [e, hi] at hj; cases hj
    rw [markd_other L hne] at hL; rw [use_other us _ hne]; exact h.vals j hj hL
  · by_cases he : j = i
    · subst he; rw [use_same]; exact hv
    · rw [markd_other L he, hL0 j hj he] at hLj; cases hLj
theorem CallQ.after {W0 : World} {Base : World → Prop} {ns : List Re} {kn : Nat → Bool} {vals : List Value} {aft : Value → List Value} {L : Nat → Bool} {us : Nat → Value} {w : World} (h : CallQ W0 Base ns kn vals aft L us w) {g c i : Nat} {rs : List Value} {v : Value} (hi : kn i = false) (ho : OwnT g c ns rs W0.heap.size w.heap.size w) (hu : ∀ j, kn j = false → L j = true → us j = (aft (.slice (some ⟨g, 0, none⟩) ns.length c)).getD j undef) (hv : v = (aft (.slice (some ⟨g, 0, none⟩) ns.length c)).getD i undef) : CallQ W0 Base ns kn vals aft (markd L i) (useAt us i v) w := by
  refine ⟨h.below, h.base, fun j hj hL => ?_, fun j0 hj0 hL => ⟨g, c, rs, ho, fun j hj hLj => ?_⟩⟩
  · have hne : j ≠ i := fun e => by rw [e, hi] at hj; cases hj
    rw [markd_other L hne] at hL; rw [use_other us _ hne]; exact h.vals j hj hL
  · by_cases he : j = i
    · subst he; rw [use_same]; exact hv
    · rw [markd_other L he] at hLj; rw [use_other us _ he]; exact hu j hj hLj
/-- What both walks keep: the tap's box, the trees that came in. -/
structure Mv (w : World) (p0 : Addr) (n cap : Nat) (tss : List (List Re)) (r p q h k t : Int) (wr : World) : Prop where
  below : Below w.heap.size w wr
  tap : Tap6 wr w.heap.size r p q h k t
  wood : IsWood wr (.slice (some p0) n cap) tss
theorem Mv.on {w : World} {p0 : Addr} {n cap : Nat} {tss : List (List Re)} {r p q h k t : Int} {wr w' : World} (x : Mv w p0 n cap tss r p q h k t wr) (hb : Below wr.heap.size wr w') : Mv w p0 n cap tss r p q h k t w' := ⟨below_more x.below hb, x.tap.on hb, x.wood.on hb⟩
theorem mv_start {w : World} {p0 : Addr} {n cap : Nat} {tss : List (List Re)} (r p q h k t : Int) (hx : IsWood w (.slice (some p0) n cap) tss) : Mv w p0 n cap tss r p q h k t (w.alloc (boxT r p q h k t)) :=
  ⟨below_alloc w _, ⟨heap_alloc_new w _⟩, hx.on (below_alloc w _)⟩
theorem liveIn_true {ts : List Re} {r : Int} (h : liveIn ts r = true) : treeOk ts = true ∧ 0 ≤ r ∧ r ≤ 4 := by
  unfold liveIn at h
  simp only [Bool.and_eq_true, decide_eq_true_eq] at h
  exact ⟨h.1.1, h.1.2.1, h.1.2.2⟩
theorem mayB_true {tss : List (List Re)} {P r p q h k t : Int} (e : mayB tss P r p q h k t = true) : tss.all treeOk = true ∧ tss.length ≤ 3 ∧ tapOk r p q h k t = true ∧ 0 ≤ P ∧ P < tss.length ∧ p < tss.length ∧ liveIn (treeAt tss P.toNat) r = true := by
  unfold mayB woodOk at e
  simp only [Bool.and_eq_true, decide_eq_true_eq] at e
  exact ⟨e.1.1, e.1.2, e.2.1, e.2.2.1.1, e.2.2.1.2, e.2.2.2.1, e.2.2.2.2⟩
theorem moveB_no {tss : List (List Re)} {P r p q h k t : Int} (e : mayB tss P r p q h k t = false) : moveB tss P r p q h k t = false := by unfold moveB; rw [e]; rfl
theorem moveOf_no {tss : List (List Re)} {P r p q h k t : Int} (e : moveB tss P r p q h k t = false) : moveOf tss P r p q h k t = tss := by unfold moveOf; rw [e]; rfl
theorem moveM_no {tss : List (List Re)} {P r p q h k t : Int} (e : moveB tss P r p q h k t = false) : moveM tss P r p q h k t = 0 := by unfold moveM; rw [e]; rfl
end Go.Proofs.YtfcenombphodbaaDoor
