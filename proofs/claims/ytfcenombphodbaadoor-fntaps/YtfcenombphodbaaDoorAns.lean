/-
  A call's two answers in a region that draws: the first laid into a new box.
-/
import Derived.Test.YtfcenombphodbaaDoorCopy
namespace Go.Proofs.YtfcenombphodbaaDoor
open Go.RowKit
set_option linter.unusedVariables false
set_option maxRecDepth 100000

/-- What has been done: ia makes the box, is' fills it. -/
structure AnsR (w0 : World) (ia is' : Nat) (vals : List Value) (x y z : Int) (L : Nat → Bool) (us : Nat → Value) (w : World) : Prop where
  below : Below w0.heap.size w0 w
  vals : ∀ j, L j = true → j ≠ ia → us j = vals.getD j undef
  box : L ia = true → ∃ g p q r, us ia = .pointer (some ⟨g, 0, none⟩) ∧ w0.heap.size ≤ g ∧ Box3 w g 37 p q r ∧ (L is' = true → p = x ∧ q = y ∧ r = z)
theorem ansR_start (w0 : World) (ia is' : Nat) (vals : List Value) (x y z : Int) (us : Nat → Value) : AnsR w0 ia is' vals x y z (fun _ => false) us w0.drew :=
  ⟨(Below.refl _ _).drew, fun j hj => by (cases hj), fun hj => by (cases hj)⟩
theorem box_on {w w' : World} {g : Nat} {t : TypeId} {a b c : Int} (h : Box3 w g t a b c) (hb : Below w.heap.size w w') : Box3 w' g t a b c := h.on hb (lt_of_block h.at')
theorem AnsR.mark {w0 : World} {ia is' : Nat} {vals : List Value} {x y z : Int} {L : Nat → Bool} {us : Nat → Value} {w w' : World} {i : Nat} {v : Value} (h : AnsR w0 ia is' vals x y z L us w) (h1 : i ≠ ia) (h2 : i ≠ is') (hb : Below w.heap.size w w') (hv : v = vals.getD i undef) : AnsR w0 ia is' vals x y z (markd L i) (useAt us i v) w' := by
  refine ⟨below_more h.below hb, fun j hj hne => ?_, fun hj => ?_⟩
  · by_cases he : j = i
    · subst he; rw [use_same]; exact hv
    · rw [markd_other L he] at hj; rw [use_other us v he]; exact h.vals j hj hne
  · rw [markd_other L (fun e => h1 e.symm)] at hj
    obtain ⟨g, p, q, r, hu, hg, hbx, hl⟩ := h.box hj
    exact ⟨g, p, q, r, by rw [use_other us v (fun e => h1 e.symm)]; exact hu, hg, box_on hbx hb, fun hs => hl (by rw [markd_other L (fun e => h2 e.symm)] at hs; exact hs)⟩
theorem AnsR.new {w0 : World} {ia is' : Nat} {vals : List Value} {x y z : Int} {L : Nat → Bool} {us : Nat → Value} {w : World} (h : AnsR w0 ia is' vals x y z L us w) (hne : is' ≠ ia) (hs : L is' = false) : AnsR w0 ia is' vals x y z (markd L ia) (useAt us ia (.pointer (some ⟨w.heap.size, 0, none⟩))) (w.alloc (boxA 0 0 0)) := by
  refine ⟨below_more h.below (below_alloc w _), fun j hj hn => ?_, fun _ => ⟨w.heap.size, 0, 0, 0, use_same _ _ _, h.below.size, ⟨heap_alloc_new w _⟩, fun h' => ?_⟩⟩
  · rw [markd_other L hn] at hj; rw [use_other us _ hn]; exact h.vals j hj hn
  · rw [markd_other L hne, hs] at h'; cases h'
theorem AnsR.put {w0 : World} {ia is' : Nat} {vals : List Value} {x y z : Int} {L : Nat → Bool} {us : Nat → Value} {w : World} {g : Nat} (h : AnsR w0 ia is' vals x y z L us w) (hne : is' ≠ ia) (hv : vals.getD is' undef = undef) (ha : L ia = true) (hg : us ia = .pointer (some ⟨g, 0, none⟩)) :
    AnsR w0 ia is' vals x y z (markd L is') (useAt us is' undef) (((w.setCell ⟨g, 0, none⟩ (.int .i64 x)).setCell ⟨g, 1, none⟩ (.int .i64 y)).setCell ⟨g, 2, none⟩ (.int .i64 z)) := by
  obtain ⟨g', p, q, r, hu, hge, hbx, _⟩ := h.box ha
  obtain rfl : g' = g := by rw [hu] at hg; simpa using hg
  refine ⟨((h.below.setCell (p := ⟨g', 0, none⟩) hge _).setCell (p := ⟨g', 1, none⟩) hge _).setCell (p := ⟨g', 2, none⟩) hge _, fun j hj hn => ?_, fun _ => ⟨g', x, y, z, by rw [use_other us _ (fun e => hne e.symm)]; exact hu, hge, box3_set2 (box3_set1 (box3_set0 hbx _) _) _, fun _ => ⟨rfl, rfl, rfl⟩⟩⟩
  by_cases he : j = is'
  · subst he; rw [use_same]; exact hv.symm
  · rw [markd_other L he] at hj; rw [use_other us _ he]; exact h.vals j hj hn
end Go.Proofs.YtfcenombphodbaaDoor
