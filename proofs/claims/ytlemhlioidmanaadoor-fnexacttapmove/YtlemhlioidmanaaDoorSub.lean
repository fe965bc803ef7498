/-
  Amounts: what the model answers, what is taken away.
-/
import Derived.Test.YtlemhlioidmanaaDoorSpec
namespace Go.Proofs.YtlemhlioidmanaaDoor
open Go.RowKit
set_option linter.unusedVariables false
set_option maxRecDepth 100000


/-- Three numbers in a block. -/
structure Box3 (w : World) (g : Nat) (t : TypeId) (a b c : Int) : Prop where
  at' : w.heap[g]? = some (.cells #[.int .i64 a, .int .i64 b, .int .i64 c] t (0, 0))
theorem Box3.c0 {w : World} {g : Nat} {t : TypeId} {a b c : Int} (h : Box3 w g t a b c) : w.cell? ⟨g, 0, none⟩ = some (.int .i64 a) := by simp [World.cell?, h.at']
theorem Box3.c1 {w : World} {g : Nat} {t : TypeId} {a b c : Int} (h : Box3 w g t a b c) : w.cell? ⟨g, 1, none⟩ = some (.int .i64 b) := by simp [World.cell?, h.at']
theorem Box3.c2 {w : World} {g : Nat} {t : TypeId} {a b c : Int} (h : Box3 w g t a b c) : w.cell? ⟨g, 2, none⟩ = some (.int .i64 c) := by simp [World.cell?, h.at']
theorem Box3.f0 {w : World} {g : Nat} {t : TypeId} {a b c : Int} (h : Box3 w g t a b c) (i : Nat) : w.frozen? ⟨g, i, none⟩ = false := by simp [World.frozen?, h.at']
theorem Box3.on {w w' : World} {g : Nat} {t : TypeId} {a b c : Int} (h : Box3 w g t a b c) {B : Nat} (hb : Below B w w') (hg : g < B) : Box3 w' g t a b c := ⟨by rw [hb.block g hg]; exact h.at'⟩

theorem three_boxes (w : World) (a b c d e f : Int) (w1 : World)
    (hb : Below (w.heap.size + 1 + 1 + 1) (((w.alloc (boxA a b c)).alloc (boxA d e f)).alloc (boxA 0 0 0)) w1) :
    Box3 w1 w.heap.size 49 a b c ∧ Box3 w1 (w.heap.size + 1) 49 d e f ∧ Box3 w1 (w.heap.size + 1 + 1) 49 0 0 0 ∧ Below w.heap.size w w1 := by
  refine ⟨⟨?_⟩, ⟨?_⟩, ⟨?_⟩, ?_⟩
  · rw [hb.block _ (by omega), heap_alloc_old _ _ (by simp; omega), heap_alloc_old _ _ (by simp)]
    exact heap_alloc_new w _
  · rw [hb.block _ (by omega), heap_alloc_old _ _ (by simp)]
    have := heap_alloc_new (w.alloc (boxA a b c)) (boxA d e f)
    simpa using this
  · rw [hb.block _ (by omega)]
    have := heap_alloc_new ((w.alloc (boxA a b c)).alloc (boxA d e f)) (boxA 0 0 0)
    simpa using this
  · exact ((((Below.refl _ _).alloc (Nat.le_refl _) _).alloc (by simp) _).alloc (by simp; omega) _).trans (hb.mono (by omega))

theorem Box3.put {w : World} {g : Nat} {t : TypeId} {a b c : Int} (h : Box3 w g t a b c) (x y z : Value) :
    (w.setCell ⟨g, 0, none⟩ x).cell? ⟨g, 0, none⟩ = some x ∧ ((w.setCell ⟨g, 0, none⟩ x).setCell ⟨g, 1, none⟩ y).cell? ⟨g, 1, none⟩ = some y ∧ (((w.setCell ⟨g, 0, none⟩ x).setCell ⟨g, 1, none⟩ y).setCell ⟨g, 2, none⟩ z).cell? ⟨g, 2, none⟩ = some z := by
  have h1 : (w.setCell ⟨g, 0, none⟩ x).cell? ⟨g, 1, none⟩ = some (.int .i64 b) := by rw [World.cell?_setCell_other _ _ _ _ (by simp)]; exact h.c1
  have h2 : ((w.setCell ⟨g, 0, none⟩ x).setCell ⟨g, 1, none⟩ y).cell? ⟨g, 2, none⟩ = some (.int .i64 c) := by
    rw [World.cell?_setCell_other _ _ _ _ (by simp), World.cell?_setCell_other _ _ _ _ (by simp)]; exact h.c2
  exact ⟨World.cell?_setCell_same _ _ _ h.c0, World.cell?_setCell_same _ _ _ h1, World.cell?_setCell_same _ _ _ h2⟩
theorem below_put {w wr : World} {g : Nat} (h : Below w.heap.size w wr) (hg : w.heap.size ≤ g) (x y z : Value) :
    Below w.heap.size w (((wr.setCell ⟨g, 0, none⟩ x).setCell ⟨g, 1, none⟩ y).setCell ⟨g, 2, none⟩ z) :=
  ((h.setCell hg _).setCell hg _).setCell hg _
theorem specSub_no (a b c d e f : Int) (w : World) (h : fitsIn d e f a b c = false) :
    Calls Tryd.prog 38 #[amt a b c, amt d e f] w fun r w' => r = .returned (.tuple #[amt a b c, .bool false]) ∧ Below w.heap.size w w' := by
  have C0 := specFits_any d e f a b c (((w.alloc (boxA a b c)).alloc (boxA d e f)).alloc (boxA 0 0 0))
  rw [h] at C0
  clear h
  go_enter Tryd.func38, Tryd.ntmps38
  go_wp2_with fail
  refine C0.mono ?_
  rintro r w1 ⟨rfl, hb⟩
  obtain ⟨b0, b1, b2, hb1⟩ := three_boxes w a b c d e f w1 (by simpa using hb)
  have HB : Hid (Below w.heap.size w w1) := hb1
  have q0 := b0.c0
  have q1 := b0.c1
  have q2 := b0.c2
  have r0 := b2.c0
  have r1 := b2.c1
  have r2 := b2.c2
  have f0 := b2.f0 0
  have f1 := b2.f0 1
  have f2 := b2.f0 2
  have HP := hid_of (b2.put (.int .i64 a) (.int .i64 b) (.int .i64 c))
  clear b0 b1 b2 hb1 hb C0
  go_wp2
  obtain ⟨p0, p1, p2⟩ := HP.out
  refine bodyPost_ret (v := .tuple #[amt a b c, .bool false]) (by simp [results, go_sem, p0, p1, p2]) rfl ⟨rfl, below_put HB.out (by omega) _ _ _⟩
theorem specSub_yes (a b c d e f : Int) (w : World) (h : fitsIn d e f a b c = true) :
    Calls Tryd.prog 38 #[amt a b c, amt d e f] w fun r w' => r = .returned (.tuple #[amt (a - d) (b - e) (c - f), .bool true]) ∧ Below w.heap.size w w' := by
  have C0 := specFits_any d e f a b c (((w.alloc (boxA a b c)).alloc (boxA d e f)).alloc (boxA 0 0 0))
  rw [h] at C0
  obtain ⟨⟨hx, hy⟩, _⟩ : (amtOk d e f = true ∧ amtOk a b c = true) ∧ ((d ≤ a ∧ e ≤ b) ∧ f ≤ c) := by unfold fitsIn at h; simpa using h
  obtain ⟨u0, u1, u2⟩ := amtOk_true hx
  obtain ⟨v0, v1, v2⟩ := amtOk_true hy
  have w0 : wrap64 (a - d) = a - d := wrap_near (by omega) (by omega)
  have w1 : wrap64 (b - e) = b - e := wrap_near (by omega) (by omega)
  have w2 : wrap64 (c - f) = c - f := wrap_near (by omega) (by omega)
  clear h hx hy u0 u1 u2 v0 v1 v2
  go_enter Tryd.func38, Tryd.ntmps38
  go_wp2_with fail
  refine C0.mono ?_
  rintro r w1 ⟨rfl, hb⟩
  obtain ⟨b0, b1, b2, hb1⟩ := three_boxes w a b c d e f w1 (by simpa using hb)
  have HB : Hid (Below w.heap.size w w1) := hb1
  have q0 := b0.c0
  have q1 := b0.c1
  have q2 := b0.c2
  have s0 := b1.c0
  have s1 := b1.c1
  have s2 := b1.c2
  have r0 := b2.c0
  have r1 := b2.c1
  have r2 := b2.c2
  have f0 := b2.f0 0
  have f1 := b2.f0 1
  have f2 := b2.f0 2
  have HP := hid_of (b2.put (.int .i64 (a - d)) (.int .i64 (b - e)) (.int .i64 (c - f)))
  clear b0 b1 b2 hb1 hb C0
  go_wp2
  obtain ⟨p0, p1, p2⟩ := HP.out
  refine bodyPost_ret (v := .tuple #[amt (a - d) (b - e) (c - f), .bool true]) (by simp [results, go_sem, p0, p1, p2]) rfl ⟨rfl, below_put HB.out (by omega) _ _ _⟩
end Go.Proofs.YtlemhlioidmanaaDoor
