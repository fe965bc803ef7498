/-
  The program's Flows.
-/
import Derived.Test.YtbahokkofidmeaaIOne
import Derived.Test.YtbahokkofidmeaaJoin
import Derived.Test.YtbahokkofidmeaaEq4
namespace Go.Proofs.Ytbahokkofidmeaa
open Go.RowKit
set_option linter.unusedVariables false

theorem fpad4_some (xs : List Int) : ∃ a b c d, pad4 xs = arr4 a b c d := by
  unfold pad4; split <;> exact ⟨_, _, _, _, rfl⟩

theorem max_beq (x y : Int) : (max x y == y) = decide (x ≤ y) := by
  by_cases h : x ≤ y
  · rw [show max x y = y by omega]; simp [h]
  · have : max x y ≠ y := by omega
    simp [h, this]
theorem leAll_eq (xs ys : List Int) : leAll xs ys = ((max (xs.getD 0 0) (ys.getD 0 0) == ys.getD 0 0) && (max (xs.getD 1 0) (ys.getD 1 0) == ys.getD 1 0) && (max (xs.getD 2 0) (ys.getD 2 0) == ys.getD 2 0) && (max (xs.getD 3 0) (ys.getD 3 0) == ys.getD 3 0)) := by
  unfold leAll
  simp only [max_beq]
  rw [show List.range 4 = [0, 1, 2, 3] from rfl]
  simp only [List.all_cons, List.all_nil, Bool.and_true, Bool.and_assoc]

set_option maxHeartbeats 1000000 in
theorem implFlows_yes (v u : Value) (xs ys : List Int) (w : World) (hx : IsInts w v xs) (hy : IsInts w u ys) (h1 : labelOk xs = true) (h2 : labelOk ys = true) :
    Calls Try.prog 15 #[.agg #[v], .agg #[u]] w fun e w' => e = .returned (.bool (leAll xs ys)) ∧ Below w.heap.size w w' := by
  have B0 := Behind.start w v u
  have C1 := levelsOf_any v xs (boxed w v u) (hx.on B0.below)
  have c2 := fun w' (hb : Below w.heap.size w w') => levelsOf_any u ys w' (hy.on hb)
  rw [h1, pad4_yes (labelOk_four h1)] at C1
  simp only [h2, pad4_yes (labelOk_four h2)] at c2
  have HB0 : Hid (Behind w v u (boxed w v u)) := B0
  have hle := leAll_eq xs ys
  clear B0 hx hy h1 h2
  generalize leAll xs ys = fl at hle ⊢
  generalize xs.getD 0 0 = x0 at C1 hle
  generalize xs.getD 1 0 = x1 at C1 hle
  generalize xs.getD 2 0 = x2 at C1 hle
  generalize xs.getD 3 0 = x3 at C1 hle
  generalize ys.getD 0 0 = y0 at c2 hle
  generalize ys.getD 1 0 = y1 at c2 hle
  generalize ys.getD 2 0 = y2 at c2 hle
  generalize ys.getD 3 0 = y3 at c2 hle
  have C2 : Hid (∀ w', Below w.heap.size w w' → _) := c2
  have C3 : Hid (∀ w, _) := fun w => oneByOne_max x0 x1 x2 x3 y0 y1 y2 y3 w
  have HE : ∀ w, (Op.equalIn 10000 66 (arr4 (max x0 y0) (max x1 y1) (max x2 y2) (max x3 y3)) (arr4 y0 y1 y2 y3)).run Try.prog w = .ok fl w := fun w => by rw [eq4, hle]
  clear c2 hle
  go_enter Try.func15, Try.ntmps15
  go_wp2_with fail
  refine C1.mono ?_
  rintro e w1 ⟨rfl, hb1⟩
  clear C1
  have B1 := HB0.out.on hb1
  have k1 := B1.two
  have HB1 : Hid (Behind w v u (w1.alloc (.cells #[.int .i64 x0, .int .i64 x1, .int .i64 x2, .int .i64 x3] 66 (0, 0)))) := B1.on ((Below.refl _ _).alloc (Nat.le_refl _) _)
  have l1 : w.heap.size + 1 < w1.heap.size := World.block_lt_of_cell? w1 _ k1
  clear B1 hb1 HB0
  go_wp2_with fail
  refine (C2.out _ HB1.out.below).mono ?_
  rintro e w2 ⟨rfl, hb2⟩
  clear C2 k1 l1
  have B2 := HB1.out.on hb2
  have hx49 : w2.heap[w1.heap.size]? = some (.cells #[.int .i64 x0, .int .i64 x1, .int .i64 x2, .int .i64 x3] 66 (0, 0)) := by
    rw [hb2.block _ (by simp)]; exact heap_alloc_new w1 _
  have l2 : w1.heap.size < w2.heap.size := lt_of_block hx49
  have e0 : w2.cell? ⟨w1.heap.size, 0, none⟩ = some (.int .i64 x0) := by simp [World.cell?, hx49]
  have e1 : w2.cell? ⟨w1.heap.size, 1, none⟩ = some (.int .i64 x1) := by simp [World.cell?, hx49]
  have e2 : w2.cell? ⟨w1.heap.size, 2, none⟩ = some (.int .i64 x2) := by simp [World.cell?, hx49]
  have e3 : w2.cell? ⟨w1.heap.size, 3, none⟩ = some (.int .i64 x3) := by simp [World.cell?, hx49]
  have HB2 : Hid (Behind w v u (w2.alloc (.cells #[.int .i64 y0, .int .i64 y1, .int .i64 y2, .int .i64 y3] 66 (0, 0)))) := B2.on ((Below.refl _ _).alloc (Nat.le_refl _) _)
  clear B2 hx49 hb2 HB1
  go_wp2_with fail
  go_region_with (go_at_call 44; refine (C3.out _).mono ?_; rintro e w3 ⟨rfl, hb3⟩; have g0 : w3.cell? ⟨w2.heap.size, 0, none⟩ = some (.int .i64 y0) := (hb3.cell (by simp)).trans (by go_simp); have g1 : w3.cell? ⟨w2.heap.size, 1, none⟩ = some (.int .i64 y1) := (hb3.cell (by simp)).trans (by go_simp); have g2 : w3.cell? ⟨w2.heap.size, 2, none⟩ = some (.int .i64 y2) := (hb3.cell (by simp)).trans (by go_simp); have g3 : w3.cell? ⟨w2.heap.size, 3, none⟩ = some (.int .i64 y3) := (hb3.cell (by simp)).trans (by go_simp))
  all_goals have HB3 : Hid (Below w.heap.size w w3) := HB2.out.below.drew.trans (hb3.mono (by have := HB2.out.below.size; simpa using this))
  all_goals clear e0 e1 e2 e3 g0 g1 g2 g3 hb3 HB2 C3
  all_goals go_wp2
  all_goals go_ret
  all_goals exact ⟨rfl, HB3.out⟩

set_option maxHeartbeats 1000000 in
theorem implFlows_no (v u : Value) (xs ys : List Int) (w : World) (hx : IsInts w v xs) (hy : IsInts w u ys) (h : (labelOk xs && labelOk ys) = false) :
    Calls Try.prog 15 #[.agg #[v], .agg #[u]] w fun e w' => e = .returned (.bool false) ∧ Below w.heap.size w w' := by
  have B0 := Behind.start w v u
  have C1 := levelsOf_any v xs (boxed w v u) (hx.on B0.below)
  have c2 := fun w' (hb : Below w.heap.size w w') => levelsOf_any u ys w' (hy.on hb)
  obtain ⟨x0, x1, x2, x3, p1⟩ := fpad4_some xs
  obtain ⟨y0, y1, y2, y3, p2⟩ := fpad4_some ys
  rw [p1] at C1
  simp only [p2] at c2
  have HB0 : Hid (Behind w v u (boxed w v u)) := B0
  generalize labelOk xs = o1 at C1 h
  generalize labelOk ys = o2 at c2 h
  have C2 : Hid (∀ w', Below w.heap.size w w' → _) := c2
  clear c2 B0 hx hy p1 p2
  cases o1 <;> cases o2 <;> simp at h
  all_goals
    go_enter Try.func15, Try.ntmps15
    go_wp2_with fail
    refine C1.mono ?_
    rintro e w1 ⟨rfl, hb1⟩
    clear C1
    have B1 := HB0.out.on hb1
    have k1 := B1.two
    have HB1 : Hid (Behind w v u (w1.alloc (.cells #[.int .i64 x0, .int .i64 x1, .int .i64 x2, .int .i64 x3] 66 (0, 0)))) := B1.on ((Below.refl _ _).alloc (Nat.le_refl _) _)
    have l1 : w.heap.size + 1 < w1.heap.size := World.block_lt_of_cell? w1 _ k1
    clear B1 hb1 HB0
    go_wp2_with fail
    refine (C2.out _ HB1.out.below).mono ?_
    rintro e w2 ⟨rfl, hb2⟩
    clear C2 k1 l1
    have HB2 : Hid (Behind w v u (w2.alloc (.cells #[.int .i64 y0, .int .i64 y1, .int .i64 y2, .int .i64 y3] 66 (0, 0)))) := (HB1.out.on hb2).on ((Below.refl _ _).alloc (Nat.le_refl _) _)
    clear hb2 HB1
    go_wp2_with fail
    go_quiet (fail)
    go_wp2
    go_ret
    exact ⟨rfl, (HB2.out.drewN _).below⟩

theorem implFlows_any (v u : Value) (xs ys : List Int) (w : World) (hx : IsInts w v xs) (hy : IsInts w u ys) :
    Calls Try.prog 15 #[.agg #[v], .agg #[u]] w fun e w' => e = .returned (.bool (flowsTo xs ys)) ∧ Below w.heap.size w w' := by
  by_cases h : (labelOk xs && labelOk ys) = true
  · have h1 : labelOk xs = true := by simp at h; exact h.1
    have h2 : labelOk ys = true := by simp at h; exact h.2
    rw [show flowsTo xs ys = leAll xs ys by simp [flowsTo, h1, h2]]
    exact implFlows_yes v u xs ys w hx hy h1 h2
  · have h' : (labelOk xs && labelOk ys) = false := by simpa using h
    rw [show flowsTo xs ys = false by unfold flowsTo; rw [h']; rfl]
    exact implFlows_no v u xs ys w hx hy h'
end Go.Proofs.Ytbahokkofidmeaa
