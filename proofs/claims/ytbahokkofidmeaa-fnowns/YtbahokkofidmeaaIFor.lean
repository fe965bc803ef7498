/-
  FlowsFor and Needs of the program, whatever their arguments are.
-/
import Derived.Test.YtbahokkofidmeaaFlow
namespace Go.Proofs.Ytbahokkofidmeaa
open Go.RowKit Go.Maps
set_option linter.unusedVariables false

theorem ownedOf_some (o : Value) (own : List Int) (w : World) (ho : IsInts w o own) (hn : own.length ≤ 1048576) :
    Calls Try.prog 42 #[o] w fun e w' => ∃ m, e = .returned (.tuple #[.map m, .bool (ownOk own)]) ∧ Below w.heap.size w w' :=
  (ownedOf_any o own w ho hn).mono fun e w' ⟨h, hb⟩ => by
    unfold OwnedAns at h
    by_cases ho : ownOk own = true
    · rw [ho] at h ⊢; simp only [if_true] at h; exact ⟨_, h.1, hb⟩
    · have ho' : ownOk own = false := by simpa using ho
      rw [ho'] at h ⊢; simp only [Bool.false_eq_true, if_false] at h; exact ⟨_, h, hb⟩
theorem pad4_some (xs : List Int) : ∃ a b c d, pad4 xs = arr4 a b c d := by
  unfold pad4; split
  · exact ⟨_, _, _, _, rfl⟩
  · exact ⟨_, _, _, _, rfl⟩

set_option maxHeartbeats 2000000 in
theorem neededOf_no (o v u : Value) (own xs ys : List Int) (w : World) (ho : IsInts w o own) (hx : IsInts w v xs) (hy : IsInts w u ys) (hn : own.length ≤ 1048576) (h : (ownOk own && labelOk xs && labelOk ys) = false) :
    Calls Try.prog 39 #[o, .agg #[v], .agg #[u]] w fun e w' => e = .returned (.tuple #[.slice none 0 0, .bool false]) ∧ Below w.heap.size w w' := by
  have B0 := Behind.start w v u
  have c0 := ownedOf_some o own (boxed w v u) (ho.on B0.below) hn
  have c1 := fun w' (hb : Below w.heap.size w w') => levelsOf_any v xs w' (hx.on hb)
  have c2 := fun w' (hb : Below w.heap.size w w') => levelsOf_any u ys w' (hy.on hb)
  obtain ⟨x0, x1, x2, x3, p1⟩ := pad4_some xs
  obtain ⟨y0, y1, y2, y3, p2⟩ := pad4_some ys
  simp only [p1] at c1
  simp only [p2] at c2
  generalize ownOk own = q0 at c0 h
  generalize labelOk xs = q1 at c1 h
  generalize labelOk ys = q2 at c2 h
  have C1 : Hid (∀ w', Below w.heap.size w w' → _) := c1
  have C2 : Hid (∀ w', Below w.heap.size w w' → _) := c2
  have HB0 : Hid (Behind w v u (boxed w v u)) := B0
  clear c1 c2 B0 ho hx hy p1 p2
  cases q0 <;> cases q1 <;> cases q2 <;> simp at h
  all_goals
    go_enter Try.func39, Try.ntmps39
    go_wp2_with fail
    refine c0.mono ?_
    rintro e w1 ⟨m, rfl, hb1⟩
    clear c0
    have B1 := HB0.out.on hb1
    have k1 := B1.one
    have HB1 : Hid (Behind w v u w1) := B1
    clear B1 hb1 HB0
    go_wp2_with fail
    refine (C1.out _ HB1.out.below).mono ?_
    rintro e w2 ⟨rfl, hb2⟩
    have B2 := HB1.out.on hb2
    have k2 := B2.two
    have HB2 : Hid (Behind w v u (w2.alloc (.cells #[.int .i64 x0, .int .i64 x1, .int .i64 x2, .int .i64 x3] 66 (0, 0)))) := B2.on (below_alloc' w2 _)
    have hl1 : w.heap.size + 1 < w2.heap.size := World.block_lt_of_cell? w2 _ k2
    clear B2 hb2 HB1 k1
    go_wp2_with fail
    refine (C2.out _ HB2.out.below).mono ?_
    rintro e w3 ⟨rfl, hb3⟩
    have HB3 : Hid (Behind w v u (w3.alloc (.cells #[.int .i64 y0, .int .i64 y1, .int .i64 y2, .int .i64 y3] 66 (0, 0)))) := (HB2.out.on hb3).on (below_alloc' w3 _)
    clear hb3 HB2 k2 hl1
    go_wp2
    go_ret2
    exact ⟨rfl, HB3.out.below⟩

theorem neededOf_any (o v u : Value) (own xs ys : List Int) (w : World) (ho : IsInts w o own) (hx : IsInts w v xs) (hy : IsInts w u ys) (hn : own.length ≤ 1048576) :
    Calls Try.prog 39 #[o, .agg #[v], .agg #[u]] w fun e w' => ∃ r, e = .returned (.tuple #[r, .bool (flowsFor own xs ys)]) ∧ w'.ownsRow w.heap.size 3 1 r (needsOf own xs ys).length (icells (needsOf own xs ys)) ∧ Below w.heap.size w w' := by
  by_cases h : (ownOk own && labelOk xs && labelOk ys) = true
  · simp only [Bool.and_eq_true] at h
    exact neededOf_yes o v u own xs ys w ho hx hy hn h.1.1 h.1.2 h.2
  · have h' : (ownOk own && labelOk xs && labelOk ys) = false := by simpa using h
    rw [flowsFor_no h', needsOf_no (flowsFor_no h')]
    exact (neededOf_no o v u own xs ys w ho hx hy hn h').mono fun e w' ⟨he, hb⟩ => ⟨_, he, World.ownsRow_nil _ _ _ _, hb⟩

set_option maxHeartbeats 1000000 in
theorem implFlowsFor_any (o v u : Value) (own xs ys : List Int) (w : World) (ho : IsInts w o own) (hx : IsInts w v xs) (hy : IsInts w u ys) (hn : own.length ≤ 1048576) :
    Calls Try.prog 11 #[o, .agg #[v], .agg #[u]] w fun e w' => e = .returned (.bool (flowsFor own xs ys)) ∧ Below w.heap.size w w' := by
  have B0 := Behind.start w v u
  have c0 := neededOf_any o v u own xs ys (boxed w v u) (ho.on B0.below) (hx.on B0.below) (hy.on B0.below) hn
  generalize flowsFor own xs ys = b at c0 ⊢
  have HB0 : Hid (Behind w v u (boxed w v u)) := B0
  clear B0 ho hx hy
  go_enter Try.func11, Try.ntmps11
  go_wp2_with fail
  refine c0.mono ?_
  rintro e w1 ⟨r, rfl, _, hb1⟩
  clear c0
  have HB1 : Hid (Below w.heap.size w w1) := (HB0.out.on hb1).below
  clear hb1 HB0
  go_wp2
  go_ret
  exact ⟨rfl, HB1.out⟩

set_option maxHeartbeats 1000000 in
theorem implNeeds_any (o v u : Value) (own xs ys : List Int) (w : World) (ho : IsInts w o own) (hx : IsInts w v xs) (hy : IsInts w u ys) (hn : own.length ≤ 1048576) :
    Calls Try.prog 12 #[o, .agg #[v], .agg #[u]] w fun e w' => ∃ r, e = .returned r ∧ w'.ownsRow w.heap.size 3 1 r (needsOf own xs ys).length (icells (needsOf own xs ys)) ∧ Below w.heap.size w w' := by
  have B0 := Behind.start w v u
  have c0 := neededOf_any o v u own xs ys (boxed w v u) (ho.on B0.below) (hx.on B0.below) (hy.on B0.below) hn
  generalize flowsFor own xs ys = b at c0
  generalize needsOf own xs ys = ns at c0 ⊢
  have HB0 : Hid (Behind w v u (boxed w v u)) := B0
  clear B0 ho hx hy
  go_enter Try.func12, Try.ntmps12
  go_wp2_with fail
  refine c0.mono ?_
  rintro e w1 ⟨r, rfl, hr, hb1⟩
  clear c0
  have HB1 : Hid (Below w.heap.size w w1) := (HB0.out.on hb1).below
  have HR : Hid (w1.ownsRow w.heap.size 3 1 r ns.length (icells ns)) := own_from hr (by simp [boxed_size]; omega)
  clear hb1 HB0 hr
  go_wp2
  go_ret
  exact ⟨_, rfl, HR.out, HB1.out⟩
end Go.Proofs.Ytbahokkofidmeaa
