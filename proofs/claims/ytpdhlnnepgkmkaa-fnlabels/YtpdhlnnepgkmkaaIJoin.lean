/-
  The program's chooseLevels, Join and Meet.
-/
import Derived.Test.YtpdhlnnepgkmkaaMeet
import Derived.Test.YtpdhlnnepgkmkaaIOne
import Derived.Test.YtpdhlnnepgkmkaaIRight
namespace Go.Proofs.Ytpdhlnnepgkmkaa
open Go.RowKit
set_option linter.unusedVariables false

theorem labelOk_each {xs : List Int} (h : labelOk xs = true) (i : Nat) (hi : i < 4) : 0 ≤ xs.getD i 0 ∧ xs.getD i 0 ≤ 3 := by
  have hl := labelOk_four h
  unfold labelOk at h
  simp only [Bool.and_eq_true, List.all_eq_true] at h
  have := h.2 (xs.getD i 0) (by rw [List.getD_eq_getElem?_getD, List.getElem?_eq_getElem (by omega)]; simp)
  unfold lvlOk at this
  simpa using this
theorem labelOk_of {a b c d : Int} (ha : 0 ≤ a ∧ a ≤ 3) (hb : 0 ≤ b ∧ b ≤ 3) (hc : 0 ≤ c ∧ c ≤ 3) (hd : 0 ≤ d ∧ d ≤ 3) : labelOk [a, b, c, d] = true := by
  refine labelOk_all rfl ?_
  simp [lvlOk]; omega
theorem max_in {x y : Int} (hx : 0 ≤ x ∧ x ≤ 3) (hy : 0 ≤ y ∧ y ≤ 3) : 0 ≤ max x y ∧ max x y ≤ 3 := by omega
theorem min_in {x y : Int} (hx : 0 ≤ x ∧ x ≤ 3) (hy : 0 ≤ y ∧ y ≤ 3) : 0 ≤ min x y ∧ min x y ≤ 3 := by omega
theorem pad4_some (xs : List Int) : ∃ a b c d, pad4 xs = arr4 a b c d := by
  unfold pad4; split <;> exact ⟨_, _, _, _, rfl⟩

/-- Three blocks: two labels in boxes, and the answer's place. -/
def threeW (w : World) (v u : Value) : World := ((w.alloc (.cells #[v] 26 (0, 0))).alloc (.cells #[u] 26 (0, 0))).alloc (.cells #[.slice none 0 0] 26 (0, 0))
theorem threeW_below (w : World) (v u : Value) : Below w.heap.size w (threeW w v u) := (((Below.refl _ _).alloc (Nat.le_refl _) _).alloc (by simp) _).alloc (by simp; omega) _
structure Three (w : World) (v u : Value) (wr : World) : Prop where
  b0 : wr.heap[w.heap.size]? = some (.cells #[v] 26 (0, 0))
  b1 : wr.heap[w.heap.size + 1]? = some (.cells #[u] 26 (0, 0))
  b2 : wr.heap[w.heap.size + 1 + 1]? = some (.cells #[.slice none 0 0] 26 (0, 0))
  below : Below w.heap.size w wr
theorem Three.size {w wr : World} {v u : Value} (h : Three w v u wr) : w.heap.size + 1 + 1 + 1 ≤ wr.heap.size := by
  have := lt_of_block h.b2; omega
theorem Three.on {w wr w' : World} {v u : Value} (h : Three w v u wr) (hb : Below wr.heap.size wr w') : Three w v u w' := by
  have hs := h.size
  exact ⟨by rw [hb.block _ (by omega)]; exact h.b0, by rw [hb.block _ (by omega)]; exact h.b1, by rw [hb.block _ (by omega)]; exact h.b2, h.below.trans (hb.mono (by omega))⟩
theorem threeW_three (w : World) (v u : Value) : Three w v u (threeW w v u) := by
  refine ⟨?_, ?_, ?_, threeW_below w v u⟩
  · unfold threeW
    rw [heap_alloc_old _ _ (by simp; omega), heap_alloc_old _ _ (by simp)]
    exact heap_alloc_new w _
  · unfold threeW
    rw [heap_alloc_old _ _ (by simp)]
    have := heap_alloc_new (w.alloc (.cells #[v] 26 (0, 0))) (.cells #[u] 26 (0, 0))
    simpa using this
  · have := heap_alloc_new ((w.alloc (.cells #[v] 26 (0, 0))).alloc (.cells #[u] 26 (0, 0))) (.cells #[.slice none 0 0] 26 (0, 0))
    simpa [threeW] using this

theorem right_join {xs ys : List Int} (h1 : labelOk xs = true) (h2 : labelOk ys = true) :
    rightOf [max (xs.getD 0 0) (ys.getD 0 0), max (xs.getD 1 0) (ys.getD 1 0), max (xs.getD 2 0) (ys.getD 2 0), max (xs.getD 3 0) (ys.getD 3 0)] = joinOf xs ys := by
  have e1 := labelOk_each h1
  have e2 := labelOk_each h2
  rw [rightOf_yes (labelOk_of (max_in (e1 0 (by omega)) (e2 0 (by omega))) (max_in (e1 1 (by omega)) (e2 1 (by omega))) (max_in (e1 2 (by omega)) (e2 2 (by omega))) (max_in (e1 3 (by omega)) (e2 3 (by omega))))]
  unfold joinOf joinTo
  rw [h1, h2]
  rfl

set_option maxHeartbeats 1000000 in
theorem choose_join (v u : Value) (xs ys : List Int) (w : World) (hx : IsInts w v xs) (hy : IsInts w u ys) :
    Calls Try.prog 33 #[.agg #[v], .agg #[u], .func (.func 34) #[] #[]] w fun e w' => ∃ r, e = .returned (.agg #[r]) ∧ w'.ownsRow w.heap.size 3 1 r (joinOf xs ys).length (icells (joinOf xs ys)) ∧ Below w.heap.size w w' := by
  have T0 := threeW_three w v u
  have C1 := levelsOf_any v xs (threeW w v u) (hx.on T0.below)
  have c2 := fun w' (hb : Below w.heap.size w w') => levelsOf_any u ys w' (hy.on hb)
  have HT0 : Hid (Three w v u (threeW w v u)) := T0
  clear T0 hx hy
  by_cases hok : (labelOk xs && labelOk ys) = true
  · have h1 : labelOk xs = true := by simp at hok; exact hok.1
    have h2 : labelOk ys = true := by simp at hok; exact hok.2
    have HR := right_join h1 h2
    rw [h1, pad4_yes (labelOk_four h1)] at C1
    simp only [h2, pad4_yes (labelOk_four h2)] at c2
    clear hok h1 h2
    obtain ⟨j, hj⟩ : ∃ j, j = joinOf xs ys := ⟨_, rfl⟩
    rw [← hj] at HR ⊢
    clear hj
    generalize xs.getD 0 0 = x0 at C1 HR
    generalize xs.getD 1 0 = x1 at C1 HR
    generalize xs.getD 2 0 = x2 at C1 HR
    generalize xs.getD 3 0 = x3 at C1 HR
    generalize ys.getD 0 0 = y0 at c2 HR
    generalize ys.getD 1 0 = y1 at c2 HR
    generalize ys.getD 2 0 = y2 at c2 HR
    generalize ys.getD 3 0 = y3 at c2 HR
    have C2 : Hid (∀ w', Below w.heap.size w w' → _) := c2
    have C3 : Hid (∀ w, _) := fun w => oneByOne_max x0 x1 x2 x3 y0 y1 y2 y3 w
    have C4 : Hid (∀ w, _) := fun w => rightOrZero_any (max x0 y0) (max x1 y1) (max x2 y2) (max x3 y3) w
    rw [HR] at C4
    clear c2 HR
    go_enter Try.func33, Try.ntmps33
    go_wp2_with fail
    refine C1.mono ?_
    rintro e w1 ⟨rfl, hb1⟩
    clear C1
    have T1 := HT0.out.on hb1
    have k1 := cell_of_one T1.b1
    have HT1 : Hid (Three w v u (w1.alloc (.cells #[.int .i64 x0, .int .i64 x1, .int .i64 x2, .int .i64 x3] 49 (0, 0)))) := T1.on ((Below.refl _ _).alloc (Nat.le_refl _) _)
    have l1 : w.heap.size + 1 < w1.heap.size := by have := T1.size; omega
    clear T1 hb1 HT0
    go_wp2_with fail
    refine (C2.out _ HT1.out.below).mono ?_
    rintro e w2 ⟨rfl, hb2⟩
    clear C2 k1 l1
    have T2 := HT1.out.on hb2
    have hx49 : w2.heap[w1.heap.size]? = some (.cells #[.int .i64 x0, .int .i64 x1, .int .i64 x2, .int .i64 x3] 49 (0, 0)) := by
      rw [hb2.block _ (by simp)]; exact heap_alloc_new w1 _
    have l2 : w1.heap.size < w2.heap.size := lt_of_block hx49
    have e0 : w2.cell? ⟨w1.heap.size, 0, none⟩ = some (.int .i64 x0) := by simp [World.cell?, hx49]
    have e1 : w2.cell? ⟨w1.heap.size, 1, none⟩ = some (.int .i64 x1) := by simp [World.cell?, hx49]
    have e2 : w2.cell? ⟨w1.heap.size, 2, none⟩ = some (.int .i64 x2) := by simp [World.cell?, hx49]
    have e3 : w2.cell? ⟨w1.heap.size, 3, none⟩ = some (.int .i64 x3) := by simp [World.cell?, hx49]
    have HT2 : Hid (Three w v u (w2.alloc (.cells #[.int .i64 y0, .int .i64 y1, .int .i64 y2, .int .i64 y3] 49 (0, 0)))) := T2.on ((Below.refl _ _).alloc (Nat.le_refl _) _)
    clear T2 hx49 hb2 HT1
    go_wp2_with fail
    refine (C3.out _).mono ?_
    rintro e w3 ⟨rfl, hb3⟩
    have HT3 : Hid (Three w v u w3) := HT2.out.on hb3
    clear hb3 HT2 C3 e0 e1 e2 e3 l2
    go_wp2_with fail
    refine (C4.out _).mono ?_
    rintro e w4 ⟨r, rfl, hown, hb4⟩
    have T4 := HT3.out.on hb4
    have z1 := cell_of_one T4.b2
    have z2 := free_of_one T4.b2
    have HT4 : Hid (Three w v u w4) := T4
    have HW : Hid (w4.ownsRow (w.heap.size + 1 + 1 + 1) 3 1 r j.length (icells j)) := own_from hown HT3.out.size
    obtain ⟨a1, n1, c1, rfl⟩ := own_shape hown
    clear hown hb4 T4 HT3 C4
    go_wp2
    have q0 : (w4.setCell ⟨w.heap.size + 1 + 1, 0, none⟩ (.slice a1 n1 c1)).cell? ⟨w.heap.size + 1 + 1, 0, none⟩ = some (.slice a1 n1 c1) := World.cell?_setCell_same _ _ _ z1
    refine bodyPost_ret (v := .agg #[.slice a1 n1 c1]) (by simp [results, go_sem, q0]) rfl ⟨_, rfl, ?_, ?_⟩
    · exact own_from (ownsRow_setCell_below HW.out (by first | (simp; done) | (simp; omega)) _) (by omega)
    · exact HT4.out.below.setCell (by first | (simp; done) | (simp; omega)) _
  · have hno : joinOf xs ys = [] := by unfold joinOf; rw [if_neg hok]
    rw [hno]
    clear hno
    obtain ⟨x0, x1, x2, x3, p1⟩ := pad4_some xs
    obtain ⟨y0, y1, y2, y3, p2⟩ := pad4_some ys
    rw [p1] at C1
    simp only [p2] at c2
    have hok2 : labelOk xs = false ∨ (labelOk xs = true ∧ labelOk ys = false) := by
      cases h1 : labelOk xs <;> simp_all
    clear hok p1 p2
    rcases hok2 with ho | ⟨ho, ho2⟩
    · rw [ho] at C1
      clear ho
      obtain ⟨o2, ho2⟩ : ∃ o, o = labelOk ys := ⟨_, rfl⟩
      rw [← ho2] at c2
      have C2 : Hid (∀ w', Below w.heap.size w w' → _) := c2
      clear c2 ho2
      go_enter Try.func33, Try.ntmps33
      go_wp2_with fail
      refine C1.mono ?_
      rintro e w1 ⟨rfl, hb1⟩
      clear C1
      have T1 := HT0.out.on hb1
      have k1 := cell_of_one T1.b1
      have HT1 : Hid (Three w v u (w1.alloc (.cells #[.int .i64 x0, .int .i64 x1, .int .i64 x2, .int .i64 x3] 49 (0, 0)))) := T1.on ((Below.refl _ _).alloc (Nat.le_refl _) _)
      have l1 : w.heap.size + 1 < w1.heap.size := by have := T1.size; omega
      clear T1 hb1 HT0
      go_wp2_with fail
      refine (C2.out _ HT1.out.below).mono ?_
      rintro e w2 ⟨rfl, hb2⟩
      clear C2 k1 l1
      have T2 := HT1.out.on hb2
      have z1 := cell_of_one T2.b2
      have z2 := free_of_one T2.b2
      have l2 : w.heap.size + 1 + 1 < w2.heap.size := by have := T2.size; omega
      have HT2 : Hid (Three w v u w2) := T2
      clear T2 hb2 HT1
      go_wp2
      have q0 : ((w2.setCell ⟨w.heap.size + 1 + 1, 0, none⟩ (.slice none 0 0)).alloc (.cells #[.int .i64 y0, .int .i64 y1, .int .i64 y2, .int .i64 y3] 49 (0, 0))).cell? ⟨w.heap.size + 1 + 1, 0, none⟩ = some (.slice none 0 0) := by
        rw [World.cell?_alloc_lt _ _ _ (by simpa using l2)]
        exact World.cell?_setCell_same _ _ _ z1
      refine bodyPost_ret (v := .agg #[.slice none 0 0]) (by simp [results, go_sem, q0]) rfl ⟨_, rfl, World.ownsRow_nil _ _ _ _, ?_⟩
      exact (HT2.out.below.setCell (by first | (simp; done) | (simp; omega)) _).alloc (by simp; omega) _
    · rw [ho] at C1
      rw [ho2] at c2
      clear ho
      have C2 : Hid (∀ w', Below w.heap.size w w' → _) := c2
      clear c2 ho2
      go_enter Try.func33, Try.ntmps33
      go_wp2_with fail
      refine C1.mono ?_
      rintro e w1 ⟨rfl, hb1⟩
      clear C1
      have T1 := HT0.out.on hb1
      have k1 := cell_of_one T1.b1
      have HT1 : Hid (Three w v u (w1.alloc (.cells #[.int .i64 x0, .int .i64 x1, .int .i64 x2, .int .i64 x3] 49 (0, 0)))) := T1.on ((Below.refl _ _).alloc (Nat.le_refl _) _)
      have l1 : w.heap.size + 1 < w1.heap.size := by have := T1.size; omega
      clear T1 hb1 HT0
      go_wp2_with fail
      refine (C2.out _ HT1.out.below).mono ?_
      rintro e w2 ⟨rfl, hb2⟩
      clear C2 k1 l1
      have T2 := HT1.out.on hb2
      have z1 := cell_of_one T2.b2
      have z2 := free_of_one T2.b2
      have l2 : w.heap.size + 1 + 1 < w2.heap.size := by have := T2.size; omega
      have HT2 : Hid (Three w v u w2) := T2
      clear T2 hb2 HT1
      go_wp2
      have q0 : ((w2.setCell ⟨w.heap.size + 1 + 1, 0, none⟩ (.slice none 0 0)).alloc (.cells #[.int .i64 y0, .int .i64 y1, .int .i64 y2, .int .i64 y3] 49 (0, 0))).cell? ⟨w.heap.size + 1 + 1, 0, none⟩ = some (.slice none 0 0) := by
        rw [World.cell?_alloc_lt _ _ _ (by simpa using l2)]
        exact World.cell?_setCell_same _ _ _ z1
      refine bodyPost_ret (v := .agg #[.slice none 0 0]) (by simp [results, go_sem, q0]) rfl ⟨_, rfl, World.ownsRow_nil _ _ _ _, ?_⟩
      exact (HT2.out.below.setCell (by first | (simp; done) | (simp; omega)) _).alloc (by simp; omega) _

set_option maxHeartbeats 400000 in
theorem implJoin_any (v u : Value) (xs ys : List Int) (w : World) (hx : IsInts w v xs) (hy : IsInts w u ys) :
    Calls Try.prog 13 #[.agg #[v], .agg #[u]] w fun e w' => ∃ r, e = .returned (.agg #[r]) ∧ w'.ownsRow w.heap.size 3 1 r (joinOf xs ys).length (icells (joinOf xs ys)) ∧ Below w.heap.size w w' := by
  have T0 := threeW_three w v u
  have C := choose_join v u xs ys (threeW w v u) (hx.on T0.below) (hy.on T0.below)
  have HT0 : Hid (Three w v u (threeW w v u)) := T0
  obtain ⟨j, hj⟩ : ∃ j, j = joinOf xs ys := ⟨_, rfl⟩
  rw [← hj] at C ⊢
  clear hj T0 hx hy
  go_enter Try.func13, Try.ntmps13
  go_wp2_with fail
  refine C.mono ?_
  rintro e w4 ⟨r, rfl, hown, hb4⟩
  have T4 := HT0.out.on hb4
  have z1 := cell_of_one T4.b2
  have z2 := free_of_one T4.b2
  have HT4 : Hid (Three w v u w4) := T4
  have HW : Hid (w4.ownsRow (w.heap.size + 1 + 1 + 1) 3 1 r j.length (icells j)) := own_from hown HT0.out.size
  obtain ⟨a1, n1, c1, rfl⟩ := own_shape hown
  clear hown hb4 T4 HT0 C
  go_wp2
  have q0 : (w4.setCell ⟨w.heap.size + 1 + 1, 0, none⟩ (.slice a1 n1 c1)).cell? ⟨w.heap.size + 1 + 1, 0, none⟩ = some (.slice a1 n1 c1) := World.cell?_setCell_same _ _ _ z1
  refine bodyPost_ret (v := .agg #[.slice a1 n1 c1]) (by simp [results, go_sem, q0]) rfl ⟨_, rfl, ?_, ?_⟩
  · exact own_from (ownsRow_setCell_below HW.out (by first | (simp; done) | (simp; omega)) _) (by omega)
  · exact HT4.out.below.setCell (by first | (simp; done) | (simp; omega)) _

theorem right_meet {xs ys : List Int} (h1 : labelOk xs = true) (h2 : labelOk ys = true) :
    rightOf [min (xs.getD 0 0) (ys.getD 0 0), min (xs.getD 1 0) (ys.getD 1 0), min (xs.getD 2 0) (ys.getD 2 0), min (xs.getD 3 0) (ys.getD 3 0)] = meetOf xs ys := by
  have e1 := labelOk_each h1
  have e2 := labelOk_each h2
  rw [rightOf_yes (labelOk_of (min_in (e1 0 (by omega)) (e2 0 (by omega))) (min_in (e1 1 (by omega)) (e2 1 (by omega))) (min_in (e1 2 (by omega)) (e2 2 (by omega))) (min_in (e1 3 (by omega)) (e2 3 (by omega))))]
  unfold meetOf meetTo
  rw [h1, h2]
  rfl

set_option maxHeartbeats 1000000 in
theorem choose_meet (v u : Value) (xs ys : List Int) (w : World) (hx : IsInts w v xs) (hy : IsInts w u ys) :
    Calls Try.prog 33 #[.agg #[v], .agg #[u], .func (.func 35) #[] #[]] w fun e w' => ∃ r, e = .returned (.agg #[r]) ∧ w'.ownsRow w.heap.size 3 1 r (meetOf xs ys).length (icells (meetOf xs ys)) ∧ Below w.heap.size w w' := by
  have T0 := threeW_three w v u
  have C1 := levelsOf_any v xs (threeW w v u) (hx.on T0.below)
  have c2 := fun w' (hb : Below w.heap.size w w') => levelsOf_any u ys w' (hy.on hb)
  have HT0 : Hid (Three w v u (threeW w v u)) := T0
  clear T0 hx hy
  by_cases hok : (labelOk xs && labelOk ys) = true
  · have h1 : labelOk xs = true := by simp at hok; exact hok.1
    have h2 : labelOk ys = true := by simp at hok; exact hok.2
    have HR := right_meet h1 h2
    rw [h1, pad4_yes (labelOk_four h1)] at C1
    simp only [h2, pad4_yes (labelOk_four h2)] at c2
    clear hok h1 h2
    obtain ⟨j, hj⟩ : ∃ j, j = meetOf xs ys := ⟨_, rfl⟩
    rw [← hj] at HR ⊢
    clear hj
    generalize xs.getD 0 0 = x0 at C1 HR
    generalize xs.getD 1 0 = x1 at C1 HR
    generalize xs.getD 2 0 = x2 at C1 HR
    generalize xs.getD 3 0 = x3 at C1 HR
    generalize ys.getD 0 0 = y0 at c2 HR
    generalize ys.getD 1 0 = y1 at c2 HR
    generalize ys.getD 2 0 = y2 at c2 HR
    generalize ys.getD 3 0 = y3 at c2 HR
    have C2 : Hid (∀ w', Below w.heap.size w w' → _) := c2
    have C3 : Hid (∀ w, _) := fun w => oneByOne_min x0 x1 x2 x3 y0 y1 y2 y3 w
    have C4 : Hid (∀ w, _) := fun w => rightOrZero_any (min x0 y0) (min x1 y1) (min x2 y2) (min x3 y3) w
    rw [HR] at C4
    clear c2 HR
    go_enter Try.func33, Try.ntmps33
    go_wp2_with fail
    refine C1.mono ?_
    rintro e w1 ⟨rfl, hb1⟩
    clear C1
    have T1 := HT0.out.on hb1
    have k1 := cell_of_one T1.b1
    have HT1 : Hid (Three w v u (w1.alloc (.cells #[.int .i64 x0, .int .i64 x1, .int .i64 x2, .int .i64 x3] 49 (0, 0)))) := T1.on ((Below.refl _ _).alloc (Nat.le_refl _) _)
    have l1 : w.heap.size + 1 < w1.heap.size := by have := T1.size; omega
    clear T1 hb1 HT0
    go_wp2_with fail
    refine (C2.out _ HT1.out.below).mono ?_
    rintro e w2 ⟨rfl, hb2⟩
    clear C2 k1 l1
    have T2 := HT1.out.on hb2
    have hx49 : w2.heap[w1.heap.size]? = some (.cells #[.int .i64 x0, .int .i64 x1, .int .i64 x2, .int .i64 x3] 49 (0, 0)) := by
      rw [hb2.block _ (by simp)]; exact heap_alloc_new w1 _
    have l2 : w1.heap.size < w2.heap.size := lt_of_block hx49
    have e0 : w2.cell? ⟨w1.heap.size, 0, none⟩ = some (.int .i64 x0) := by simp [World.cell?, hx49]
    have e1 : w2.cell? ⟨w1.heap.size, 1, none⟩ = some (.int .i64 x1) := by simp [World.cell?, hx49]
    have e2 : w2.cell? ⟨w1.heap.size, 2, none⟩ = some (.int .i64 x2) := by simp [World.cell?, hx49]
    have e3 : w2.cell? ⟨w1.heap.size, 3, none⟩ = some (.int .i64 x3) := by simp [World.cell?, hx49]
    have HT2 : Hid (Three w v u (w2.alloc (.cells #[.int .i64 y0, .int .i64 y1, .int .i64 y2, .int .i64 y3] 49 (0, 0)))) := T2.on ((Below.refl _ _).alloc (Nat.le_refl _) _)
    clear T2 hx49 hb2 HT1
    go_wp2_with fail
    refine (C3.out _).mono ?_
    rintro e w3 ⟨rfl, hb3⟩
    have HT3 : Hid (Three w v u w3) := HT2.out.on hb3
    clear hb3 HT2 C3 e0 e1 e2 e3 l2
    go_wp2_with fail
    refine (C4.out _).mono ?_
    rintro e w4 ⟨r, rfl, hown, hb4⟩
    have T4 := HT3.out.on hb4
    have z1 := cell_of_one T4.b2
    have z2 := free_of_one T4.b2
    have HT4 : Hid (Three w v u w4) := T4
    have HW : Hid (w4.ownsRow (w.heap.size + 1 + 1 + 1) 3 1 r j.length (icells j)) := own_from hown HT3.out.size
    obtain ⟨a1, n1, c1, rfl⟩ := own_shape hown
    clear hown hb4 T4 HT3 C4
    go_wp2
    have q0 : (w4.setCell ⟨w.heap.size + 1 + 1, 0, none⟩ (.slice a1 n1 c1)).cell? ⟨w.heap.size + 1 + 1, 0, none⟩ = some (.slice a1 n1 c1) := World.cell?_setCell_same _ _ _ z1
    refine bodyPost_ret (v := .agg #[.slice a1 n1 c1]) (by simp [results, go_sem, q0]) rfl ⟨_, rfl, ?_, ?_⟩
    · exact own_from (ownsRow_setCell_below HW.out (by first | (simp; done) | (simp; omega)) _) (by omega)
    · exact HT4.out.below.setCell (by first | (simp; done) | (simp; omega)) _
  · have hno : meetOf xs ys = [] := by unfold meetOf; rw [if_neg hok]
    rw [hno]
    clear hno
    obtain ⟨x0, x1, x2, x3, p1⟩ := pad4_some xs
    obtain ⟨y0, y1, y2, y3, p2⟩ := pad4_some ys
    rw [p1] at C1
    simp only [p2] at c2
    have hok2 : labelOk xs = false ∨ (labelOk xs = true ∧ labelOk ys = false) := by
      cases h1 : labelOk xs <;> simp_all
    clear hok p1 p2
    rcases hok2 with ho | ⟨ho, ho2⟩
    · rw [ho] at C1
      clear ho
      obtain ⟨o2, ho2⟩ : ∃ o, o = labelOk ys := ⟨_, rfl⟩
      rw [← ho2] at c2
      have C2 : Hid (∀ w', Below w.heap.size w w' → _) := c2
      clear c2 ho2
      go_enter Try.func33, Try.ntmps33
      go_wp2_with fail
      refine C1.mono ?_
      rintro e w1 ⟨rfl, hb1⟩
      clear C1
      have T1 := HT0.out.on hb1
      have k1 := cell_of_one T1.b1
      have HT1 : Hid (Three w v u (w1.alloc (.cells #[.int .i64 x0, .int .i64 x1, .int .i64 x2, .int .i64 x3] 49 (0, 0)))) := T1.on ((Below.refl _ _).alloc (Nat.le_refl _) _)
      have l1 : w.heap.size + 1 < w1.heap.size := by have := T1.size; omega
      clear T1 hb1 HT0
      go_wp2_with fail
      refine (C2.out _ HT1.out.below).mono ?_
      rintro e w2 ⟨rfl, hb2⟩
      clear C2 k1 l1
      have T2 := HT1.out.on hb2
      have z1 := cell_of_one T2.b2
      have z2 := free_of_one T2.b2
      have l2 : w.heap.size + 1 + 1 < w2.heap.size := by have := T2.size; omega
      have HT2 : Hid (Three w v u w2) := T2
      clear T2 hb2 HT1
      go_wp2
      have q0 : ((w2.setCell ⟨w.heap.size + 1 + 1, 0, none⟩ (.slice none 0 0)).alloc (.cells #[.int .i64 y0, .int .i64 y1, .int .i64 y2, .int .i64 y3] 49 (0, 0))).cell? ⟨w.heap.size + 1 + 1, 0, none⟩ = some (.slice none 0 0) := by
        rw [World.cell?_alloc_lt _ _ _ (by simpa using l2)]
        exact World.cell?_setCell_same _ _ _ z1
      refine bodyPost_ret (v := .agg #[.slice none 0 0]) (by simp [results, go_sem, q0]) rfl ⟨_, rfl, World.ownsRow_nil _ _ _ _, ?_⟩
      exact (HT2.out.below.setCell (by first | (simp; done) | (simp; omega)) _).alloc (by simp; omega) _
    · rw [ho] at C1
      rw [ho2] at c2
      clear ho
      have C2 : Hid (∀ w', Below w.heap.size w w' → _) := c2
      clear c2 ho2
      go_enter Try.func33, Try.ntmps33
      go_wp2_with fail
      refine C1.mono ?_
      rintro e w1 ⟨rfl, hb1⟩
      clear C1
      have T1 := HT0.out.on hb1
      have k1 := cell_of_one T1.b1
      have HT1 : Hid (Three w v u (w1.alloc (.cells #[.int .i64 x0, .int .i64 x1, .int .i64 x2, .int .i64 x3] 49 (0, 0)))) := T1.on ((Below.refl _ _).alloc (Nat.le_refl _) _)
      have l1 : w.heap.size + 1 < w1.heap.size := by have := T1.size; omega
      clear T1 hb1 HT0
      go_wp2_with fail
      refine (C2.out _ HT1.out.below).mono ?_
      rintro e w2 ⟨rfl, hb2⟩
      clear C2 k1 l1
      have T2 := HT1.out.on hb2
      have z1 := cell_of_one T2.b2
      have z2 := free_of_one T2.b2
      have l2 : w.heap.size + 1 + 1 < w2.heap.size := by have := T2.size; omega
      have HT2 : Hid (Three w v u w2) := T2
      clear T2 hb2 HT1
      go_wp2
      have q0 : ((w2.setCell ⟨w.heap.size + 1 + 1, 0, none⟩ (.slice none 0 0)).alloc (.cells #[.int .i64 y0, .int .i64 y1, .int .i64 y2, .int .i64 y3] 49 (0, 0))).cell? ⟨w.heap.size + 1 + 1, 0, none⟩ = some (.slice none 0 0) := by
        rw [World.cell?_alloc_lt _ _ _ (by simpa using l2)]
        exact World.cell?_setCell_same _ _ _ z1
      refine bodyPost_ret (v := .agg #[.slice none 0 0]) (by simp [results, go_sem, q0]) rfl ⟨_, rfl, World.ownsRow_nil _ _ _ _, ?_⟩
      exact (HT2.out.below.setCell (by first | (simp; done) | (simp; omega)) _).alloc (by simp; omega) _

set_option maxHeartbeats 400000 in
theorem implMeet_any (v u : Value) (xs ys : List Int) (w : World) (hx : IsInts w v xs) (hy : IsInts w u ys) :
    Calls Try.prog 14 #[.agg #[v], .agg #[u]] w fun e w' => ∃ r, e = .returned (.agg #[r]) ∧ w'.ownsRow w.heap.size 3 1 r (meetOf xs ys).length (icells (meetOf xs ys)) ∧ Below w.heap.size w w' := by
  have T0 := threeW_three w v u
  have C := choose_meet v u xs ys (threeW w v u) (hx.on T0.below) (hy.on T0.below)
  have HT0 : Hid (Three w v u (threeW w v u)) := T0
  obtain ⟨j, hj⟩ : ∃ j, j = meetOf xs ys := ⟨_, rfl⟩
  rw [← hj] at C ⊢
  clear hj T0 hx hy
  go_enter Try.func14, Try.ntmps14
  go_wp2_with fail
  refine C.mono ?_
  rintro e w4 ⟨r, rfl, hown, hb4⟩
  have T4 := HT0.out.on hb4
  have z1 := cell_of_one T4.b2
  have z2 := free_of_one T4.b2
  have HT4 : Hid (Three w v u w4) := T4
  have HW : Hid (w4.ownsRow (w.heap.size + 1 + 1 + 1) 3 1 r j.length (icells j)) := own_from hown HT0.out.size
  obtain ⟨a1, n1, c1, rfl⟩ := own_shape hown
  clear hown hb4 T4 HT0 C
  go_wp2
  have q0 : (w4.setCell ⟨w.heap.size + 1 + 1, 0, none⟩ (.slice a1 n1 c1)).cell? ⟨w.heap.size + 1 + 1, 0, none⟩ = some (.slice a1 n1 c1) := World.cell?_setCell_same _ _ _ z1
  refine bodyPost_ret (v := .agg #[.slice a1 n1 c1]) (by simp [results, go_sem, q0]) rfl ⟨_, rfl, ?_, ?_⟩
  · exact own_from (ownsRow_setCell_below HW.out (by first | (simp; done) | (simp; omega)) _) (by omega)
  · exact HT4.out.below.setCell (by first | (simp; done) | (simp; omega)) _
end Go.Proofs.Ytpdhlnnepgkmkaa
